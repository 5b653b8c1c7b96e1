/-
  Texts of the proof, joined: CRows, CThere, Out, CSpare, AppM.
-/
import Derived.Test.YtmcaejooaaahdaaGreatZ08
import Derived.Maps.AppendAt
import Derived.Test.YtmcaejooaaahdaaGreatZ07
import Derived.Deep.AppendSrc
import Derived.Lib.AppendZeros
namespace Go.Proofs.YtmcaejooaaahdaaGreat
open Go.RowKit

/-- What code.Wrong tells. -/
def wrongC (d s : Int) : Nat := if d < 1 ∨ 8 < d ∨ s < 0 ∨ 4 < s then 5 else 0
theorem wrongC_bad {d s : Int} (h : d < 1 ∨ 8 < d ∨ s < 0 ∨ 4 < s) : wrongC d s = 5 := if_pos h
theorem wrongC_ok {d s : Int} (h : ¬ (d < 1 ∨ 8 < d ∨ s < 0 ∨ 4 < s)) : wrongC d s = 0 := if_neg h

set_option maxHeartbeats 400000 in
theorem codeWrong_any (d s : Int) (w : World) :
    Calls Tryz.prog 12 #[.int .i64 d, .int .i64 s] w fun e w' => e = .returned (.int .i64 (wrongC d s : Nat)) ∧ Below w.heap.size w w' := by
  by_cases h1 : d < 1
  · have H : Hid (wrongC d s = 5) := wrongC_bad (by omega)
    go_enter Tryz.func12, Tryz.ntmps12
    go_wp2_with fail
    go_ret
    exact ⟨ret_int (by rw [H.out]; rfl), Below.refl _ _⟩
  by_cases h2 : 8 < d
  · have H : Hid (wrongC d s = 5) := wrongC_bad (by omega)
    go_enter Tryz.func12, Tryz.ntmps12
    go_wp2_with fail
    go_ret
    exact ⟨ret_int (by rw [H.out]; rfl), Below.refl _ _⟩
  by_cases h3 : s < 0
  · have H : Hid (wrongC d s = 5) := wrongC_bad (by omega)
    go_enter Tryz.func12, Tryz.ntmps12
    go_wp2_with fail
    go_ret
    exact ⟨ret_int (by rw [H.out]; rfl), Below.refl _ _⟩
  by_cases h4 : 4 < s
  · have H : Hid (wrongC d s = 5) := wrongC_bad (by omega)
    go_enter Tryz.func12, Tryz.ntmps12
    go_wp2_with fail
    go_ret
    exact ⟨ret_int (by rw [H.out]; rfl), Below.refl _ _⟩
  have H : Hid (wrongC d s = 0) := wrongC_ok (by omega)
  go_enter Tryz.func12, Tryz.ntmps12
  go_wp2_with fail
  go_ret
  exact ⟨ret_int (by rw [H.out]; rfl), Below.refl _ _⟩

theorem wrap_byte {x : Nat} (h : x < 256) : IntKind.u8.wrap (x : Int) = (x : Int) := by
  rw [IntKind.wrap_u8]
  omega

set_option maxHeartbeats 1000000 in
theorem spareRow_any (i n : Nat) (w : World) (hi : i < 256) (hn : n ≤ 8) :
    Calls Tryz.prog 159 #[.int .i64 (i : Int), .int .i64 (n : Int)] w fun e w' =>
      e = .returned (.slice (some ⟨w.heap.size, 0, none⟩) n n) ∧ w'.rowIs w.heap.size 5 n (fun j => .int .u8 (Gf.inv (i ^^^ j) : Nat)) ∧ Below w.heap.size w w' := by
  have hmk := run_make_row' (P := Tryz.prog) 59 5 (.int .u8 0) 1 Tryz.underlying59 Tryz.infoByte rfl .i64 .i64 n (by omega) (by omega)
  go_enter Tryz.func159, Tryz.ntmps159
  go_wp2_with fail
  clear hmk
  go_loopw [11] (fun x wr => ∃ k : Nat, k ≤ n ∧ x = .int .i64 k ∧ wr.rowIs w.heap.size 5 n (fun j => .int .u8 (upto k (fun j => Gf.inv (i ^^^ j)) (fun _ => 0) j : Nat)) ∧ Below w.heap.size w wr) (fun x _ => n - (intOf x).toNat)
  case atStart => exact ⟨0, Nat.zero_le _, rfl, (World.rowIs_made w (.int .u8 0) n 5).congr (fun j _ => by rw [show upto 0 (fun j => Gf.inv (i ^^^ j)) (fun _ => 0) j = 0 from if_neg (Nat.not_lt_zero _)]; rfl), (Below.refl _ _).alloc (Nat.le_refl _) _⟩
  case round =>
    obtain ⟨k, hk, rfl, hw, hb⟩ := hrel
    by_cases hlt : k < n
    · have hlt' : (k : Int) < (n : Int) := by omega
      have hx : i ^^^ k < 256 := Gf.xor_lt hi (by omega)
      have hxor : bits .xor .i64 (i : Int) (k : Int) = ((i ^^^ k : Nat) : Int) := by
        rw [i64_xor _ _ (by omega) (by omega) (by omega) (by omega), Int.toNat_natCast, Int.toNat_natCast]
      have hwb := wrap_byte hx
      have hc := hw.cell hlt
      have hfz := hw.frozen k
      go_wp2_with fail
      refine (inv_nat _ _ hx).mono ?_
      rintro e w1 ⟨rfl, hb1⟩
      have hw1 := rowIs_below hw hb1
      have hc1 := hw1.cell hlt
      have hfz1 := hw1.frozen k
      go_wp2_with fail
      exact ⟨⟨k + 1, by omega, by go_num, row_step (h := fun j => Gf.inv (i ^^^ j)) hw1, (hb.trans (hb1.mono hb.size)).setCell (p := ⟨w.heap.size, k, none⟩) (Nat.le_refl _) _⟩, by simp [intOf]; omega⟩
    · have e8 : k = n := by omega
      subst e8
      go_wp2_with fail
      go_ret
      exact ⟨rfl, hw.congr (fun j hj => by rw [show upto k (fun j => Gf.inv (i ^^^ j)) (fun _ => 0) j = Gf.inv (i ^^^ j) from if_pos hj]), hb⟩

set_option maxHeartbeats 400000 in
theorem codeRows_bad (d s : Int) (w : World) (h : d < 1 ∨ 8 < d ∨ s < 0 ∨ 4 < s) :
    Calls Tryz.prog 135 #[.int .i64 d, .int .i64 s] w fun e w' => e = .returned (.tuple #[.slice none 0 0, .int .i64 5]) ∧ Below w.heap.size w w' := by
  have H := codeWrong_any d s
  rw [wrongC_bad h] at H
  clear h
  go_enter Tryz.func135, Tryz.ntmps135
  go_wp2_with fail
  refine (H _).mono ?_
  rintro e w1 ⟨rfl, b1⟩
  go_wp2_with fail
  go_ret2
  exact ⟨rfl, b1⟩

theorem owns_of_rowIs {w : World} {N b n : Nat} {t : TypeId} {F : Nat → Value} (h : w.rowIs b t n F) (hN : N ≤ b) (hm : n ≤ maxLen) : w.ownsRow N t 1 (.slice (some ⟨b, 0, none⟩) n n) n ((List.range n).map F) := by
  obtain ⟨c, h1, h2, h3⟩ := h
  refine ⟨by simp, .inr ⟨b, n, c, rfl, hN, h1, Nat.le_refl _, hm, by omega, ?_⟩⟩
  apply List.ext_getElem?
  intro i
  rcases Nat.lt_or_ge i n with h | h
  · rw [List.getElem?_take, if_pos (by omega)]
    simp [h, h3 i h]
  · rw [List.getElem?_eq_none (by simp; omega), List.getElem?_eq_none (by simpa using h)]
theorem Own.acc {w : World} {N b n c : Nat} {G : Nat → Nat} {f : Nat → Nat → Nat} (h : Own w N b n c G f) (hn : n ≤ 1000) : Acc w N (.slice (some ⟨b, 0, none⟩) n n) n c G (fun _ => c) f :=
  ⟨owns_of_rowIs h.top h.lob (by unfold maxLen; omega), fun i hi => ⟨h.low i hi, rowC_of (h.row i hi)⟩⟩
theorem Acc.congr {w : World} {N : Nat} {v : Value} {k c : Nat} {G K : Nat → Nat} {f f' : Nat → Nat → Nat} (h : Acc w N v k c G K f) (he : ∀ i, i < k → ∀ j, j < c → f i j = f' i j) : Acc w N v k c G K f' :=
  ⟨h.own, fun i hi => ⟨(h.row i hi).1, (h.row i hi).2.congr (fun j hj => by rw [he i hi j hj])⟩⟩
theorem Acc.mat {w : World} {N : Nat} {v : Value} {k c : Nat} {G K : Nat → Nat} {f : Nat → Nat → Nat} (h : Acc w N v k c G K f) (hk : 1 ≤ k) : ∃ g cap, v = .slice (some ⟨g, 0, none⟩) k cap ∧ N ≤ g ∧ k ≤ cap ∧ MatAt w g 0 k c G (fun _ => 0) K f := by
  obtain ⟨g, cap, hv, hN, hc, hr⟩ := rowC_owns h.own hk
  refine ⟨g, cap, hv, hN, hc, fun r hr' => ?_, fun r hr' j hj => ?_⟩
  · rw [Nat.zero_add, hr.cell hr']
    simp [List.getD, hr']
  · rw [Nat.zero_add]
    exact (h.row r hr').2.cell hj
theorem cell_one {w : World} {v : Value} {t : TypeId} (j : Nat) (u : Value) (hj : [v][j]? = some u) : (w.alloc (.cells #[v] t)).cell? ((⟨w.heap.size, 0, none⟩ : Addr).add j) = some u := by
  match j, hj with
  | 0, hj =>
    simp at hj
    subst hj
    simp [Addr.add]
  | j + 1, hj => simp at hj

set_option maxHeartbeats 1000000 in
theorem codeRows_any (n s : Nat) (w : World) (h1 : 1 ≤ n) (h2 : n ≤ 8) (h3 : s ≤ 4) :
    Calls Tryz.prog 135 #[.int .i64 (n : Int), .int .i64 (s : Int)] w fun e w' =>
      ∃ g cap, e = .returned (.tuple #[.slice (some ⟨g, 0, none⟩) (n + s) cap, .int .i64 0]) ∧ n + s ≤ cap ∧ (∃ G K, MatAt w' g 0 (n + s) n G (fun _ => 0) K (Gf.rowF n)) ∧ Below w.heap.size w w' := by
  have H := codeWrong_any n s
  rw [wrongC_ok (show ¬ ((n : Int) < 1 ∨ 8 < (n : Int) ∨ (s : Int) < 0 ∨ 4 < (s : Int)) by omega)] at H
  have HO := fun w => one_own n w h1 (by omega)
  obtain ⟨i0, hi, hh⟩ := Option.map_eq_some_iff.1 Tryz.infoRow
  simp only [Prod.mk.injEq] at hh
  obtain ⟨hz0, hz1, hz2⟩ := hh
  have hsum : IntKind.i64.wrap ((n : Int) + (s : Int)) = ((n + s : Nat) : Int) := by rw [IntKind.wrap_i64]; omega
  go_enter Tryz.func135, Tryz.ntmps135
  go_wp2_with fail
  refine (H _).mono ?_
  rintro e w1 ⟨rfl, b1⟩
  clear H
  go_wp2_with fail
  refine (HO _).mono ?_
  rintro e w2 ⟨rfl, ⟨G0, ho⟩, b2⟩
  have A2 := ((ho.lower b1.size).acc (by omega)).congr (f' := Gf.rowF n) (fun i hi j _ => (Gf.rowF_one hi j).symm)
  have b2 := bt b1 b2
  clear HO ho b1
  go_wp2_with fail
  go_loopw [7, 9] (fun v x wr => ∃ k : Nat, n ≤ k ∧ k ≤ n + s ∧ x = .int .i64 k ∧ (∃ G K, Acc wr w.heap.size v k n G K (Gf.rowF n)) ∧ Below w.heap.size w wr) (fun _ x _ => (n + s) - (intOf x).toNat)
  case atStart => exact ⟨n, Nat.le_refl _, Nat.le_add_right _ _, rfl, ⟨_, _, A2⟩, b2⟩
  case round =>
    clear A2 b2
    obtain ⟨k, hnk, hk, rfl, ⟨G, K, hA⟩, hb⟩ := hrel
    by_cases hlt : k < n + s
    · have hlt' : (k : Int) < (n : Int) + (s : Int) := by omega
      have hS := spareRow_any k n wr (by omega) h2
      go_wp2_with fail
      refine hS.mono ?_
      rintro e w3 ⟨rfl, hr3, b3⟩
      have bX := b3.alloc b3.size (.cells #[.slice (some ⟨wr.heap.size, 0, none⟩) n n] 59)
      have AX := hA.below bX
      have rX : RowC (w3.alloc (.cells #[.slice (some ⟨wr.heap.size, 0, none⟩) n n] 59)) wr.heap.size 5 n (fun j => .int .u8 (Gf.rowF n k j : Nat)) := ((rowC_of hr3).congr (fun j _ => by rw [Gf.rowF_inv hnk])).alloc _
      have sX := Nat.le_trans hb.size bX.size
      clear hS hr3 b3
      go_wp2_with (at_builtin; refine wpList_append_own _ rfl (.tmp 32) (.tmp 36) 169 rfl w.heap.size 59 i0 (.slice none 0 0) 1 24 Tryz.underlying169 hi hz0 hz1 hz2 rfl (by decide) _ _ _ rfl AX.own ⟨w3.heap.size, 0, none⟩ 1 1 [.slice (some ⟨wr.heap.size, 0, none⟩) n n] rfl rfl cell_one (by intro u hu; simp at hu; subst hu; rfl) (by unfold maxLen; omega) (by omega) sX ?_; intro v1 w4 hown1 hgrow1 _)
      have A1 := AX.step ⟨hb.size, rX⟩ hown1 hgrow1
      have b4 : Below w.heap.size w w4 := (hb.trans (bX.mono hb.size)).grown hgrow1 sX (fun x hx => (AX.own.lt x hx).1)
      clear hown1 hgrow1 AX rX bX hA
      go_wp2_with fail
      exact ⟨⟨k + 1, by omega, by omega, by go_num, ⟨_, _, A1⟩, b4⟩, by simp [intOf]; omega⟩
    · have e8 : k = n + s := by omega
      subst e8
      have hnl : ¬ ((n + s : Nat) : Int) < (n : Int) + (s : Int) := by omega
      obtain ⟨g, cap, rfl, _, hc, hm⟩ := hA.mat (by omega)
      clear hA hlt
      go_wp2_with fail
      go_ret2
      exact ⟨g, cap, rfl, hc, ⟨G, K, hm⟩, hb⟩

end Go.Proofs.YtmcaejooaaahdaaGreat

namespace Go.Proofs.YtmcaejooaaahdaaGreat
open Go.RowKit

set_option maxHeartbeats 1000000 in
theorem indexS_any (g b o n cap : Nat) (l : Value) (V : Nat → Value) (p : Nat → Bool) (w : World) (eg : ∀ args w, (callFunc g args).run Tryz.prog w = .ok (.enter g args) w)
    (hc : ∀ r, r < n → w.cell? ⟨b, o + r, none⟩ = some (V r)) (hp : PredOn g l n V p w) (hn : n ≤ 10000) :
    Calls Tryz.prog 180 #[.slice (some ⟨b, o, none⟩) n cap, .func (.func g) #[] #[l]] w fun e w' => ∃ i : Int, e = .returned (.int .i64 i) ∧ FirstAt n p i ∧ Below w.heap.size w w' := by
  go_enter Tryz.func180, Tryz.ntmps180
  go_wp2_with fail
  go_loopw [8] (fun i wr => ∃ k : Nat, k ≤ n ∧ i = .int .i64 k ∧ (∀ s, s < k → p s = false) ∧ Below w.heap.size w wr) (fun i _ => n - (intOf i).toNat)
  case atStart => exact ⟨0, Nat.zero_le _, rfl, fun s hs => absurd hs (Nat.not_lt_zero s), Below.refl _ _⟩
  case round =>
    obtain ⟨k, hk, rfl, hs, hb⟩ := hrel
    have HS : Hid (∀ s, s < k → p s = false) := hs
    clear hs
    by_cases hlt : k < n
    · have hlt' : (k : Int) < (n : Int) := by omega
      have hck := hc k hlt
      have hlb := World.block_lt_of_cell? _ _ hck
      have hcw := (hb.cell (p := ⟨b, o + k, none⟩) hlb).trans hck
      have HC : Hid (∀ r, r < n → w.cell? ⟨b, o + r, none⟩ = some (V r)) := hc
      clear hc hck
      have hpk := hp k hlt wr hb
      by_cases hy : p k = true
      · rw [hy] at hpk
        go_wp2_with fail
        refine hpk.mono ?_
        rintro e w1 ⟨rfl, hb1⟩
        go_wp2_with fail
        go_ret
        exact ⟨_, rfl, Or.inr ⟨k, hlt, rfl, hy, HS.out⟩, hb.trans (hb1.mono hb.size)⟩
      · have hy' : p k = false := by simpa using hy
        rw [hy'] at hpk
        clear hy
        go_wp2_with fail
        refine hpk.mono ?_
        rintro e w1 ⟨rfl, hb1⟩
        go_wp2_with fail
        refine ⟨⟨k + 1, by omega, by go_num, fun s hs => ?_, hb.trans (hb1.mono hb.size)⟩, by simp [intOf]; omega⟩
        by_cases e : s = k
        · rw [e]; exact hy'
        · exact HS.out s (by omega)
    · have e8 : k = n := by omega
      subst e8
      go_wp2_with fail
      go_ret
      exact ⟨_, rfl, Or.inl ⟨rfl, HS.out⟩, hb⟩

set_option maxHeartbeats 400000 in
theorem containsS_any (g b o n cap : Nat) (l : Value) (V : Nat → Value) (p : Nat → Bool) (w : World) (eg : ∀ args w, (callFunc g args).run Tryz.prog w = .ok (.enter g args) w)
    (hc : ∀ r, r < n → w.cell? ⟨b, o + r, none⟩ = some (V r)) (hp : PredOn g l n V p w) (hn : n ≤ 10000) :
    Calls Tryz.prog 168 #[.slice (some ⟨b, o, none⟩) n cap, .func (.func g) #[] #[l]] w fun e w' => ∃ y : Bool, e = .returned (.bool y) ∧ (y = true ↔ ∃ r, r < n ∧ p r = true) ∧ Below w.heap.size w w' := by
  go_enter Tryz.func168, Tryz.ntmps168
  go_wp2_with fail
  refine (indexS_any g b o n cap l V p w eg hc hp hn).mono ?_
  rintro e w1 ⟨i, rfl, hi, hb⟩
  clear hc hp
  go_wp2_with fail
  go_ret
  refine ⟨_, rfl, ?_, hb⟩
  rcases hi with ⟨rfl, h⟩ | ⟨r, hr, rfl, h, _⟩
  · exact ⟨fun e => absurd e (by decide), fun ⟨r, hr, he⟩ => by rw [h r hr] at he; exact absurd he (by decide)⟩
  · exact ⟨fun _ => ⟨r, hr, h⟩, fun _ => by simp⟩

set_option maxHeartbeats 400000 in
theorem otherLenS_any (A : Option Addr) (l c B m : Nat) (w : World) (hc : w.cell? ⟨B, 0, none⟩ = some (.int .i64 (m : Int))) :
    Calls Tryz.prog 167 #[.slice A l c, .pointer (some ⟨B, 0, none⟩)] w fun e w' => e = .returned (.bool (decide (l ≠ m))) ∧ Below w.heap.size w w' := by
  by_cases h : l = m
  · subst h
    have H : Hid (decide (l ≠ l) = false) := by show decide (l ≠ l) = false; simp
    go_enter Tryz.func167, Tryz.ntmps167
    go_wp2_with fail
    go_ret
    exact ⟨ret_bool H.out.symm, Below.refl _ _⟩
  · have H : Hid (decide (l ≠ m) = true) := by show decide (l ≠ m) = true; simpa using h
    have h' : ((l : Int) == (m : Int)) = false := by rw [beq_eq_false_iff_ne]; omega
    clear h
    go_enter Tryz.func167, Tryz.ntmps167
    go_wp2_with fail
    go_ret
    exact ⟨ret_bool (by rw [H.out]; simp [bne, h']), Below.refl _ _⟩

theorem Tryz.enters_otherLenS : ∀ args w, (callFunc 167 args).run Tryz.prog w = .ok (.enter 167 args) w := enters_of Tryz.func167 (by kernel_rfl) rfl


set_option maxHeartbeats 1000000 in
theorem wellFormed_any (v : Value) (m : Nat) (L : Nat → Nat) (f : Nat → Nat → Nat) (w : World) (h : Arg w v m L f) (h1 : 1 ≤ m) (h2 : m ≤ 10000) :
    Calls Tryz.prog 142 #[v] w fun e w' => ∃ y : Bool, e = .returned (.bool y) ∧ (y = true ↔ L 0 ≤ 400 ∧ ∀ p, p < m → L p = L 0) ∧ Below w.heap.size w w' := by
  obtain ⟨A, cap, R, C, rfl, hr⟩ := h.lies
  clear h
  obtain ⟨b, o, rfl, hc0, _⟩ := hr 0 (by omega)
  have hc : ∀ r, r < m → w.cell? ⟨b, o + r, none⟩ = some (.slice (R r) (L r) (C r)) := fun r hrn => by
    obtain ⟨b', o', e1, e2, _⟩ := hr r hrn
    cases e1
    exact e2
  clear hr
  have hb0 := World.block_lt_of_cell? _ _ hc0
  have h0' : (0 : Int) < (m : Int) := by omega
  have hc0' : w.cell? ⟨b, o, none⟩ = some (.slice (R 0) (L 0) (C 0)) := by simpa using hc0
  clear hc0
  have HC : Hid (∀ r, r < m → w.cell? ⟨b, o + r, none⟩ = some (.slice (R r) (L r) (C r))) := hc
  clear hc
  by_cases h4 : L 0 ≤ 400
  · have h4' : (L 0 : Int) ≤ 400 := by omega
    go_enter Tryz.func142, Tryz.ntmps142
    go_wp2_with fail
    refine (containsS_any 167 b o m cap _ (fun r => .slice (R r) (L r) (C r)) (fun r => decide (L r ≠ L 0)) _ Tryz.enters_otherLenS ?_ ?_ h2).mono ?_
    · intro r hr
      exact (((Below.refl w.heap.size w).alloc (Nat.le_refl _) _).cell (p := ⟨b, o + r, none⟩) hb0).trans (HC.out r hr)
    · intro r hr W hW
      refine otherLenS_any (R r) (L r) (C r) w.heap.size (L 0) W ?_
      rw [hW.cell (p := ⟨w.heap.size, 0, none⟩) (by simp)]
      simp
    rintro e w1 ⟨y, rfl, hy, hb1⟩
    have hbz : Below w.heap.size w w1 := ((Below.refl w.heap.size w).alloc (Nat.le_refl _) _).trans (hb1.mono (by simp))
    have HY : Hid (y = true ↔ ∃ r, r < m ∧ decide (L r ≠ L 0) = true) := hy
    clear hy
    go_wp2_with fail
    go_ret
    refine ⟨_, rfl, ?_, hbz⟩
    have hy := HY.out
    cases y with
    | true =>
      obtain ⟨r, hr, he⟩ := hy.1 rfl
      exact ⟨fun h => absurd h (by decide), fun h => absurd (h.2 r hr) (of_decide_eq_true he)⟩
    | false => exact ⟨fun _ => ⟨h4, fun r hr => Classical.byContradiction fun hne => absurd (hy.2 ⟨r, hr, decide_eq_true hne⟩) (by decide)⟩, fun _ => rfl⟩
  · have h4' : ¬ (L 0 : Int) ≤ 400 := by omega
    go_enter Tryz.func142, Tryz.ntmps142
    go_wp2_with fail
    go_ret
    exact ⟨rfl, (Below.refl _ _).alloc (Nat.le_refl _) _⟩

/-- The numbers of the first k lists that have bytes. -/
def there (L : Nat → Nat) (k : Nat) : List Nat := (List.range k).filter (fun r => decide (0 < L r))
theorem there_yes {L : Nat → Nat} {k : Nat} (h : 0 < L k) : there L (k + 1) = there L k ++ [k] := by
  unfold there
  rw [List.range_succ, List.filter_append, List.filter_cons_of_pos (by simpa using h)]
  rfl
theorem there_no {L : Nat → Nat} {k : Nat} (h : ¬ 0 < L k) : there L (k + 1) = there L k := by
  unfold there
  rw [List.range_succ, List.filter_append, List.filter_cons_of_neg (by simpa using h)]
  simp
theorem there_mem {L : Nat → Nat} {k r : Nat} : r ∈ there L k ↔ r < k ∧ 0 < L r := by
  unfold there
  rw [List.mem_filter, List.mem_range, decide_eq_true_iff]
theorem there_nodup (L : Nat → Nat) (k : Nat) : (there L k).Nodup := List.nodup_range.filter _
theorem there_len (L : Nat → Nat) (k : Nat) : (there L k).length ≤ k := by
  have := List.length_filter_le (fun r => decide (0 < L r)) (List.range k)
  rw [List.length_range] at this
  exact this

/-- Two lists that lie apart. -/
def Dis (a b : Value) : Prop := a.ownBlock = none ∨ b.ownBlock = none ∨ a.ownBlock ≠ b.ownBlock
theorem Dis.symm {a b : Value} (h : Dis a b) : Dis b a := by
  rcases h with h | h | h
  · exact Or.inr (Or.inl h)
  · exact Or.inl h
  · exact Or.inr (Or.inr h.symm)
theorem Dis.kept {a b : Value} (h : Dis a b) : b.ownBlock = none ∨ b.ownBlock ≠ a.ownBlock := by
  rcases h with h | h | h
  · cases hb : b.ownBlock with
    | none => exact Or.inl rfl
    | some x => exact Or.inr (by rw [h]; simp)
  · exact Or.inl h
  · exact Or.inr h.symm
theorem Dis.next {a a' b : Value} {w : World} (h : Dis a b) (hl : a'.ownBlock = a.ownBlock ∨ a'.ownBlock = some w.heap.size) (hb : ∀ x, b.ownBlock = some x → x < w.heap.size) : Dis a' b := by
  rcases hl with hl | hl
  · unfold Dis
    rw [hl]
    exact h
  · cases e : b.ownBlock with
    | none => exact Or.inr (Or.inl e)
    | some x => exact Or.inr (Or.inr (by
        have := hb x e
        rw [hl, e]
        simp
        omega))

theorem arg_of_owns {w : World} {N : Nat} {v : Value} {T : List Nat} (R : Nat → Option Addr) (L C : Nat → Nat) (f : Nat → Nat → Nat) (bd : Gf.Bd2 f) (h : w.ownsRow N 59 1 v T.length (T.map fun r => .slice (R r) (L r) (C r)))
    (hr : ∀ r, r ∈ T → ∀ k, k < L r → ∃ b' o', R r = some ⟨b', o', none⟩ ∧ w.cell? ⟨b', o' + k, none⟩ = some (.int .u8 (f r k : Nat))) : Arg w v T.length (fun p => L (T.getD p 0)) (fun p => f (T.getD p 0)) := by
  refine ⟨fun p => bd _, ?_⟩
  by_cases h0 : 1 ≤ T.length
  · obtain ⟨g, cap, hv, _, _, hrow⟩ := rowC_owns h h0
    refine ⟨some ⟨g, 0, none⟩, cap, fun p => R (T.getD p 0), fun p => C (T.getD p 0), hv, fun p hp => ⟨g, 0, rfl, ?_, hr (T.getD p 0) ?_⟩⟩
    · rw [Nat.zero_add, hrow.cell hp]
      simp [List.getD, hp]
    · simp [List.getD, hp]
  · have e : T.length = 0 := by omega
    rw [e] at h ⊢
    rcases h.2 with ⟨hv, _⟩ | ⟨g, cap, _, hv, _⟩
    · exact ⟨none, 0, fun _ => none, fun _ => 0, hv, fun r hr => absurd hr (Nat.not_lt_zero r)⟩
    · exact ⟨_, cap, fun _ => none, fun _ => 0, hv, fun r hr => absurd hr (Nat.not_lt_zero r)⟩

/-- A list has no fewer places than it is long. -/
def Cap (v : Value) : Prop := ∃ A n cap, v = .slice A n cap ∧ n ≤ cap
theorem cap_of_owns {w : World} {N : Nat} {t : TypeId} {v : Value} {n : Nat} {xs : List Value} (h : w.ownsRow N t 1 v n xs) : Cap v := by
  rcases h.2 with ⟨hv, _⟩ | ⟨g, cap, _, hv, _, _, hc, _⟩
  · exact ⟨_, _, _, hv, Nat.le_refl _⟩
  · exact ⟨_, _, _, hv, hc⟩

set_option maxHeartbeats 2000000 in
theorem thoseThere_any (A : Option Addr) (cap N n : Nat) (L : Nat → Nat) (f : Nat → Nat → Nat) (br capr : Nat) (Gr Or' Kr : Nat → Nat) (g : Nat → Nat → Nat) (w : World) (h : Arg w (.slice A N cap) N L f) (bg : Gf.Bd2 g) (hm : MatAt w br 0 N n Gr Or' Kr g) (h1 : 1 ≤ N) (h2 : N ≤ 12) :
    Calls Tryz.prog 141 #[.slice A N cap, .slice (some ⟨br, 0, none⟩) N capr] w fun e w' => ∃ v4 v5, e = .returned (.tuple #[v4, v5]) ∧
      Arg w' v4 (there L N).length (fun p => L ((there L N).getD p 0)) (fun p => f ((there L N).getD p 0)) ∧ Arg w' v5 (there L N).length (fun _ => n) (fun p => g ((there L N).getD p 0)) ∧ Cap v4 ∧ Cap v5 ∧ Below w.heap.size w w' := by
  obtain ⟨A', cap', R, C, hv, hr⟩ := h.lies
  have bf := h.bd
  cases hv
  clear h
  obtain ⟨b, o, rfl, _, _⟩ := hr 0 (by omega)
  have HC : Hid (∀ r, r < N → w.cell? ⟨b, o + r, none⟩ = some (.slice (R r) (L r) (C r)) ∧ ∀ k, k < L r → ∃ b' o', R r = some ⟨b', o', none⟩ ∧ w.cell? ⟨b', o' + k, none⟩ = some (.int .u8 (f r k : Nat))) := fun r hrn => by
    obtain ⟨b', o', e1, e2, e3⟩ := hr r hrn
    cases e1
    exact ⟨e2, e3⟩
  clear hr
  obtain ⟨i0, hi, hh⟩ := Option.map_eq_some_iff.1 Tryz.infoRow
  simp only [Prod.mk.injEq] at hh
  obtain ⟨hz0, hz1, hz2⟩ := hh
  go_enter Tryz.func141, Tryz.ntmps141
  go_wp2_with fail
  go_loopw [4, 5, 10] (fun v4 v5 x wr => ∃ k : Nat, k ≤ N ∧ x = .int .i64 k ∧ wr.ownsRow w.heap.size 59 1 v4 (there L k).length ((there L k).map fun r => .slice (R r) (L r) (C r)) ∧
    wr.ownsRow w.heap.size 59 1 v5 (there L k).length ((there L k).map fun r => .slice (some ⟨Gr r, Or' r, none⟩) n (Kr r)) ∧ Dis v4 v5 ∧ Below w.heap.size w wr) (fun _ _ x _ => N - (intOf x).toNat)
  case atStart => exact ⟨0, Nat.zero_le _, rfl, World.ownsRow_nil w _ _ 1, World.ownsRow_nil w _ _ 1, Or.inl rfl, Below.refl _ _⟩
  case round =>
    obtain ⟨k, hk, rfl, o4, o5, hd, hb⟩ := hrel
    by_cases hlt : k < N
    · have hlt' : (k : Int) < (N : Int) := by omega
      have hck := (HC.out k hlt).1
      have hcw := (hb.cell (p := ⟨b, o + k, none⟩) (World.block_lt_of_cell? _ _ hck)).trans hck
      clear hck
      by_cases hy : 0 < L k
      · have hy' : (0 : Int) < (L k : Int) := by omega
        have HT : Hid (there L (k + 1) = there L k ++ [k]) := there_yes hy
        have hlen := there_len L k
        have htk := hm.top k hlt
        have hbX := (Below.refl wr.heap.size wr).alloc (Nat.le_refl _) (.cells #[.slice (R k) (L k) (C k)] 59)
        have ox4 := owns_below o4 hbX
        have ox5 := owns_below o5 hbX
        have sX := Nat.le_trans hb.size hbX.size
        go_wp2_with (first
          | (at_builtin; refine wpList_append_own_at _ rfl (.tmp 18) (.tmp 20) 169 rfl w.heap.size 59 i0 (.slice none 0 0) 1 24 Tryz.underlying169 hi hz0 hz1 hz2 rfl (by decide) _ _ _ rfl ox4 ⟨wr.heap.size, 0, none⟩ 1 1 [.slice (R k) (L k) (C k)] rfl rfl cell_one (by intro u hu; simp at hu; subst hu; rfl) (by unfold maxLen; omega) (by omega) sX ?_; intro v41 w1 hown41 hgrow41 _ hloc41; have b1 : Below w.heap.size w w1 := (hb.trans (hbX.mono hb.size)).grown hgrow41 sX (fun x hx => (ox4.lt x hx).1); have o51 := ox5.kept hgrow41 hd.kept; have hd1 := hd.next hloc41 (fun x hx => (ox5.lt x hx).2); have tk1 := (b1.cell (p := ⟨br, 0 + k, none⟩) (World.block_lt_of_cell? _ _ htk)).trans htk; have hbY := (Below.refl w1.heap.size w1).alloc (Nat.le_refl _) (.cells #[.slice (some ⟨Gr k, Or' k, none⟩) n (Kr k)] 59); have oy4 := owns_below hown41 hbY; have oy5 := owns_below o51 hbY; have sY := Nat.le_trans b1.size hbY.size; rw [Nat.zero_add] at tk1)
          | (at_builtin; refine wpList_append_own_at _ rfl (.tmp 22) (.tmp 27) 169 rfl w.heap.size 59 i0 (.slice none 0 0) 1 24 Tryz.underlying169 hi hz0 hz1 hz2 rfl (by decide) _ _ _ rfl oy5 ⟨w1.heap.size, 0, none⟩ 1 1 [.slice (some ⟨Gr k, Or' k, none⟩) n (Kr k)] rfl rfl cell_one (by intro u hu; simp at hu; subst hu; rfl) (by unfold maxLen; omega) (by omega) sY ?_; intro v52 w2 hown52 hgrow52 _ hloc52))
        have b2 : Below w.heap.size w w2 := (b1.trans (hbY.mono b1.size)).grown hgrow52 sY (fun x hx => (oy5.lt x hx).1)
        have o42 := oy4.kept hgrow52 hd1.symm.kept
        have hd2 := (hd1.symm.next hloc52 (fun x hx => (oy4.lt x hx).2)).symm
        have q4 : w2.ownsRow w.heap.size 59 1 v41 (there L (k + 1)).length ((there L (k + 1)).map fun r => .slice (R r) (L r) (C r)) := by
          rw [HT.out, List.length_append, List.map_append]
          exact o42
        have q5 : w2.ownsRow w.heap.size 59 1 v52 (there L (k + 1)).length ((there L (k + 1)).map fun r => .slice (some ⟨Gr r, Or' r, none⟩) n (Kr r)) := by
          rw [HT.out, List.length_append, List.map_append]
          exact hown52
        clear o4 o5 hd ox4 ox5 hown41 hgrow41 hloc41 o51 hd1 tk1 oy4 oy5 hown52 hgrow52 hloc52 o42 b1 hbX hbY hcw htk
        go_wp2_with fail
        exact ⟨⟨k + 1, by omega, by go_num, q4, q5, hd2, b2⟩, by simp [intOf]; omega⟩
      · have hy' : ¬ (0 : Int) < (L k : Int) := by omega
        have HT : Hid (there L (k + 1) = there L k) := there_no hy
        go_wp2_with fail
        refine ⟨⟨k + 1, by omega, by go_num, ?_, ?_, hd, hb⟩, by simp [intOf]; omega⟩
        · rw [HT.out]; exact o4
        · rw [HT.out]; exact o5
    · have e8 : k = N := by omega
      subst e8
      have HA4 : Hid (Arg wr _ (there L k).length (fun p => L ((there L k).getD p 0)) (fun p => f ((there L k).getD p 0))) := arg_of_owns R L C f bf o4 (fun r hr j hj => by
        obtain ⟨h1, h2⟩ := there_mem.1 hr
        obtain ⟨b', o', e1, e2⟩ := (HC.out r h1).2 j hj
        exact ⟨b', o', e1, (hb.cell (p := ⟨b', o' + j, none⟩) (World.block_lt_of_cell? _ _ e2)).trans e2⟩)
      have HA5 : Hid (Arg wr _ (there L k).length (fun _ => n) (fun p => g ((there L k).getD p 0))) := arg_of_owns (fun r => some ⟨Gr r, Or' r, none⟩) (fun _ => n) Kr g bg o5 (fun r hr j hj => ⟨Gr r, Or' r, rfl, (hm.below hb).row r (there_mem.1 hr).1 j hj⟩)
      have c4 := cap_of_owns o4
      have c5 := cap_of_owns o5
      clear o4 o5 hd hm
      go_wp2_with fail
      go_ret2
      exact ⟨_, _, rfl, HA4.out, HA5.out, c4, c5, hb⟩

end Go.Proofs.YtmcaejooaaahdaaGreat

namespace Go.Proofs.YtmcaejooaaahdaaGreat
open Go.RowKit

/-- What is told beside a number: a matrix beside 0, else none. -/
def Out (w : World) (E : Nat) (v : Value) (n c : Nat) (f : Nat → Nat → Nat) : Prop := (E = 0 ∧ Mx w v n c f) ∨ ((E ≠ 0 ∨ n = 0) ∧ v = .slice none 0 0)
theorem Out.below {w w' : World} {E : Nat} {v : Value} {n c : Nat} {f : Nat → Nat → Nat} (h : Out w E v n c f) (hb : Below w.heap.size w w') : Out w' E v n c f := h.imp (fun h => ⟨h.1, h.2.below hb⟩) id
end Go.Proofs.YtmcaejooaaahdaaGreat

namespace Go.Proofs.YtmcaejooaaahdaaGreat
open Go.RowKit

/-- What code.Spare tells. -/
def spareE (n : Nat) (L : Nat → Nat) (s : Int) : Nat := if wrongC n s ≠ 0 then 5 else wrongE n L
/-- Rows of spare shards. -/
def spareF (n i : Nat) : Nat → Nat := Gf.rowF n (n + i)
theorem spareF_bd (n : Nat) : Gf.Bd2 (spareF n) := fun i => Gf.rowF_bd n (n + i)

theorem MatAt.spare {w : World} {g n s : Nat} {G K : Nat → Nat} (h : MatAt w g 0 (n + s) n G (fun _ => 0) K (Gf.rowF n)) : MatAt w g n s n (fun r => G (n + r)) (fun _ => 0) (fun r => K (n + r)) (spareF n) :=
  ⟨fun r hr => by have := h.top (n + r) (by omega); rw [Nat.zero_add] at this; exact this, fun r hr k hk => h.row (n + r) (by omega) k hk⟩

set_option maxHeartbeats 400000 in
theorem spare_none (v : Value) (n : Nat) (L : Nat → Nat) (f : Nat → Nat → Nat) (w : World) (h : Arg w v n L f) (h1 : 1 ≤ n) (h2 : n ≤ 8) (hx : wrongE n L = 0) :
    Calls Tryz.prog 111 #[v, .int .i64 0] w fun e w' => e = .returned (.tuple #[.slice none 0 0, .int .i64 0]) ∧ Below w.heap.size w w' := by
  have HW := fun w' hb' => wrong_any v n L f w' (h.below (w' := w') hb')
  have HR := fun w => codeRows_any n 0 w h1 h2 (by omega)
  obtain ⟨A, cap, R, C, rfl, _⟩ := h.lies
  rw [hx] at HW
  clear h hx
  go_enter Tryz.func111, Tryz.ntmps111
  go_wp2_with fail
  refine (HR _).mono ?_
  rintro e w1 ⟨g, cp, rfl, _, _, b1⟩
  go_wp2_with fail
  refine (HW _ b1).mono ?_
  rintro e w2 ⟨rfl, b2⟩
  go_wp2_with fail
  go_ret2
  exact ⟨rfl, bt b1 b2⟩

set_option maxHeartbeats 400000 in
theorem spare_own (v : Value) (n s c : Nat) (f : Nat → Nat → Nat) (w : World) (h : Mx w v n c f) (h2 : n ≤ 8) (h3 : 1 ≤ s) (h4 : s ≤ 4) :
    Calls Tryz.prog 111 #[v, .int .i64 (s : Int)] w fun e w' => ∃ b G, e = .returned (.tuple #[.slice (some ⟨b, 0, none⟩) s s, .int .i64 0]) ∧ Own w' w.heap.size b s c G (Gf.mm n (spareF n) f) ∧ Below w.heap.size w w' := by
  obtain ⟨d1, d2, d3, d4⟩ := h.dim
  have HW := fun w' hb' => wrong_any v n _ f w' (h.below (w' := w') hb').arg
  have HR := fun w => codeRows_any n s w d1 h2 h4
  rw [h.ok] at HW
  have HM := fun w' hb' => h.below (w' := w') hb'
  obtain ⟨bb, ob, pb, Gb, Ob, Kb, rfl, _⟩ := h.lies
  have hs0 : ((s : Int) == 0) = false := by rw [beq_eq_false_iff_ne]; omega
  clear h
  go_enter Tryz.func111, Tryz.ntmps111
  go_wp2_with fail
  refine (HR _).mono ?_
  rintro e w1 ⟨g, cp, rfl, hcp, ⟨G, K, hm⟩, b1⟩
  go_wp2_with fail
  refine (HW _ b1).mono ?_
  rintro e w2 ⟨rfl, b2⟩
  have hm := (hm.below b2).spare
  have b2 := bt b1 b2
  have hcn : ¬ cp = n := by omega
  have hle : (n : Int) ≤ ((n + s : Nat) : Int) := by omega
  have hmx : Mx w2 (.slice (some ⟨g, n, none⟩) s (cp - n)) s n (spareF n) := ⟨spareF_bd n, ⟨h3, by omega, d1, by omega⟩, g, n, cp - n, _, _, _, rfl, hm⟩
  clear HR HW hm b1
  go_wp2_with fail
  refine (mulM_own _ _ s n n c (spareF n) f _ hmx (HM _ b2) rfl).mono ?_
  rintro e w3 ⟨b, G3, rfl, ho, b3⟩
  go_wp2_with fail
  go_ret2
  exact ⟨b, G3, rfl, ho.lower b2.size, bt b2 b3⟩

theorem spare_none' (v : Value) (n s : Nat) (L : Nat → Nat) (f : Nat → Nat → Nat) (w : World) (h : Arg w v n L f) (h1 : 1 ≤ n) (h2 : n ≤ 8) (hx : wrongE n L = 0) (hs : s = 0) :
    Calls Tryz.prog 111 #[v, .int .i64 (s : Int)] w fun e w' => e = .returned (.tuple #[.slice none 0 0, .int .i64 0]) ∧ Below w.heap.size w w' := by
  subst hs
  exact spare_none v n L f w h h1 h2 hx

end Go.Proofs.YtmcaejooaaahdaaGreat

namespace Go.Proofs.YtmcaejooaaahdaaGreat
open Go.RowKit

/-- A list with no room behind it, and one that is appended. -/
theorem app_two (W : World) (t tx : TypeId) (ht : Tryz.prog.underlying t = some (.slice 59)) (htx : Tryz.prog.underlying tx = some (.slice 59)) (b o n p : Nat) (F : Nat → Value) (b' o' m p' : Nat) (F' : Nat → Value)
    (hF : ∀ r, r < n → W.cell? ⟨b, o + r, none⟩ = some (F r)) (hF' : ∀ r, r < m → W.cell? ⟨b', o' + r, none⟩ = some (F' r)) (h1 : ∀ r, r < m → (F' r).oneCell' = true) (hp : p < n + m) (hn : n + m ≤ 1000) :
    ∃ (C : Array Value) (q : Nat), n + m ≤ q ∧ (∀ r, r < n → C[r]? = some (F r)) ∧ (∀ r, r < m → C[n + r]? = some (F' r)) ∧
      ∀ ty, (Builtin.append_ #[t, tx] ty #[.slice (some ⟨b, o, none⟩) n p, .slice (some ⟨b', o', none⟩) m p']).run Tryz.prog W = .ok (.slice (some ⟨W.heap.size, 0, none⟩) (n + m) q) (W.drew.alloc (.cells C 59)) := by
  obtain ⟨i, hi, hh⟩ := Option.map_eq_some_iff.1 Tryz.infoRow
  simp only [Prod.mk.injEq] at hh
  obtain ⟨hz, hs, hb⟩ := hh
  have hsrc : Src Tryz.prog i.size tx (.slice (some ⟨b', o', none⟩) m p') m ((List.range m).map F') W := by
    refine Src.ofSlice W htx _ m p' _ (by simp [hs]) (fun j u hj => ?_) (fun u hu => ?_)
    · rcases Nat.lt_or_ge j m with h | h
      · simp [h] at hj
        rw [WideShapes.add_plain, hF' j h, ← hj]
      · simp [List.getElem?_eq_none (show ((List.range m).map F').length ≤ j by simpa using h)] at hj
    · obtain ⟨r, hr, rfl⟩ := List.mem_map.1 hu
      exact h1 r (List.mem_range.1 hr)
  have hold : (Builtin.firstCells i.size n (.slice (some ⟨b, o, none⟩) n p)).run Tryz.prog W.drew = .ok ((List.range n).map F).toArray W.drew :=
    run_firstCells_some W.drew i.size n ⟨b, o, none⟩ n p ((List.range n).map F) (by simp [hs]) (fun j u hj => by
      rcases Nat.lt_or_ge j n with h | h
      · simp [h] at hj
        rw [WideShapes.add_plain, show W.drew.cell? ⟨b, o + j, none⟩ = W.cell? ⟨b, o + j, none⟩ from rfl, hF j h, ← hj]
      · simp [List.getElem?_eq_none (show ((List.range n).map F).length ≤ j by simpa using h)] at hj)
  have hfit := growslice_fits (need := n + m) (old := p) (bytes := i.bytes) (by omega) (by rw [hb]; omega)
  have hrun := fun ty => run_append_grow_src (P := Tryz.prog) W t tx ty 59 i (.slice none 0 0) ht hi hz (some ⟨b, o, none⟩) n p ((List.range n).map F) hold _ m _ hsrc hp (by omega) (by omega)
  refine ⟨_, _, grownCap_ge W (n + m) p 59, fun r hr => ?_, fun r hr => ?_, hrun⟩
  · rw [Array.getElem?_append_left (by simp; omega)]
    simp [List.getElem?_append_left, hr]
  · rw [Array.getElem?_append_left (by simp; omega)]
    simp [hr]

/-- Nothing appended. -/
theorem app_nil (W : World) (t tx : TypeId) (ht : Tryz.prog.underlying t = some (.slice 59)) (htx : Tryz.prog.underlying tx = some (.slice 59)) (b o n p : Nat) (hp : n ≤ p) (ty : TypeId) :
    (Builtin.append_ #[t, tx] ty #[.slice (some ⟨b, o, none⟩) n p, .slice none 0 0]).run Tryz.prog W = .ok (.slice (some ⟨b, o, none⟩) n p) W := by
  obtain ⟨i, hi, hh⟩ := Option.map_eq_some_iff.1 Tryz.infoRow
  simp only [Prod.mk.injEq] at hh
  exact run_append_room_src (P := Tryz.prog) W t tx ty 59 i ht hi b o n p _ 0 [] (Src.ofNil W htx 0) (by omega) (fun j hj => by cases hj) (fun j hj => by cases hj)

end Go.Proofs.YtmcaejooaaahdaaGreat
