/-
  What code.Wrong, code.spareRow and code.Rows do, call by call.
-/
import Derived.Test.YtmlboaejkmffjadRowC
import Derived.Test.YtmlboaejkmffjadCau
namespace Go.Proofs.Ytmlboaejkmffjad
open Go.RowKit

/-- What code.Wrong tells. -/
def wrongC (d s : Int) : Nat := if d < 1 ∨ 8 < d ∨ s < 0 ∨ 4 < s then 5 else 0
theorem wrongC_bad {d s : Int} (h : d < 1 ∨ 8 < d ∨ s < 0 ∨ 4 < s) : wrongC d s = 5 := if_pos h
theorem wrongC_ok {d s : Int} (h : ¬ (d < 1 ∨ 8 < d ∨ s < 0 ∨ 4 < s)) : wrongC d s = 0 := if_neg h

set_option maxHeartbeats 400000 in
theorem codeWrong_any (d s : Int) (w : World) :
    Calls Try.prog 41 #[.int .i64 d, .int .i64 s] w fun e w' => e = .returned (.int .i64 (wrongC d s : Nat)) ∧ Below w.heap.size w w' := by
  by_cases h1 : d < 1
  · have H : Hid (wrongC d s = 5) := wrongC_bad (by omega)
    go_enter Try.func41, Try.ntmps41
    go_wp2_with fail
    go_ret
    exact ⟨ret_int (by rw [H.out]; rfl), Below.refl _ _⟩
  by_cases h2 : 8 < d
  · have H : Hid (wrongC d s = 5) := wrongC_bad (by omega)
    go_enter Try.func41, Try.ntmps41
    go_wp2_with fail
    go_ret
    exact ⟨ret_int (by rw [H.out]; rfl), Below.refl _ _⟩
  by_cases h3 : s < 0
  · have H : Hid (wrongC d s = 5) := wrongC_bad (by omega)
    go_enter Try.func41, Try.ntmps41
    go_wp2_with fail
    go_ret
    exact ⟨ret_int (by rw [H.out]; rfl), Below.refl _ _⟩
  by_cases h4 : 4 < s
  · have H : Hid (wrongC d s = 5) := wrongC_bad (by omega)
    go_enter Try.func41, Try.ntmps41
    go_wp2_with fail
    go_ret
    exact ⟨ret_int (by rw [H.out]; rfl), Below.refl _ _⟩
  have H : Hid (wrongC d s = 0) := wrongC_ok (by omega)
  go_enter Try.func41, Try.ntmps41
  go_wp2_with fail
  go_ret
  exact ⟨ret_int (by rw [H.out]; rfl), Below.refl _ _⟩

theorem wrap_byte {x : Nat} (h : x < 256) : IntKind.u8.wrap (x : Int) = (x : Int) := by
  rw [IntKind.wrap_u8]
  omega

set_option maxHeartbeats 1000000 in
theorem spareRow_any (i n : Nat) (w : World) (hi : i < 256) (hn : n ≤ 8) :
    Calls Try.prog 78 #[.int .i64 (i : Int), .int .i64 (n : Int)] w fun e w' =>
      e = .returned (.slice (some ⟨w.heap.size, 0, none⟩) n n) ∧ w'.rowIs w.heap.size 5 n (fun j => .int .u8 (Gf.inv (i ^^^ j) : Nat)) ∧ Below w.heap.size w w' := by
  have hmk := run_make_row' (P := Try.prog) 25 5 (.int .u8 0) 1 Try.underlying25 Try.infoByte rfl .i64 .i64 n (by omega) (by omega)
  go_enter Try.func78, Try.ntmps78
  go_wp2_with fail
  clear hmk
  go_loopw [11] (fun x wr => ∃ k : Nat, k ≤ n ∧ x = .int .i64 k ∧ wr.rowIs w.heap.size 5 n (fun j => .int .u8 (upto k (fun j => Gf.inv (i ^^^ j)) (fun _ => 0) j : Nat)) ∧ Below w.heap.size w wr) (fun x _ => n - (intOf x).toNat)
  case atStart => exact ⟨0, Nat.zero_le _, rfl, (World.rowIs_made w (.int .u8 0) n 5).congr (fun j _ => by rw [show upto 0 (fun j => Gf.inv (i ^^^ j)) (fun _ => 0) j = 0 from if_neg (Nat.not_lt_zero _)]; rfl), (Below.refl _ _).alloc (Nat.le_refl _) _⟩
  case round =>
    obtain ⟨k, hk, rfl, hw, hb⟩ := hrel
    by_cases hlt : k < n
    · have hlt' : (k : Int) < (n : Int) := by omega
      have hx : i ^^^ k < 256 := Gf.xor_lt hi (by omega)
      have hxor : bits .xor .i64 (i : Int) (k : Int) = ((i ^^^ k : Nat) : Int) := by
        rw [i64_xor _ _ (by omega) (by omega) (by omega) (by omega), Int.toNat_natCast, Int.toNat_natCast]
      have hwb := wrap_byte hx
      have hc := hw.cell hlt
      have hfz := hw.frozen k
      go_wp2_with fail
      refine (inv_nat _ _ hx).mono ?_
      rintro e w1 ⟨rfl, hb1⟩
      have hw1 := rowIs_below hw hb1
      have hc1 := hw1.cell hlt
      have hfz1 := hw1.frozen k
      go_wp2_with fail
      exact ⟨⟨k + 1, by omega, by go_num, row_step (h := fun j => Gf.inv (i ^^^ j)) hw1, (hb.trans (hb1.mono hb.size)).setCell (p := ⟨w.heap.size, k, none⟩) (Nat.le_refl _) _⟩, by simp [intOf]; omega⟩
    · have e8 : k = n := by omega
      subst e8
      go_wp2_with fail
      go_ret
      exact ⟨rfl, hw.congr (fun j hj => by rw [show upto k (fun j => Gf.inv (i ^^^ j)) (fun _ => 0) j = Gf.inv (i ^^^ j) from if_pos hj]), hb⟩

set_option maxHeartbeats 400000 in
theorem codeRows_bad (d s : Int) (w : World) (h : d < 1 ∨ 8 < d ∨ s < 0 ∨ 4 < s) :
    Calls Try.prog 60 #[.int .i64 d, .int .i64 s] w fun e w' => e = .returned (.tuple #[.slice none 0 0, .int .i64 5]) ∧ Below w.heap.size w w' := by
  have H := codeWrong_any d s
  rw [wrongC_bad h] at H
  clear h
  go_enter Try.func60, Try.ntmps60
  go_wp2_with fail
  refine (H _).mono ?_
  rintro e w1 ⟨rfl, b1⟩
  go_wp2_with fail
  go_ret2
  exact ⟨rfl, b1⟩

theorem owns_of_rowIs {w : World} {N b n : Nat} {t : TypeId} {F : Nat → Value} (h : w.rowIs b t n F) (hN : N ≤ b) (hm : n ≤ maxLen) : w.ownsRow N t 1 (.slice (some ⟨b, 0, none⟩) n n) n ((List.range n).map F) := by
  obtain ⟨c, h1, h2, h3⟩ := h
  refine ⟨by simp, .inr ⟨b, n, c, rfl, hN, h1, Nat.le_refl _, hm, by omega, ?_⟩⟩
  apply List.ext_getElem?
  intro i
  rcases Nat.lt_or_ge i n with h | h
  · rw [List.getElem?_take, if_pos (by omega)]
    simp [h, h3 i h]
  · rw [List.getElem?_eq_none (by simp; omega), List.getElem?_eq_none (by simpa using h)]
theorem Own.acc {w : World} {N b n c : Nat} {G : Nat → Nat} {f : Nat → Nat → Nat} (h : Own w N b n c G f) (hn : n ≤ 1000) : Acc w N (.slice (some ⟨b, 0, none⟩) n n) n c G (fun _ => c) f :=
  ⟨owns_of_rowIs h.top h.lob (by unfold maxLen; omega), fun i hi => ⟨h.low i hi, rowC_of (h.row i hi)⟩⟩
theorem Acc.congr {w : World} {N : Nat} {v : Value} {k c : Nat} {G K : Nat → Nat} {f f' : Nat → Nat → Nat} (h : Acc w N v k c G K f) (he : ∀ i, i < k → ∀ j, j < c → f i j = f' i j) : Acc w N v k c G K f' :=
  ⟨h.own, fun i hi => ⟨(h.row i hi).1, (h.row i hi).2.congr (fun j hj => by rw [he i hi j hj])⟩⟩
theorem Acc.mat {w : World} {N : Nat} {v : Value} {k c : Nat} {G K : Nat → Nat} {f : Nat → Nat → Nat} (h : Acc w N v k c G K f) (hk : 1 ≤ k) : ∃ g cap, v = .slice (some ⟨g, 0, none⟩) k cap ∧ N ≤ g ∧ k ≤ cap ∧ MatAt w g 0 k c G (fun _ => 0) K f := by
  obtain ⟨g, cap, hv, hN, hc, hr⟩ := rowC_owns h.own hk
  refine ⟨g, cap, hv, hN, hc, fun r hr' => ?_, fun r hr' j hj => ?_⟩
  · rw [Nat.zero_add, hr.cell hr']
    simp [List.getD, hr']
  · rw [Nat.zero_add]
    exact (h.row r hr').2.cell hj
theorem cell_one {w : World} {v : Value} {t : TypeId} (j : Nat) (u : Value) (hj : [v][j]? = some u) : (w.alloc (.cells #[v] t)).cell? ((⟨w.heap.size, 0, none⟩ : Addr).add j) = some u := by
  match j, hj with
  | 0, hj =>
    simp at hj
    subst hj
    simp [Addr.add]
  | j + 1, hj => simp at hj

set_option maxHeartbeats 1000000 in
theorem codeRows_any (n s : Nat) (w : World) (h1 : 1 ≤ n) (h2 : n ≤ 8) (h3 : s ≤ 4) :
    Calls Try.prog 60 #[.int .i64 (n : Int), .int .i64 (s : Int)] w fun e w' =>
      ∃ g cap, e = .returned (.tuple #[.slice (some ⟨g, 0, none⟩) (n + s) cap, .int .i64 0]) ∧ n + s ≤ cap ∧ (∃ G K, MatAt w' g 0 (n + s) n G (fun _ => 0) K (Gf.rowF n)) ∧ Below w.heap.size w w' := by
  have H := codeWrong_any n s
  rw [wrongC_ok (show ¬ ((n : Int) < 1 ∨ 8 < (n : Int) ∨ (s : Int) < 0 ∨ 4 < (s : Int)) by omega)] at H
  have HO := fun w => one_own n w h1 (by omega)
  obtain ⟨i0, hi, hh⟩ := Option.map_eq_some_iff.1 Try.infoRow
  simp only [Prod.mk.injEq] at hh
  obtain ⟨hz0, hz1, hz2⟩ := hh
  have hsum : IntKind.i64.wrap ((n : Int) + (s : Int)) = ((n + s : Nat) : Int) := by rw [IntKind.wrap_i64]; omega
  go_enter Try.func60, Try.ntmps60
  go_wp2_with fail
  refine (H _).mono ?_
  rintro e w1 ⟨rfl, b1⟩
  clear H
  go_wp2_with fail
  refine (HO _).mono ?_
  rintro e w2 ⟨rfl, ⟨G0, ho⟩, b2⟩
  have A2 := ((ho.lower b1.size).acc (by omega)).congr (f' := Gf.rowF n) (fun i hi j _ => (Gf.rowF_one hi j).symm)
  have b2 := bt b1 b2
  clear HO ho b1
  go_wp2_with fail
  go_loopw [7, 9] (fun v x wr => ∃ k : Nat, n ≤ k ∧ k ≤ n + s ∧ x = .int .i64 k ∧ (∃ G K, Acc wr w.heap.size v k n G K (Gf.rowF n)) ∧ Below w.heap.size w wr) (fun _ x _ => (n + s) - (intOf x).toNat)
  case atStart => exact ⟨n, Nat.le_refl _, Nat.le_add_right _ _, rfl, ⟨_, _, A2⟩, b2⟩
  case round =>
    clear A2 b2
    obtain ⟨k, hnk, hk, rfl, ⟨G, K, hA⟩, hb⟩ := hrel
    by_cases hlt : k < n + s
    · have hlt' : (k : Int) < (n : Int) + (s : Int) := by omega
      have hS := spareRow_any k n wr (by omega) h2
      go_wp2_with fail
      refine hS.mono ?_
      rintro e w3 ⟨rfl, hr3, b3⟩
      have bX := b3.alloc b3.size (.cells #[.slice (some ⟨wr.heap.size, 0, none⟩) n n] 25)
      have AX := hA.below bX
      have rX : RowC (w3.alloc (.cells #[.slice (some ⟨wr.heap.size, 0, none⟩) n n] 25)) wr.heap.size 5 n (fun j => .int .u8 (Gf.rowF n k j : Nat)) := ((rowC_of hr3).congr (fun j _ => by rw [Gf.rowF_inv hnk])).alloc _
      have sX := Nat.le_trans hb.size bX.size
      clear hS hr3 b3
      go_wp2_with (at_builtin; refine wpList_append_own _ rfl (.tmp 32) (.tmp 36) 91 rfl w.heap.size 25 i0 (.slice none 0 0) 1 24 Try.underlying91 hi hz0 hz1 hz2 rfl (by decide) _ _ _ rfl AX.own ⟨w3.heap.size, 0, none⟩ 1 1 [.slice (some ⟨wr.heap.size, 0, none⟩) n n] rfl rfl cell_one (by intro u hu; simp at hu; subst hu; rfl) (by unfold maxLen; omega) (by omega) sX ?_; intro v1 w4 hown1 hgrow1 _)
      have A1 := AX.step ⟨hb.size, rX⟩ hown1 hgrow1
      have b4 : Below w.heap.size w w4 := (hb.trans (bX.mono hb.size)).grown hgrow1 sX (fun x hx => (AX.own.lt x hx).1)
      clear hown1 hgrow1 AX rX bX hA
      go_wp2_with fail
      exact ⟨⟨k + 1, by omega, by omega, by go_num, ⟨_, _, A1⟩, b4⟩, by simp [intOf]; omega⟩
    · have e8 : k = n + s := by omega
      subst e8
      have hnl : ¬ ((n + s : Nat) : Int) < (n : Int) + (s : Int) := by omega
      obtain ⟨g, cap, rfl, _, hc, hm⟩ := hA.mat (by omega)
      clear hA hlt
      go_wp2_with fail
      go_ret2
      exact ⟨g, cap, rfl, hc, ⟨G, K, hm⟩, hb⟩

end Go.Proofs.Ytmlboaejkmffjad
