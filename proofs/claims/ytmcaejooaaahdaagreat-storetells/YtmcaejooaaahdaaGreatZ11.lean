/-
  Texts of the proof, joined: BWrong, BByte, BApp, BBytes.
-/
import Derived.Test.YtmcaejooaaahdaaGreatZ10
import Derived.Test.YtmcaejooaaahdaaGreatZ08
import Derived.Lib.AppendZeros
import Derived.Lib.SliceRun
namespace Go.Proofs.YtmcaejooaaahdaaGreat
open Go.RowKit

set_option maxHeartbeats 400000 in
theorem wrong_blk (s h z : Int) (A : Option Addr) (n cap : Nat) (w : World) :
    Calls Tryz.prog 152 #[.agg #[.int .i64 s, .int .i64 h, .int .i64 z, .slice A n cap]] w fun e w' => e = .returned (.int .i64 (Crc.wrongB s h z n : Nat)) ∧ Below w.heap.size w w' := by
  by_cases c0 : s < 0
  · have H : Hid (Crc.wrongB s h z n = 3) := Crc.wrongB_range (by omega)
    go_enter Tryz.func152, Tryz.ntmps152
    go_wp2_with fail
    go_ret
    exact ⟨ret_int (by rw [H.out]; rfl), (Below.refl _ _).alloc (Nat.le_refl _) _⟩
  by_cases c1 : 39 < s
  · have H : Hid (Crc.wrongB s h z n = 3) := Crc.wrongB_range (by omega)
    go_enter Tryz.func152, Tryz.ntmps152
    go_wp2_with fail
    go_ret
    exact ⟨ret_int (by rw [H.out]; rfl), (Below.refl _ _).alloc (Nat.le_refl _) _⟩
  by_cases c2 : h < 0
  · have H : Hid (Crc.wrongB s h z n = 3) := Crc.wrongB_range (by omega)
    go_enter Tryz.func152, Tryz.ntmps152
    go_wp2_with fail
    go_ret
    exact ⟨ret_int (by rw [H.out]; rfl), (Below.refl _ _).alloc (Nat.le_refl _) _⟩
  by_cases c3 : 11 < h
  · have H : Hid (Crc.wrongB s h z n = 3) := Crc.wrongB_range (by omega)
    go_enter Tryz.func152, Tryz.ntmps152
    go_wp2_with fail
    go_ret
    exact ⟨ret_int (by rw [H.out]; rfl), (Below.refl _ _).alloc (Nat.le_refl _) _⟩
  by_cases c4 : z < 0
  · have H : Hid (Crc.wrongB s h z n = 3) := Crc.wrongB_range (by omega)
    go_enter Tryz.func152, Tryz.ntmps152
    go_wp2_with fail
    go_ret
    exact ⟨ret_int (by rw [H.out]; rfl), (Below.refl _ _).alloc (Nat.le_refl _) _⟩
  by_cases c5 : 3200 < z
  · have H : Hid (Crc.wrongB s h z n = 3) := Crc.wrongB_range (by omega)
    go_enter Tryz.func152, Tryz.ntmps152
    go_wp2_with fail
    go_ret
    exact ⟨ret_int (by rw [H.out]; rfl), (Below.refl _ _).alloc (Nat.le_refl _) _⟩
  by_cases c6 : n < 1
  · have H : Hid (Crc.wrongB s h z n = 5) := Crc.wrongB_many (by omega) (by omega)
    have c6' : n = 0 := by omega
    subst c6'
    go_enter Tryz.func152, Tryz.ntmps152
    go_wp2_with fail
    go_ret
    exact ⟨ret_int (by rw [H.out]; rfl), (Below.refl _ _).alloc (Nat.le_refl _) _⟩
  by_cases c7 : 400 < n
  · have H : Hid (Crc.wrongB s h z n = 5) := Crc.wrongB_many (by omega) (by omega)
    have c7' : (400 : Int) < (n : Int) := by omega
    have c8' : ¬ (n : Int) < 1 := by omega
    have c9' : ((n : Int) == 0) = false := by rw [beq_eq_false_iff_ne]; omega
    go_enter Tryz.func152, Tryz.ntmps152
    go_wp2_with fail
    go_ret
    exact ⟨ret_int (by rw [H.out]; rfl), (Below.refl _ _).alloc (Nat.le_refl _) _⟩
  have H : Hid (Crc.wrongB s h z n = 0) := Crc.wrongB_ok (by omega) (by omega)
  have c7' : ¬ (400 : Int) < (n : Int) := by omega
  have c8' : ¬ (n : Int) < 1 := by omega
  have c9' : ((n : Int) == 0) = false := by rw [beq_eq_false_iff_ne]; omega
  go_enter Tryz.func152, Tryz.ntmps152
  go_wp2_with fail
  go_ret
  exact ⟨ret_int (by rw [H.out]; rfl), (Below.refl _ _).alloc (Nat.le_refl _) _⟩

set_option maxHeartbeats 400000 in
theorem refWrong_blk (s h z : Int) (A : Option Addr) (n cap : Nat) (w : World) :
    Calls Tryz.prog 126 #[.agg #[.int .i64 s, .int .i64 h, .int .i64 z, .slice A n cap]] w fun e w' => e = .returned (.int .i64 (Crc.wrongB s h z n : Nat)) ∧ Below w.heap.size w w' := by
  by_cases c0 : s < 0
  · have H : Hid (Crc.wrongB s h z n = 3) := Crc.wrongB_range (by omega)
    go_enter Tryz.func126, Tryz.ntmps126
    go_wp2_with fail
    go_ret
    exact ⟨ret_int (by rw [H.out]; rfl), (Below.refl _ _).alloc (Nat.le_refl _) _⟩
  by_cases c1 : 39 < s
  · have H : Hid (Crc.wrongB s h z n = 3) := Crc.wrongB_range (by omega)
    go_enter Tryz.func126, Tryz.ntmps126
    go_wp2_with fail
    go_ret
    exact ⟨ret_int (by rw [H.out]; rfl), (Below.refl _ _).alloc (Nat.le_refl _) _⟩
  by_cases c2 : h < 0
  · have H : Hid (Crc.wrongB s h z n = 3) := Crc.wrongB_range (by omega)
    go_enter Tryz.func126, Tryz.ntmps126
    go_wp2_with fail
    go_ret
    exact ⟨ret_int (by rw [H.out]; rfl), (Below.refl _ _).alloc (Nat.le_refl _) _⟩
  by_cases c3 : 11 < h
  · have H : Hid (Crc.wrongB s h z n = 3) := Crc.wrongB_range (by omega)
    go_enter Tryz.func126, Tryz.ntmps126
    go_wp2_with fail
    go_ret
    exact ⟨ret_int (by rw [H.out]; rfl), (Below.refl _ _).alloc (Nat.le_refl _) _⟩
  by_cases c4 : z < 0
  · have H : Hid (Crc.wrongB s h z n = 3) := Crc.wrongB_range (by omega)
    go_enter Tryz.func126, Tryz.ntmps126
    go_wp2_with fail
    go_ret
    exact ⟨ret_int (by rw [H.out]; rfl), (Below.refl _ _).alloc (Nat.le_refl _) _⟩
  by_cases c5 : 3200 < z
  · have H : Hid (Crc.wrongB s h z n = 3) := Crc.wrongB_range (by omega)
    go_enter Tryz.func126, Tryz.ntmps126
    go_wp2_with fail
    go_ret
    exact ⟨ret_int (by rw [H.out]; rfl), (Below.refl _ _).alloc (Nat.le_refl _) _⟩
  by_cases c6 : n < 1
  · have H : Hid (Crc.wrongB s h z n = 5) := Crc.wrongB_many (by omega) (by omega)
    have c6' : n = 0 := by omega
    subst c6'
    go_enter Tryz.func126, Tryz.ntmps126
    go_wp2_with fail
    go_ret
    exact ⟨ret_int (by rw [H.out]; rfl), (Below.refl _ _).alloc (Nat.le_refl _) _⟩
  by_cases c7 : 400 < n
  · have H : Hid (Crc.wrongB s h z n = 5) := Crc.wrongB_many (by omega) (by omega)
    have c7' : (400 : Int) < (n : Int) := by omega
    have c8' : ¬ (n : Int) < 1 := by omega
    have c9' : ((n : Int) == 0) = false := by rw [beq_eq_false_iff_ne]; omega
    go_enter Tryz.func126, Tryz.ntmps126
    go_wp2_with fail
    go_ret
    exact ⟨ret_int (by rw [H.out]; rfl), (Below.refl _ _).alloc (Nat.le_refl _) _⟩
  have H : Hid (Crc.wrongB s h z n = 0) := Crc.wrongB_ok (by omega) (by omega)
  have c7' : ¬ (400 : Int) < (n : Int) := by omega
  have c8' : ¬ (n : Int) < 1 := by omega
  have c9' : ((n : Int) == 0) = false := by rw [beq_eq_false_iff_ne]; omega
  go_enter Tryz.func126, Tryz.ntmps126
  go_wp2_with fail
  go_ret
  exact ⟨ret_int (by rw [H.out]; rfl), (Below.refl _ _).alloc (Nat.le_refl _) _⟩

end Go.Proofs.YtmcaejooaaahdaaGreat

namespace Go.Proofs.YtmcaejooaaahdaaGreat
open Go.RowKit


set_option maxHeartbeats 400000 in
theorem numberAt_any (b o n cap p : Nat) (f : Nat → Nat) (w : World) (hf : Bd f) (hn : n ≤ 9223372036854775807) (hp : p + 1 < n) (hc : ∀ i, i < n → w.cell? ⟨b, o + i, none⟩ = some (.int .u8 (f i : Nat))) :
    Calls Tryz.prog 150 #[.slice (some ⟨b, o, none⟩) n cap, .int .i64 (p : Int)] w fun e w' => e = .returned (.int .i64 ((f p * 256 + f (p + 1) : Nat) : Int)) ∧ Below w.heap.size w w' := by
  have t1 := hc p (by omega)
  have t2 := hc (p + 1) hp
  have f1 := hf p
  have f2 := hf (p + 1)
  have h1 : (p : Int) < (n : Int) := by omega
  have h2 : (p : Int) + 1 < (n : Int) := by omega
  clear hc
  go_enter Tryz.func150, Tryz.ntmps150
  go_wp2_with fail
  go_quiet (fail)
  go_wp2_with fail
  go_ret
  refine ⟨ret_int (?_ : bits .or .i64 ((f p : Nat) * 256) (f (p + 1) : Nat) = _), ⟨rfl, rfl, rfl, Nat.le_refl _, fun _ _ => rfl⟩⟩
  rw [show ((f p : Nat) : Int) * 256 = ((f p * 256 : Nat) : Int) by omega, i64_or _ _ (by omega) (by omega), nat_join 8 _ _ (by omega) (by omega)]

theorem u32_join (i x y : Nat) (hx : x < 2 ^ i) (hy : y % 2 ^ i = 0) (h1 : x < 4294967296) (h2 : y < 4294967296) : bits .or .u32 (x : Int) (y : Int) = ((x + y : Nat) : Int) := by
  rw [u32_or_nat _ _ h1 h2, Nat.or_comm, nat_join i _ _ hy hx, Nat.add_comm]
theorem or4 (a b c d : Nat) (ha : a < 256) (hb : b < 256) (hc : c < 256) (hd : d < 256) :
    bits .or .u32 (bits .or .u32 (bits .or .u32 (bits .or .u32 0 (a : Int)) ((b : Int) * 256)) ((c : Int) * 65536)) ((d : Int) * 16777216) = ((a + b * 256 + c * 65536 + d * 16777216 : Nat) : Int) := by
  rw [show (0 : Int) = ((0 : Nat) : Int) from rfl, u32_join 0 0 a (by decide) (by omega) (by decide) (by omega), Nat.zero_add, show (b : Int) * 256 = ((b * 256 : Nat) : Int) by omega, u32_join 8 a (b * 256) (by omega) (by omega) (by omega) (by omega),
    show (c : Int) * 65536 = ((c * 65536 : Nat) : Int) by omega, u32_join 16 (a + b * 256) (c * 65536) (by omega) (by omega) (by omega) (by omega),
    show (d : Int) * 16777216 = ((d * 16777216 : Nat) : Int) by omega, u32_join 24 (a + b * 256 + c * 65536) (d * 16777216) (by omega) (by omega) (by omega) (by omega)]

set_option maxHeartbeats 1000000 in
theorem sumAt_any (b o n cap p : Nat) (f : Nat → Nat) (w : World) (hf : Bd f) (hn : n ≤ 9223372036854775807) (hp : p + 4 = n) (hc : ∀ i, i < n → w.cell? ⟨b, o + i, none⟩ = some (.int .u8 (f i : Nat))) :
    Calls Tryz.prog 149 #[.slice (some ⟨b, o, none⟩) n cap, .int .i64 (p : Int)] w fun e w' => e = .returned (.int .u32 (Crc.four f p : Nat)) ∧ Below w.heap.size w w' := by
  have t0 := hc p (by omega)
  have t1 := hc (p + 1) (by omega)
  have t2 := hc (p + 2) (by omega)
  have t3 := hc (p + 3) (by omega)
  have f0 := hf p
  have f1 := hf (p + 1)
  have f2 := hf (p + 2)
  have f3 := hf (p + 3)
  have hp' : (n : Int) = (p : Int) + 4 := by omega
  subst hp
  clear hc
  go_enter Tryz.func149, Tryz.ntmps149
  go_wp2_with fail
  refine wp_loop_rounds 5 ?_
  iterate 5
    rw [rounds_succ]
    go_wp2_with fail
  go_ret
  exact ⟨ret_int (or4 (f p) (f (p + 1)) (f (p + 2)) (f (p + 3)) f0 f1 f2 f3), Below.refl _ _⟩

/-- n bytes are not of a block's form. -/
def BadForm (g : Nat → Nat) (n : Nat) : Prop := n < 12 ∨ g 0 ≠ 83 ∨ n ≠ 11 + (g 5 * 256 + g 6)

set_option maxHeartbeats 1000000 in
theorem wellFormed_blk (v : Value) (n : Nat) (g : Nat → Nat) (w : World) (h : Byts w v n g) :
    Calls Tryz.prog 147 #[v] w fun e w' => Tell e (¬ BadForm g n) ∧ Below w.heap.size w w' := by
  by_cases hn : n < 12
  · have H : Hid (BadForm g n) := Or.inl hn
    obtain ⟨_, A, cap, rfl, _⟩ := h
    have hn' : (n : Int) < 12 := by omega
    go_enter Tryz.func147, Tryz.ntmps147
    go_wp2_with fail
    go_ret
    exact ⟨tell_no (fun k => k H.out), Below.refl _ _⟩
  · have hn' : ¬ (n : Int) < 12 := by omega
    have hbd := h.bd
    have hl := h.len
    obtain ⟨b, o, cap, rfl, _, _, hc⟩ := h.some (by omega)
    have t0 : w.cell? ⟨b, o, none⟩ = some (.int .u8 (g 0 : Nat)) := by simpa using hc 0 (by omega)
    have hnz : (0 : Int) < (n : Int) := by omega
    by_cases h0 : g 0 = 83
    · have H2 := fun w' (hb' : Below w.heap.size w w') => numberAt_any b o n cap 5 g w' hbd hl (by omega) (fun i hi => (hb'.cell (p := ⟨b, o + i, none⟩) (World.block_lt_of_cell? _ _ (hc i hi))).trans (hc i hi))
      have e0 : (((g 0 : Nat) : Int) != 83) = false := by rw [h0]; rfl
      have b5 := hbd 5
      have b6 := hbd 6
      have HX : Hid (¬ BadForm g n ↔ (n : Int) = 7 + ((g 5 * 256 + g 6 : Nat) : Int) + 4) := by
        unfold BadForm
        constructor
        · intro k
          omega
        · intro k
          omega
      have hq : g 5 * 256 + g 6 ≤ 65535 := by omega
      generalize g 5 * 256 + g 6 = q at H2 HX hq
      clear hc h0 h
      go_enter Tryz.func147, Tryz.ntmps147
      go_wp2_with fail
      refine (H2 _ (Below.refl _ _)).mono ?_
      rintro e w1 ⟨rfl, b1⟩
      clear H2
      go_wp2_with fail
      go_ret
      exact ⟨tell_of (by rw [beq_iff_eq]; exact HX.out.symm), b1⟩
    · have H : Hid (BadForm g n) := Or.inr (Or.inl h0)
      have e0 : (((g 0 : Nat) : Int) != 83) = true := by rw [bne_iff_ne]; omega
      clear hc h0 h
      go_enter Tryz.func147, Tryz.ntmps147
      go_wp2_with fail
      go_ret
      exact ⟨tell_no (fun k => k H.out), Below.refl _ _⟩

end Go.Proofs.YtmcaejooaaahdaaGreat

namespace Go.Proofs.YtmcaejooaaahdaaGreat
open Go.RowKit

/-- Bytes as a list of cells. -/
def cellsOf (f : Nat → Nat) (n : Nat) : List Value := (List.range n).map fun k => .int .u8 (f k : Nat)
theorem cellsOf_getD (f : Nat → Nat) (n j : Nat) (h : j < n) (d : Value) : (cellsOf f n).getD j d = .int .u8 (f j : Nat) := by simp [cellsOf, List.getD, h]
theorem cellsOf_congr {f g : Nat → Nat} {n : Nat} (h : ∀ k, k < n → f k = g k) : cellsOf f n = cellsOf g n := List.map_congr_left (fun k hk => by rw [h k (List.mem_range.1 hk)])
theorem cellsOf_add (f : Nat → Nat) (n m : Nat) : cellsOf f (n + m) = cellsOf f n ++ cellsOf (fun k => f (n + k)) m := by
  unfold cellsOf
  rw [List.range_add, List.map_append, List.map_map]
  rfl
theorem cellsOf_one (f : Nat → Nat) (n : Nat) : ∀ u ∈ cellsOf f n, u.oneCell' = true := fun u hu => by
  obtain ⟨k, _, rfl⟩ := List.mem_map.1 hu
  rfl

/-- Bytes that the call has made, and appends to. -/
def Buf (w : World) (N : Nat) (v : Value) (n : Nat) (f : Nat → Nat) : Prop := w.ownsRow N 5 1 v n (cellsOf f n)
theorem Buf.below {w w' : World} {N : Nat} {v : Value} {n : Nat} {f : Nat → Nat} (h : Buf w N v n f) (hb : Below w.heap.size w w') : Buf w' N v n f := owns_below h hb
theorem Buf.congr {w : World} {N : Nat} {v : Value} {n : Nat} {f g : Nat → Nat} (h : Buf w N v n f) (e : ∀ k, k < n → f k = g k) : Buf w N v n g := by
  unfold Buf at h ⊢
  rw [← cellsOf_congr e]
  exact h
theorem Buf.byts {w : World} {N : Nat} {v : Value} {n : Nat} {f : Nat → Nat} (h : Buf w N v n f) (hf : Bd f) (hn : 1 ≤ n) : ∃ g cap, v = .slice (some ⟨g, 0, none⟩) n cap ∧ N ≤ g ∧ n ≤ cap ∧ cap ≤ maxLen ∧ RowC w g 5 n (fun j => .int .u8 (f j : Nat)) ∧ Byts w v n f := by
  obtain ⟨hl, h'⟩ := h
  rcases h' with ⟨_, h0⟩ | ⟨g, cap, cur, hv, hN, hg, hc, hm, hs, ht⟩
  · omega
  · obtain ⟨g', cap', hv', hN', hc', hr⟩ := rowC_owns (w := w) (N := N) (t := 5) (v := v) (n := n) (xs := cellsOf f n) ⟨hl, Or.inr ⟨g, cap, cur, hv, hN, hg, hc, hm, hs, ht⟩⟩ hn
    rw [hv] at hv'
    cases hv'
    have hr2 : RowC w g 5 n (fun j => .int .u8 (f j : Nat)) := hr.congr (fun j hj => cellsOf_getD f n j hj _)
    exact ⟨g, cap, hv, hN, hc, hm, hr2, by rw [hv]; exact byts_of_row hf hr2 hc hm⟩

/-- A function with one value set. -/
def put (f : Nat → Nat) (n x : Nat) (k : Nat) : Nat := if k = n then x else f k

set_option maxHeartbeats 400000 in
theorem appNum_any (N n x : Nat) (v : Value) (f : Nat → Nat) (w : World) (h : Buf w N v n f) (hN : N ≤ w.heap.size) (hn : n ≤ 1000) (hx : x < 65536) :
    Calls Tryz.prog 165 #[v, .int .i64 (x : Int)] w fun e w' => ∃ v', e = .returned v' ∧ Buf w' N v' (n + 2) (put (put f n (x / 256)) (n + 1) (x % 256)) ∧ Below N w w' := by
  obtain ⟨i1, hi1, hh1⟩ := Option.map_eq_some_iff.1 Tryz.infoByte
  simp only [Prod.mk.injEq] at hh1
  obtain ⟨hy0, hy1, hy2⟩ := hh1
  go_enter Tryz.func165, Tryz.ntmps165
  have HO : Buf (w.alloc (.cells #[.int .u8 ((x : Int) / 256), .int .u8 ((x : Int) % 256)] 5)) N v n f := h.below ((Below.refl _ _).alloc (Nat.le_refl _) _)
  have hbx : Below N w (w.alloc (.cells #[.int .u8 ((x : Int) / 256), .int .u8 ((x : Int) % 256)] 5)) := (Below.refl _ _).alloc hN _
  have HL := h.lt
  have cn := cells_new w #[.int .u8 ((x : Int) / 256), .int .u8 ((x : Int) % 256)] 5
  have sX := hbx.size
  go_wp2_with (at_builtin; go_loud (refine wpList_append_own _ rfl (.tmp 5) (.tmp 11) 59 rfl N 5 i1 (.int .u8 0) 1 1 Tryz.underlying59 hi1 hy0 hy1 hy2 rfl (by decide) _ _ _ rfl HO ⟨w.heap.size, 0, none⟩ 2 2 [.int .u8 ((x : Int) / 256), .int .u8 ((x : Int) % 256)] rfl rfl cn (by intro u hu; simp at hu; rcases hu with rfl | rfl <;> rfl) (by unfold maxLen; omega) (by omega) (Nat.le_trans hN sX) ?_; intro v1 w1 hown1 hgrow1 _))
  go_ret
  refine ⟨_, rfl, ?_, hbx.grown hgrow1 (Nat.le_trans hN sX) (fun y hy => (HL y hy).1)⟩
  have e : cellsOf (put (put f n (x / 256)) (n + 1) (x % 256)) (n + 2) = cellsOf f n ++ [.int .u8 ((x : Int) / 256), .int .u8 ((x : Int) % 256)] := by
    rw [cellsOf_add]
    refine congr (congrArg _ ?_) ?_
    · exact cellsOf_congr (fun k hk => by unfold put; rw [if_neg (by omega), if_neg (by omega)])
    · show [Value.int .u8 ((put (put f n (x / 256)) (n + 1) (x % 256) (n + 0) : Nat) : Int), Value.int .u8 ((put (put f n (x / 256)) (n + 1) (x % 256) (n + 1) : Nat) : Int)] = _
      unfold put
      rw [if_neg (by omega), if_pos (by omega), if_pos rfl]
      rfl
  unfold Buf
  rw [e]
  exact hown1

theorem buf_one {w : World} {N n y : Nat} {v : Value} {f : Nat → Nat} {a : Int} (h : w.ownsRow N 5 1 v (n + 1) (cellsOf f n ++ [.int .u8 a])) (e : a = (y : Int)) (ey : f n = y) : Buf w N v (n + 1) f := by
  unfold Buf
  rw [cellsOf_add]
  show w.ownsRow N 5 1 v (n + 1) (cellsOf f n ++ [Value.int .u8 ((f n : Nat) : Int)])
  rw [ey, ← e]
  exact h

/-- The first n by f, then the bytes of a sum. -/
def then4 (f : Nat → Nat) (n x k : Nat) : Nat := if k < n then f k else Crc.low x (k - n)

set_option maxHeartbeats 400000 in
theorem appSum_any (N n x : Nat) (v : Value) (f : Nat → Nat) (w : World) (h : Buf w N v n f) (hN : N ≤ w.heap.size) (hn : n ≤ 1000) (_hx : x < 4294967296) :
    Calls Tryz.prog 166 #[v, .int .u32 (x : Int)] w fun e w' => ∃ v', e = .returned v' ∧ Buf w' N v' (n + 4) (then4 f n x) ∧ Below N w w' := by
  obtain ⟨i1, hi1, hh1⟩ := Option.map_eq_some_iff.1 Tryz.infoByte
  simp only [Prod.mk.injEq] at hh1
  obtain ⟨hy0, hy1, hy2⟩ := hh1
  go_enter Tryz.func166, Tryz.ntmps166
  go_wp2_with fail
  go_loopw [0, 6] (fun u y wr => ∃ k : Nat, k ≤ 4 ∧ y = .int .i64 k ∧ Buf wr N u (n + k) (then4 f n x) ∧ Below N w wr) (fun _ y _ => 4 - (intOf y).toNat)
  case atStart => exact ⟨0, Nat.zero_le _, rfl, h.congr (fun k hk => by unfold then4; rw [if_pos hk]), Below.refl _ _⟩
  case round =>
    obtain ⟨k, hk, rfl, HB, hb⟩ := hrel
    by_cases hlt : k < 4
    · have hlt' : (k : Int) < 4 := by omega
      have HO := HB.below ((Below.refl _ _).alloc (Nat.le_refl _) (.cells #[.int .u8 ((x : Int) / 2 ^ (8 * k) % 256)] 5))
      have hbx : Below N w (wr.alloc (.cells #[.int .u8 ((x : Int) / 2 ^ (8 * k) % 256)] 5)) := hb.alloc (Nat.le_trans hN hb.size) _
      have HL := HB.lt
      have cn := cells_new wr #[.int .u8 ((x : Int) / 2 ^ (8 * k) % 256)] 5
      have sX : N ≤ (wr.alloc (.cells #[.int .u8 ((x : Int) / 2 ^ (8 * k) % 256)] 5)).heap.size := Nat.le_trans hN hbx.size
      go_wp2_with (at_builtin; go_loud (refine wpList_append_own _ rfl (.tmp 9) (.tmp 15) 59 rfl N 5 i1 (.int .u8 0) 1 1 Tryz.underlying59 hi1 hy0 hy1 hy2 rfl (by decide) _ _ _ rfl HO ⟨wr.heap.size, 0, none⟩ 1 1 [.int .u8 ((x : Int) / 2 ^ (8 * k) % 256)] rfl rfl cn (by intro u hu; simp at hu; subst hu; rfl) (by unfold maxLen; omega) (by omega) sX ?_; intro v1 w1 hown1 hgrow1 _))
      refine ⟨⟨k + 1, by omega, by go_num, buf_one (n := n + k) hown1 (y := Crc.low x k) ?_ ?_, hbx.grown hgrow1 sX (fun y hy => (HL y hy).1)⟩, by simp [intOf]; omega⟩
      · unfold Crc.low
        rw [show (256 : Nat) ^ k = 2 ^ (8 * k) by rw [Nat.pow_mul]]
        simp
      · unfold then4
        rw [if_neg (by omega), Nat.add_sub_cancel_left]
    · have e8 : k = 4 := by omega
      subst e8
      go_wp2_with fail
      go_ret
      exact ⟨_, rfl, HB, hb⟩

theorem clone_run (w : World) (b o L C : Nat) (f : Nat → Nat) (hL : L ≤ 100000) (hc : ∀ k, k < L → w.cell? ⟨b, o + k, none⟩ = some (.int .u8 (f k : Nat))) :
    ∃ v' w', (Builtin.append_ #[59, 59] 59 #[.slice (some ⟨w.heap.size, 0, none⟩) 0 0, .slice (some ⟨b, o, none⟩) L C]).run Tryz.prog (w.alloc (.cells #[] 5)) = .ok v' w' ∧ Buf w' w.heap.size v' L f ∧ Below w.heap.size w w' := by
  obtain ⟨i1, hi1, hh1⟩ := Option.map_eq_some_iff.1 Tryz.infoByte
  simp only [Prod.mk.injEq] at hh1
  obtain ⟨hy0, hy1, hy2⟩ := hh1
  have hbX := (Below.refl w.heap.size w).alloc (Nat.le_refl _) (.cells #[] 5)
  have hown0 : (w.alloc (.cells #[] 5)).ownsRow w.heap.size 5 1 (.slice (some ⟨w.heap.size, 0, none⟩) 0 0) 0 [] := World.ownsRow_made w #[] 0 (Nat.le_refl _) (by unfold maxLen; omega) rfl
  have hn : ∀ j u, (cellsOf f L)[j]? = some u → (w.alloc (.cells #[] 5)).cell? ((⟨b, o, none⟩ : Addr).add j) = some u := fun j u hj => by
    rcases Nat.lt_or_ge j L with h | h
    · simp [cellsOf, h] at hj
      rw [WideShapes.add_plain, (hbX.cell (p := ⟨b, o + j, none⟩) (World.block_lt_of_cell? _ _ (hc j h))).trans (hc j h), ← hj]
    · simp [List.getElem?_eq_none (show (cellsOf f L).length ≤ j by simpa [cellsOf] using h)] at hj
  obtain ⟨v', w', hrun, ho, hg, _⟩ := run_append_own (P := Tryz.prog) (w.alloc (.cells #[] 5)) w.heap.size 59 59 5 i1 (.int .u8 0) 1 1 Tryz.underlying59 hi1 hy0 hy1 hy2 rfl (by decide) _ 0 [] hown0 ⟨b, o, none⟩ L C (cellsOf f L) (by simp [cellsOf]) hn (cellsOf_one f L) (by unfold maxLen; omega) (by omega) hbX.size
  rw [Nat.zero_add, List.nil_append] at ho
  exact ⟨v', w', hrun, ho, hbX.grown hg hbX.size (fun x hx => (hown0.lt x hx).1)⟩

set_option maxHeartbeats 400000 in
theorem clone_any (b o L C : Nat) (f : Nat → Nat) (w : World) (hL : L ≤ 100000) (hc : ∀ k, k < L → w.cell? ⟨b, o + k, none⟩ = some (.int .u8 (f k : Nat))) :
    Calls Tryz.prog 151 #[.slice (some ⟨b, o, none⟩) L C] w fun e w' => ∃ v', e = .returned v' ∧ Buf w' w.heap.size v' L f ∧ Below w.heap.size w w' := by
  obtain ⟨v', w', hrun, HB, hb⟩ := clone_run w b o L C f hL hc
  have HX : Hid (Buf w' w.heap.size v' L f) := HB
  have hq := fun w => Lib.run_eql_slice_nil (P := Tryz.prog) w 59 5 (some ⟨b, o, none⟩) L C 0 0 Tryz.underlying59
  clear HB hc
  go_enter Tryz.func151, Tryz.ntmps151
  go_wp2_with (at_builtin; refine Lib.wpList_append_run _ rfl (.tmp 5) (.tmp 6) 59 59 rfl _ _ rfl rfl _ _ hrun ?_)
  go_ret
  exact ⟨_, rfl, HX.out, hb⟩

end Go.Proofs.YtmcaejooaaahdaaGreat

namespace Go.Proofs.YtmcaejooaaahdaaGreat
open Go.RowKit

/-- Bytes in a block that the call has made, from block N on. -/
def Made (w : World) (N : Nat) (v : Value) (m : Nat) (f : Nat → Nat) : Prop := ∃ g cap, v = .slice (some ⟨g, 0, none⟩) m cap ∧ N ≤ g ∧ m ≤ cap ∧ cap ≤ maxLen ∧ RowC w g 5 m (fun j => .int .u8 (f j : Nat))
theorem Made.byts {w : World} {N m : Nat} {v : Value} {f : Nat → Nat} (h : Made w N v m f) (hf : Bd f) : Byts w v m f := by
  obtain ⟨g, cap, rfl, _, h1, h2, hr⟩ := h
  exact byts_of_row hf hr h1 h2
theorem Made.below {w w' : World} {N m : Nat} {v : Value} {f : Nat → Nat} (h : Made w N v m f) (hb : Below w.heap.size w w') : Made w' N v m f := by
  obtain ⟨g, cap, hv, hN, h1, h2, hr⟩ := h
  exact ⟨g, cap, hv, hN, h1, h2, hr.below hb⟩
theorem Made.lower {w : World} {N M m : Nat} {v : Value} {f : Nat → Nat} (h : Made w N v m f) (hM : M ≤ N) : Made w M v m f := by
  obtain ⟨g, cap, hv, hN, h1, h2, hr⟩ := h
  exact ⟨g, cap, hv, Nat.le_trans hM hN, h1, h2, hr⟩
theorem Buf.made {w : World} {N : Nat} {v : Value} {n : Nat} {f : Nat → Nat} (h : Buf w N v n f) (hf : Bd f) (hn : 1 ≤ n) : Made w N v n f := by
  obtain ⟨g, cap, hv, hN, h1, h2, hr, _⟩ := h.byts hf hn
  exact ⟨g, cap, hv, hN, h1, h2, hr⟩

theorem owns_lit (w : World) (c : Array Value) (t : TypeId) (hm : c.size ≤ maxLen) : (w.alloc (.cells c t)).ownsRow w.heap.size t 1 (.slice (some ⟨w.heap.size, 0, none⟩) c.size c.size) c.size c.toList :=
  ⟨by simp, .inr ⟨w.heap.size, c.size, c, rfl, Nat.le_refl _, Deep.blk_alloc_new _ _, Nat.le_refl _, hm, by simp, by rw [Nat.mul_one]; exact List.take_of_length_le (by simp)⟩⟩

theorem hd_at3 (s h z n : Nat) (f : Nat → Nat) : ∀ k, k < 5 → put (put (Crc.hd s h z n f) 3 (z / 256)) 4 (z % 256) k = Crc.hd s h z n f k := fun k hk => by
  unfold put
  by_cases e : k = 4
  · rw [if_pos e, e]; rfl
  · rw [if_neg e]
    by_cases e : k = 3
    · rw [if_pos e, e]; rfl
    · rw [if_neg e]
theorem hd_at5 (s h z n : Nat) (f : Nat → Nat) : ∀ k, k < 7 → put (put (Crc.hd s h z n f) 5 (n / 256)) 6 (n % 256) k = Crc.hd s h z n f k := fun k hk => by
  unfold put
  by_cases e : k = 6
  · rw [if_pos e, e]; rfl
  · rw [if_neg e]
    by_cases e : k = 5
    · rw [if_pos e, e]; rfl
    · rw [if_neg e]
theorem hd_data (s h z n : Nat) (f : Nat → Nat) : cellsOf (Crc.hd s h z n f) (7 + n) = cellsOf (Crc.hd s h z n f) 7 ++ cellsOf f n := by
  rw [cellsOf_add]
  congr 1
  refine cellsOf_congr (fun k _ => ?_)
  rw [Nat.add_comm]
  rfl
theorem then4_enc (s h z n : Nat) (f : Nat → Nat) : ∀ k, then4 (Crc.hd s h z n f) (7 + n) (Crc.sum (Crc.hd s h z n f) (7 + n)) k = Crc.enc s h z n f k := fun k => by
  unfold then4 Crc.enc
  rw [Nat.add_comm 7 n]

set_option maxHeartbeats 400000 in
theorem bytes_bad (s h z : Int) (A : Option Addr) (n cap : Nat) (w : World) (hx : Crc.wrongB s h z n ≠ 0) :
    Calls Tryz.prog 138 #[.agg #[.int .i64 s, .int .i64 h, .int .i64 z, .slice A n cap]] w fun e w' => e = .returned (.tuple #[.slice none 0 0, .int .i64 (Crc.wrongB s h z n : Nat)]) ∧ Below w.heap.size w w' := by
  have H1 := fun w' => wrong_blk s h z A n cap w'
  generalize Crc.wrongB s h z n = x at H1 hx
  have hx' : ((x : Int) == 0) = false := by rw [beq_eq_false_iff_ne]; omega
  have hxn : ((x : Int) != 0) = true := by rw [bne, hx']; rfl
  have hbx : Below w.heap.size w (w.alloc (.cells #[.int .i64 s, .int .i64 h, .int .i64 z, .slice A n cap] 137)) := (Below.refl _ _).alloc (Nat.le_refl _) _
  clear hx
  go_enter Tryz.func138, Tryz.ntmps138
  go_wp2_with fail
  refine (H1 _).mono ?_
  rintro e w1 ⟨rfl, b1⟩
  have b1 := bt hbx b1
  clear H1
  go_wp2_with fail
  go_ret2
  exact ⟨rfl, b1⟩

set_option maxHeartbeats 1000000 in
theorem bytes_ok (s h z : Nat) (v : Value) (n : Nat) (f : Nat → Nat) (w : World) (hd : Byts w v n f) (hx : Crc.wrongB s h z n = 0) :
    Calls Tryz.prog 138 #[.agg #[.int .i64 (s : Int), .int .i64 (h : Int), .int .i64 (z : Int), v]] w fun e w' => ∃ v', e = .returned (.tuple #[v', .int .i64 0]) ∧ Made w' w.heap.size v' (n + 11) (Crc.enc s h z n f) ∧ Below w.heap.size w w' := by
  obtain ⟨⟨_, hs, _, hh, _, hz⟩, hn1, hn4⟩ := Crc.wrongB_inv hx
  have hf := hd.bd
  have HBD : Hid (Bd (Crc.hd s h z n f)) := Crc.hd_bd (by omega) (by omega) (by omega) (by omega) hf
  have HBE : Hid (Bd (Crc.enc s h z n f)) := Crc.enc_bd (by omega) (by omega) (by omega) (by omega) hf
  obtain ⟨b, o, cap, rfl, _, _, hc⟩ := hd.some hn1
  obtain ⟨i1, hi1, hh1⟩ := Option.map_eq_some_iff.1 Tryz.infoByte
  simp only [Prod.mk.injEq] at hh1
  obtain ⟨hy0, hy1, hy2⟩ := hh1
  have H1 := fun w' => wrong_blk s h z (some ⟨b, o, none⟩) n cap w'
  rw [hx] at H1
  have hbx : Below w.heap.size w (w.alloc (.cells #[.int .i64 s, .int .i64 h, .int .i64 z, .slice (some ⟨b, o, none⟩) n cap] 137)) := (Below.refl _ _).alloc (Nat.le_refl _) _
  have kc := cells_new w #[.int .i64 s, .int .i64 h, .int .i64 z, .slice (some ⟨b, o, none⟩) n cap] 137
  have k0 := kc 0 _ rfl
  have k1 := kc 1 _ rfl
  have k2 := kc 2 _ rfl
  have k3 := kc 3 _ rfl
  rw [WideShapes.add_plain] at k0 k1 k2 k3
  have szx : (w.alloc (.cells #[.int .i64 s, .int .i64 h, .int .i64 z, .slice (some ⟨b, o, none⟩) n cap] 137)).heap.size = w.heap.size + 1 := by simp
  clear kc hd hx
  go_enter Tryz.func138, Tryz.ntmps138
  go_wp2_with fail
  refine (H1 _).mono ?_
  rintro e w1 ⟨rfl, b1⟩
  have hlt : w.heap.size < w1.heap.size := by have := b1.size; omega
  have K0 := (b1.cell (p := ⟨w.heap.size, 0, none⟩) (by show w.heap.size < _; omega)).trans k0
  have K1 := (b1.cell (p := ⟨w.heap.size, 0 + 1, none⟩) (by show w.heap.size < _; omega)).trans k1
  have K2 := (b1.cell (p := ⟨w.heap.size, 0 + 2, none⟩) (by show w.heap.size < _; omega)).trans k2
  have K3 := (b1.cell (p := ⟨w.heap.size, 0 + 3, none⟩) (by show w.heap.size < _; omega)).trans k3
  rw [Nat.zero_add] at K1 K2 K3
  have b1 := bt hbx b1
  clear H1 k0 k1 k2 k3 hbx szx
  have X2 : Below w1.heap.size w1 (w1.alloc (.cells #[.int .u8 83, .int .u8 (s : Int), .int .u8 (h : Int)] 5)) := (Below.refl _ _).alloc (Nat.le_refl _) _
  have B2 : Buf (w1.alloc (.cells #[.int .u8 83, .int .u8 (s : Int), .int .u8 (h : Int)] 5)) w1.heap.size (.slice (some ⟨w1.heap.size, 0, none⟩) 3 3) 3 (Crc.hd s h z n f) := owns_lit w1 #[.int .u8 83, .int .u8 (s : Int), .int .u8 (h : Int)] 5 (by unfold maxLen; simp)
  have H2 := appNum_any w1.heap.size 3 z _ _ _ B2 X2.size (by omega) (by omega)
  clear B2
  go_wp2_with fail
  refine H2.mono ?_
  rintro e w2 ⟨v2, rfl, B3, hb2⟩
  have c2 := X2.trans hb2
  have B3 := B3.congr (hd_at3 s h z n f)
  have K3 := (c2.cell (p := ⟨w.heap.size, 3, none⟩) hlt).trans K3
  have H3 := appNum_any w1.heap.size 5 n _ _ _ B3 c2.size (by omega) (by omega)
  clear H2 B3 X2 hb2
  go_wp2_with fail
  refine H3.mono ?_
  rintro e w3 ⟨v3, rfl, B4, hb3⟩
  have K3 := (hb3.cell (p := ⟨w.heap.size, 3, none⟩) hlt).trans K3
  have c3 := c2.trans hb3
  have B4 := B4.congr (hd_at5 s h z n f)
  have b3 := b1.trans (c3.mono b1.size)
  have hnew : ∀ j u, (cellsOf f n)[j]? = some u → w3.cell? ((⟨b, o, none⟩ : Addr).add j) = some u := fun j u hj => by
    rcases Nat.lt_or_ge j n with h | h
    · simp [cellsOf, h] at hj
      rw [WideShapes.add_plain, (b3.cell (p := ⟨b, o + j, none⟩) (World.block_lt_of_cell? _ _ (hc j h))).trans (hc j h), ← hj]
    · simp [List.getElem?_eq_none (show (cellsOf f n).length ≤ j by simpa [cellsOf] using h)] at hj
  have h1c := cellsOf_one f n
  have hlen : (cellsOf f n).length = n * 1 := by simp [cellsOf]
  have HL := B4.lt
  have HDD : Hid (cellsOf (Crc.hd s h z n f) (7 + n) = cellsOf (Crc.hd s h z n f) 7 ++ cellsOf f n) := hd_data s h z n f
  have s3 := c3.size
  clear hc
  go_wp2_with (at_builtin; go_loud (refine wpList_append_own _ rfl (.tmp 27) (.tmp 29) 59 rfl w1.heap.size 5 i1 (.int .u8 0) 1 1 Tryz.underlying59 hi1 hy0 hy1 hy2 rfl (by decide) _ _ _ rfl B4 ⟨b, o, none⟩ n cap (cellsOf f n) rfl hlen hnew h1c (by unfold maxLen; omega) (by omega) s3 ?_; intro v4 w4 hown4 hgrow4 _))
  have B5 : Buf w4 w1.heap.size v4 (7 + n) (Crc.hd s h z n f) := by
    unfold Buf
    rw [HDD.out]
    exact hown4
  have c4 := c3.grown hgrow4 s3 (fun y hy => (HL y hy).1)
  have Y4 := (B5.made HBD.out (by omega)).byts HBD.out
  have H5 := sum_any v4 (7 + n) _ w4 Y4
  have hsl : Crc.sum (Crc.hd s h z n f) (7 + n) < 4294967296 := Crc.sum_lt HBD.out _
  have H6 := appSum_any w1.heap.size (7 + n) (Crc.sum (Crc.hd s h z n f) (7 + n)) v4 _ w4 B5 c4.size (by omega) hsl
  have HE : Hid (∀ k, then4 (Crc.hd s h z n f) (7 + n) (Crc.sum (Crc.hd s h z n f) (7 + n)) k = Crc.enc s h z n f k) := then4_enc s h z n f
  generalize Crc.sum (Crc.hd s h z n f) (7 + n) = S at H5 H6 hsl HE
  clear hown4 B5 Y4 HDD H3 B4 hnew K3 hgrow4 HL h1c hlen
  refine H5.mono ?_
  rintro e w5 ⟨rfl, rfl⟩
  go_wp2_with fail
  refine H6.mono ?_
  rintro e w6 ⟨v6, rfl, B7, hb6⟩
  have c6 := c4.trans hb6
  have HM : Hid (Made w6 w.heap.size v6 (n + 11) (Crc.enc s h z n f)) := by
    have := (B7.congr (fun k _ => HE.out k)).made HBE.out (by omega)
    rw [show 7 + n + 4 = n + 11 by omega] at this
    exact this.lower b1.size
  clear H5 H6 B7
  go_wp2_with fail
  go_ret2
  exact ⟨v6, rfl, HM.out, b1.trans (c6.mono b1.size)⟩

set_option maxHeartbeats 400000 in
theorem refBytes_bad (s h z : Int) (A : Option Addr) (n cap : Nat) (w : World) (hx : Crc.wrongB s h z n ≠ 0) :
    Calls Tryz.prog 95 #[.agg #[.int .i64 s, .int .i64 h, .int .i64 z, .slice A n cap]] w fun e w' => e = .returned (.tuple #[.slice none 0 0, .int .i64 (Crc.wrongB s h z n : Nat)]) ∧ Below w.heap.size w w' := by
  have H1 := fun w' => refWrong_blk s h z A n cap w'
  generalize Crc.wrongB s h z n = x at H1 hx
  have hx' : ((x : Int) == 0) = false := by rw [beq_eq_false_iff_ne]; omega
  have hxn : ((x : Int) != 0) = true := by rw [bne, hx']; rfl
  have hbx : Below w.heap.size w (w.alloc (.cells #[.int .i64 s, .int .i64 h, .int .i64 z, .slice A n cap] 137)) := (Below.refl _ _).alloc (Nat.le_refl _) _
  clear hx
  go_enter Tryz.func95, Tryz.ntmps95
  go_wp2_with fail
  refine (H1 _).mono ?_
  rintro e w1 ⟨rfl, b1⟩
  have b1 := bt hbx b1
  clear H1
  go_wp2_with fail
  go_ret2
  exact ⟨rfl, b1⟩

end Go.Proofs.YtmcaejooaaahdaaGreat
