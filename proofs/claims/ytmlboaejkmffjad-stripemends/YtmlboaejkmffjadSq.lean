/-
  What field.repeatedSquares and field.raise do, call by call.
-/
import Derived.Test.YtmlboaejkmffjadMul
namespace Go.Proofs.Ytmlboaejkmffjad
open Go.RowKit

/-- Block g of the world holds the row of eight bytes f 0 .. f 7. -/
def Row (w : World) (g : Nat) (f : Nat → Int) : Prop :=
  w.heap[g]? = some (.cells #[.int .u8 (f 0), .int .u8 (f 1), .int .u8 (f 2), .int .u8 (f 3), .int .u8 (f 4), .int .u8 (f 5), .int .u8 (f 6), .int .u8 (f 7)] 122)

theorem Row.cell {w : World} {g : Nat} {f : Nat → Int} (h : Row w g f) (k : Nat) (hk : k < 8) : w.cell? ⟨g, k, none⟩ = some (.int .u8 (f k)) := by
  rw [cell_of_row _ _ k _ 122 (0, 0) h]
  match k, hk with
  | 0, _ => rfl
  | 1, _ => rfl
  | 2, _ => rfl
  | 3, _ => rfl
  | 4, _ => rfl
  | 5, _ => rfl
  | 6, _ => rfl
  | 7, _ => rfl
theorem Row.frozen {w : World} {g : Nat} {f : Nat → Int} (h : Row w g f) (k : Nat) : w.frozen? ⟨g, k, none⟩ = false := frozen_of_row w g k _ 122 h
theorem Row.lt {w : World} {g : Nat} {f : Nat → Int} (h : Row w g f) : g < w.heap.size := by
  unfold Row at h
  exact (Array.getElem?_eq_some_iff.1 h).1
theorem Row.below {w w' : World} {B g : Nat} {f : Nat → Int} (h : Row w g f) (hb : Below B w w') (hg : g < B) : Row w' g f := by
  unfold Row
  rw [hb.block g hg]
  exact h
theorem Row.other {w : World} {g : Nat} {f : Nat → Int} (h : Row w g f) (a : Addr) (v : Value) (hg : g ≠ a.block) : Row (w.setCell a v) g f := by
  unfold Row
  rw [heap_setCell_other w a g v hg]
  exact h
theorem Row.put {w : World} {g : Nat} {f f' : Nat → Int} (h : Row w g f) (k : Nat) (hk : k < 8) (x : Int) (hx : f' k = x) (ho : ∀ j, j ≠ k → f' j = f j) : Row (w.setCell ⟨g, k, none⟩ (.int .u8 x)) g f' := by
  unfold Row
  rw [heap_setCell_same w g k _ 122 _ h, ← hx]
  match k, hk with
  | 0, _ => rw [ho 1 (by decide), ho 2 (by decide), ho 3 (by decide), ho 4 (by decide), ho 5 (by decide), ho 6 (by decide), ho 7 (by decide)]; rfl
  | 1, _ => rw [ho 0 (by decide), ho 2 (by decide), ho 3 (by decide), ho 4 (by decide), ho 5 (by decide), ho 6 (by decide), ho 7 (by decide)]; rfl
  | 2, _ => rw [ho 1 (by decide), ho 0 (by decide), ho 3 (by decide), ho 4 (by decide), ho 5 (by decide), ho 6 (by decide), ho 7 (by decide)]; rfl
  | 3, _ => rw [ho 1 (by decide), ho 2 (by decide), ho 0 (by decide), ho 4 (by decide), ho 5 (by decide), ho 6 (by decide), ho 7 (by decide)]; rfl
  | 4, _ => rw [ho 1 (by decide), ho 2 (by decide), ho 3 (by decide), ho 0 (by decide), ho 5 (by decide), ho 6 (by decide), ho 7 (by decide)]; rfl
  | 5, _ => rw [ho 1 (by decide), ho 2 (by decide), ho 3 (by decide), ho 4 (by decide), ho 0 (by decide), ho 6 (by decide), ho 7 (by decide)]; rfl
  | 6, _ => rw [ho 1 (by decide), ho 2 (by decide), ho 3 (by decide), ho 4 (by decide), ho 5 (by decide), ho 0 (by decide), ho 7 (by decide)]; rfl
  | 7, _ => rw [ho 1 (by decide), ho 2 (by decide), ho 3 (by decide), ho 4 (by decide), ho 5 (by decide), ho 6 (by decide), ho 0 (by decide)]; rfl

/-- The squares, the first k of them written. -/
def sqTo (a : Int) (k : Nat) (j : Nat) : Int := if j < k then Gf.sqkI j a else 0
theorem sqTo_here (a : Int) (k : Nat) : sqTo a (k + 1) k = Gf.sqkI k a := by
  unfold sqTo
  rw [if_pos (by omega)]
theorem sqTo_else (a : Int) (k j : Nat) (h : j ≠ k) : sqTo a (k + 1) j = sqTo a k j := by
  unfold sqTo
  by_cases hj : j < k
  · rw [if_pos (by omega), if_pos hj]
  · rw [if_neg (by omega), if_neg hj]
theorem row_two (w : World) (a : Int) :
    Row ((w.alloc (.cells #[.int .u8 0, .int .u8 0, .int .u8 0, .int .u8 0, .int .u8 0, .int .u8 0, .int .u8 0, .int .u8 0] 122)).alloc (.cells #[.int .u8 0, .int .u8 0, .int .u8 0, .int .u8 0, .int .u8 0, .int .u8 0, .int .u8 0, .int .u8 0] 122)) w.heap.size (fun _ => 0) ∧
    Row ((w.alloc (.cells #[.int .u8 0, .int .u8 0, .int .u8 0, .int .u8 0, .int .u8 0, .int .u8 0, .int .u8 0, .int .u8 0] 122)).alloc (.cells #[.int .u8 0, .int .u8 0, .int .u8 0, .int .u8 0, .int .u8 0, .int .u8 0, .int .u8 0, .int .u8 0] 122)) (w.heap.size + 1) (sqTo a 0) :=
  ⟨heap_alloc2_old w _ _, heap_alloc2_new w _ _⟩

set_option maxHeartbeats 1000000 in
theorem sq_any (a : Int) (w : World) (h0 : 0 ≤ a) (h1 : a ≤ 255) :
    Calls Try.prog 109 #[.int .u8 a] w fun e w' => e = .returned (.agg #[.int .u8 (Gf.sqkI 0 a), .int .u8 (Gf.sqkI 1 a), .int .u8 (Gf.sqkI 2 a), .int .u8 (Gf.sqkI 3 a), .int .u8 (Gf.sqkI 4 a), .int .u8 (Gf.sqkI 5 a), .int .u8 (Gf.sqkI 6 a), .int .u8 (Gf.sqkI 7 a)]) ∧ Below w.heap.size w w' := by
  go_enter Try.func109, Try.ntmps109
  go_wp2
  go_loopw [0, 5] (fun x i wr => ∃ k : Nat, k ≤ 8 ∧ i = .int .i64 k ∧ x = .int .u8 (Gf.sqkI k a) ∧ Row wr w.heap.size (fun _ => 0) ∧ Row wr (w.heap.size + 1) (sqTo a k) ∧ Below w.heap.size w wr) (fun _ i _ => 8 - (intOf i).toNat)
  case atStart => exact ⟨0, Nat.zero_le _, rfl, val_int (Gf.sqkI_zero a h0).symm, (row_two w a).1, (row_two w a).2, ((Below.refl _ _).alloc (Nat.le_refl _) _).alloc (by simp) _⟩
  case round =>
    obtain ⟨k, hk, rfl, rfl, hr0, hr1, hb⟩ := hrel
    have hs := Gf.sqkI_bd k a h0 h1
    by_cases hlt : k < 8
    · have hc := hr1.cell k hlt
      have hf := hr1.frozen k
      go_wp2_with fail
      refine (mul_any _ _ _ hs.1 hs.2 hs.1 hs.2).mono ?_
      rintro e w1 ⟨rfl, hb1⟩
      go_wp2_with fail
      have hz0 := hr0.lt
      have hz1 := hr1.lt
      have q0 := (hr0.other ⟨w.heap.size + 1, k, none⟩ (.int .u8 (Gf.sqkI k a)) (by simp)).below hb1 (by simpa using hz0)
      have q1 := (hr1.put k hlt (Gf.sqkI k a) (sqTo_here a k) (sqTo_else a k)).below hb1 (by simpa using hz1)
      have qb := (hb.setCell (p := ⟨w.heap.size + 1, k, none⟩) (Nat.le_succ _) (.int .u8 (Gf.sqkI k a))).trans (hb1.mono (by simp; omega))
      exact ⟨⟨k + 1, by omega, by go_num, val_int (Gf.sqkI_succ k a).symm, q0, q1, qb⟩, by simp [intOf]; omega⟩
    · have e8 : k = 8 := by omega
      subst e8
      have c0 := hr1.cell 0 (by decide)
      have c1 := hr1.cell 1 (by decide)
      have c2 := hr1.cell 2 (by decide)
      have c3 := hr1.cell 3 (by decide)
      have c4 := hr1.cell 4 (by decide)
      have c5 := hr1.cell 5 (by decide)
      have c6 := hr1.cell 6 (by decide)
      have c7 := hr1.cell 7 (by decide)
      simp only [sqTo, Nat.reduceLT, if_true] at c0 c1 c2 c3 c4 c5 c6 c7
      have d0 := hr0.cell 0 (by decide)
      have d1 := hr0.cell 1 (by decide)
      have d2 := hr0.cell 2 (by decide)
      have d3 := hr0.cell 3 (by decide)
      have d4 := hr0.cell 4 (by decide)
      have d5 := hr0.cell 5 (by decide)
      have d6 := hr0.cell 6 (by decide)
      have d7 := hr0.cell 7 (by decide)
      have f0 := hr0.frozen
      clear hr0 hr1
      go_wp2
      exact bodyPost_ret (v := .agg #[.int .u8 (Gf.sqkI 0 a), .int .u8 (Gf.sqkI 1 a), .int .u8 (Gf.sqkI 2 a), .int .u8 (Gf.sqkI 3 a), .int .u8 (Gf.sqkI 4 a), .int .u8 (Gf.sqkI 5 a), .int .u8 (Gf.sqkI 6 a), .int .u8 (Gf.sqkI 7 a)]) (by simp [results, Try.results109, go_sem, d0, d1, d2, d3, d4, d5, d6, d7]) rfl
        ⟨rfl, (((((((hb.setCell (Nat.le_refl _) _).setCell (Nat.le_refl _) _).setCell (Nat.le_refl _) _).setCell (Nat.le_refl _) _).setCell (Nat.le_refl _) _).setCell (Nat.le_refl _) _).setCell (Nat.le_refl _) _).setCell (Nat.le_refl _) _⟩

theorem i64_and (a b : Int) (h1 : 0 ≤ a) (h2 : a < 9223372036854775808) (h3 : 0 ≤ b) (h4 : b < 9223372036854775808) : bits .and .i64 a b = ((a.toNat &&& b.toNat : Nat) : Int) := by
  obtain ⟨A, rfl⟩ := Int.eq_ofNat_of_zero_le h1
  obtain ⟨B, rfl⟩ := Int.eq_ofNat_of_zero_le h3
  have hx : A &&& B < 2 ^ 63 := Nat.and_lt_two_pow _ (by omega)
  show IntKind.i64.wrap ((BitVec.ofInt 64 (A : Int) &&& BitVec.ofInt 64 (B : Int)).toNat : Int) = _
  rw [BitVec.toNat_and, ofInt_u64 A (by omega), ofInt_u64 B (by omega), IntKind.wrap_i64, Int.toNat_natCast, Int.toNat_natCast]
  omega
theorem bit_i64 (b : Int) (k : Nat) (g0 : 0 ≤ b) (g1 : b ≤ 255) : (bits .and .i64 (b / 2 ^ k) 1 == 1) = decide (b.toNat / 2 ^ k % 2 = 1) := by
  have hd := div_bd b k g0
  rw [i64_and _ _ hd.1 (by omega) (by decide) (by decide), bit_nat b k g0, show (1 : Int).toNat = 1 from rfl, nat_mask1]
  generalize b.toNat / 2 ^ k % 2 = m
  rw [Bool.eq_iff_iff, beq_iff_eq, decide_eq_true_iff]
  omega

theorem row_new (w : World) (f : Nat → Int) :
    Row (w.alloc (.cells #[.int .u8 (f 0), .int .u8 (f 1), .int .u8 (f 2), .int .u8 (f 3), .int .u8 (f 4), .int .u8 (f 5), .int .u8 (f 6), .int .u8 (f 7)] 122)) w.heap.size f :=
  heap_alloc_new w _

set_option maxHeartbeats 1000000 in
theorem raise_any (a n : Int) (w : World) (h0 : 0 ≤ a) (h1 : a ≤ 255) (g0 : 0 ≤ n) (g1 : n ≤ 255) :
    Calls Try.prog 107 #[.int .u8 a, .int .i64 n] w fun e w' => e = .returned (.int .u8 (Gf.raiseI a n)) ∧ Below w.heap.size w w' := by
  go_enter Try.func107, Try.ntmps107
  go_wp2_with fail
  refine (sq_any a _ h0 h1).mono ?_
  rintro e w1 ⟨rfl, hb⟩
  go_wp2_with fail
  go_loopw [6, 10] (fun s i wr => ∃ k : Nat, k ≤ 8 ∧ i = .int .i64 k ∧ s = .int .u8 (Gf.raiseToI a n k) ∧ Row wr w1.heap.size (fun j => Gf.sqkI j a) ∧ Below w.heap.size w wr) (fun _ i _ => 8 - (intOf i).toNat)
  case atStart => exact ⟨0, Nat.zero_le _, rfl, rfl, row_new w1 (fun j => Gf.sqkI j a), hb.alloc hb.size _⟩
  case round =>
    obtain ⟨k, hk, rfl, rfl, hr, hbr⟩ := hrel
    have hs := Gf.sqkI_bd k a h0 h1
    have hp := Gf.raiseToI_bd a n k
    by_cases hlt : k < 8
    · have hc := hr.cell k hlt
      have hl := hr.lt
      by_cases hbit : (bits BinOp.and IntKind.i64 (n / 2 ^ k) 1 == 1) = true
      · have hy : n.toNat / 2 ^ k % 2 = 1 := by
          rw [bit_i64 n k g0 g1] at hbit
          exact of_decide_eq_true hbit
        have HY : Hid (n.toNat / 2 ^ k % 2 = 1) := hy
        clear hy
        go_wp2_with fail
        refine (mul_any _ _ _ hp.1 hp.2 hs.1 hs.2).mono ?_
        rintro e w2 ⟨rfl, hb2⟩
        go_wp2_with fail
        exact ⟨⟨k + 1, by omega, by go_num, val_int (Gf.raiseToI_yes a n k HY.out).symm, hr.below hb2 hl, hbr.trans (hb2.mono hbr.size)⟩, by simp [intOf]; omega⟩
      · have hbit' : (bits BinOp.and IntKind.i64 (n / 2 ^ k) 1 == 1) = false := by simpa using hbit
        have hy : ¬ n.toNat / 2 ^ k % 2 = 1 := by
          rw [bit_i64 n k g0 g1] at hbit'
          exact of_decide_eq_false hbit'
        have HY : Hid (¬ n.toNat / 2 ^ k % 2 = 1) := hy
        clear hy hbit
        go_wp2_with fail
        exact ⟨⟨k + 1, by omega, by go_num, val_int (Gf.raiseToI_no a n k HY.out).symm, hr, hbr⟩, by simp [intOf]; omega⟩
    · have e8 : k = 8 := by omega
      subst e8
      go_wp2
      go_ret
      exact ⟨rfl, hbr⟩

end Go.Proofs.Ytmlboaejkmffjad
