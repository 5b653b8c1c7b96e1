/-
  Texts of the proof, joined: Mul, Sq, Inv, Alg.
-/
import Derived.Test.YtldjieplbeflfaaGreatZ04
import Derived.WalkKit
import Derived.WalkSpells
import Derived.WalkLawsBesides
import Derived.Laws.BitsAllLaws
namespace Go.Proofs.YtldjieplbeflfaaGreat
open Go.RowKit


/-- A bit of a number, as the walk asks for it. -/
theorem bit_nat (n : Int) (k : Nat) (h0 : 0 ≤ n) : (n / 2 ^ k).toNat = n.toNat / 2 ^ k := by
  obtain ⟨m, rfl⟩ := Int.eq_ofNat_of_zero_le h0
  have e : ((2 : Int) ^ k) = ((2 ^ k : Nat) : Int) := by simp
  rw [e, ← Int.natCast_ediv, Int.toNat_natCast, Int.toNat_natCast]
theorem div_bd (n : Int) (k : Nat) (h0 : 0 ≤ n) : 0 ≤ n / 2 ^ k ∧ n / 2 ^ k ≤ n :=
  ⟨Int.ediv_nonneg h0 (Int.pow_nonneg (by decide)), Int.ediv_le_self _ h0⟩
theorem bit_u8 (b : Int) (k : Nat) (g0 : 0 ≤ b) (g1 : b ≤ 255) : (bits .and .u8 (b / 2 ^ k) 1 == 1) = decide (b.toNat / 2 ^ k % 2 = 1) := by
  have hd := div_bd b k g0
  rw [u8_and _ _ hd.1 (by omega) (by decide) (by decide), bit_nat b k g0, show (1 : Int).toNat = 1 from rfl, nat_mask1]
  generalize b.toNat / 2 ^ k % 2 = m
  rw [Bool.eq_iff_iff, beq_iff_eq, decide_eq_true_iff]
  omega

set_option maxHeartbeats 400000 in
theorem tx_any (a : Int) (w : World) (h0 : 0 ≤ a) (h1 : a ≤ 255) :
    Calls Tryz.prog 155 #[.int .u8 a] w fun e w' => e = .returned (.int .u8 (Gf.txI a)) ∧ w' = w := by
  go_enter Tryz.func155, Tryz.ntmps155
  go_wp2
  · have hz : (a / 128 == 0) = true := by assumption
    go_ret
    refine ⟨ret_int (?_ : a * 2 % 256 = _), rfl⟩
    have hz' : a / 128 = 0 := by simpa using hz
    unfold Gf.txI Gf.tx
    rw [if_pos (by omega)]
    omega
  · have hz : (a / 128 == 0) = false := by assumption
    go_ret
    refine ⟨ret_int (?_ : bits BinOp.xor IntKind.u8 (a * 2 % 256) 29 = _), rfl⟩
    have hz' : ¬ a / 128 = 0 := by simpa using hz
    rw [u8_xor _ _ (by omega) (by omega) (by omega) (by omega)]
    unfold Gf.txI Gf.tx
    rw [if_neg (by omega), show (a * 2 % 256).toNat = a.toNat * 2 % 256 by omega]
    rfl

set_option maxHeartbeats 1000000 in
theorem pows_any (a : Int) (w : World) (h0 : 0 ≤ a) (h1 : a ≤ 255) :
    Calls Tryz.prog 149 #[.int .u8 a] w fun e w' => e = .returned (.agg #[.int .u8 a, .int .u8 (Gf.txI a), .int .u8 (Gf.txI (Gf.txI a)), .int .u8 (Gf.txI (Gf.txI (Gf.txI a))), .int .u8 (Gf.txI (Gf.txI (Gf.txI (Gf.txI a)))), .int .u8 (Gf.txI (Gf.txI (Gf.txI (Gf.txI (Gf.txI a))))), .int .u8 (Gf.txI (Gf.txI (Gf.txI (Gf.txI (Gf.txI (Gf.txI a)))))), .int .u8 (Gf.txI (Gf.txI (Gf.txI (Gf.txI (Gf.txI (Gf.txI (Gf.txI a)))))))]) ∧ Below w.heap.size w w' := by
  go_enter Tryz.func149, Tryz.ntmps149
  go_wp2
  refine wp_loop_rounds 9 ?_
  iterate 8
    rw [rounds_succ]
    go_wp2_with fail
    refine (tx_any _ _ ?_ ?_).mono ?_
    · first | assumption | exact (Gf.txI_bd _).1
    · first | assumption | exact (Gf.txI_bd _).2
    rintro e w' ⟨rfl, rfl⟩
    go_wp2_with fail
  rw [rounds_succ]
  go_wp2_with fail
  exact bodyPost_ret (v := .agg #[.int .u8 a, .int .u8 (Gf.txI a), .int .u8 (Gf.txI (Gf.txI a)), .int .u8 (Gf.txI (Gf.txI (Gf.txI a))), .int .u8 (Gf.txI (Gf.txI (Gf.txI (Gf.txI a)))), .int .u8 (Gf.txI (Gf.txI (Gf.txI (Gf.txI (Gf.txI a))))), .int .u8 (Gf.txI (Gf.txI (Gf.txI (Gf.txI (Gf.txI (Gf.txI a)))))), .int .u8 (Gf.txI (Gf.txI (Gf.txI (Gf.txI (Gf.txI (Gf.txI (Gf.txI a)))))))]) (by simp [results, Tryz.results149, go_sem]) rfl ⟨rfl, ((Below.refl _ _).alloc (Nat.le_refl _) _).alloc (by simp) _⟩

theorem pow_cell (a : Int) (w : World) (h0 : 0 ≤ a) (k : Nat) (hk : k < 8) :
    (w.alloc (.cells #[.int .u8 a, .int .u8 (Gf.txI a), .int .u8 (Gf.txI (Gf.txI a)), .int .u8 (Gf.txI (Gf.txI (Gf.txI a))), .int .u8 (Gf.txI (Gf.txI (Gf.txI (Gf.txI a)))), .int .u8 (Gf.txI (Gf.txI (Gf.txI (Gf.txI (Gf.txI a))))), .int .u8 (Gf.txI (Gf.txI (Gf.txI (Gf.txI (Gf.txI (Gf.txI a)))))), .int .u8 (Gf.txI (Gf.txI (Gf.txI (Gf.txI (Gf.txI (Gf.txI (Gf.txI a)))))))] 210)).cell? ⟨w.heap.size, k, none⟩ = some (.int .u8 (Gf.txkI k a)) := by
  rw [cell_of_row _ _ k _ 210 (0, 0) (heap_alloc_new w _)]
  match k, hk with
  | 0, _ => simp [Gf.txkI_zero a h0]
  | 1, _ => simp [Gf.txkI_succ, Gf.txkI_zero a h0]
  | 2, _ => simp [Gf.txkI_succ, Gf.txkI_zero a h0]
  | 3, _ => simp [Gf.txkI_succ, Gf.txkI_zero a h0]
  | 4, _ => simp [Gf.txkI_succ, Gf.txkI_zero a h0]
  | 5, _ => simp [Gf.txkI_succ, Gf.txkI_zero a h0]
  | 6, _ => simp [Gf.txkI_succ, Gf.txkI_zero a h0]
  | 7, _ => simp [Gf.txkI_succ, Gf.txkI_zero a h0]

theorem mulTo_yes (a b : Int) (k : Nat) (h0 : 0 ≤ a) (h1 : a ≤ 255) (g0 : 0 ≤ b) (g1 : b ≤ 255) (h : (bits .and .u8 (b / 2 ^ k) 1 == 1) = true) :
    bits .xor .u8 (Gf.mulToI a b k) (Gf.txkI k a) = Gf.mulToI a b (k + 1) := by
  rw [bit_u8 b k g0 g1] at h
  have m := Gf.mulToI_bd a b k h0 h1
  have t := Gf.txkI_bd k a h0 h1
  rw [u8_xor _ _ m.1 (by omega) t.1 (by omega), Gf.mulToI_yes a b k (of_decide_eq_true h)]
theorem mulTo_no (a b : Int) (k : Nat) (g0 : 0 ≤ b) (g1 : b ≤ 255) (h : (bits .and .u8 (b / 2 ^ k) 1 == 1) = false) :
    Gf.mulToI a b k = Gf.mulToI a b (k + 1) := by
  rw [bit_u8 b k g0 g1] at h
  rw [Gf.mulToI_no a b k (of_decide_eq_false h)]

set_option maxHeartbeats 1000000 in
theorem mul_any (a b : Int) (w : World) (h0 : 0 ≤ a) (h1 : a ≤ 255) (g0 : 0 ≤ b) (g1 : b ≤ 255) :
    Calls Tryz.prog 135 #[.int .u8 a, .int .u8 b] w fun e w' => e = .returned (.int .u8 (Gf.mulI a b)) ∧ Below w.heap.size w w' := by
  go_enter Tryz.func135, Tryz.ntmps135
  go_wp2_with fail
  refine (pows_any a _ h0 h1).mono ?_
  rintro e w1 ⟨rfl, hb⟩
  go_wp2_with fail
  have hcell := pow_cell a w1 h0
  go_loop [6, 10] (fun s i => ∃ k : Nat, k ≤ 8 ∧ i = .int .i64 k ∧ s = .int .u8 (Gf.mulToI a b k)) (fun _ i => 8 - (intOf i).toNat)
  case atStart => exact ⟨0, Nat.zero_le _, rfl, rfl⟩
  case round =>
    obtain ⟨k, hk, rfl, rfl⟩ := hrel
    by_cases hlt : k < 8
    · have hc := hcell k hlt
      clear hcell
      go_wp2
      · have hy : (bits BinOp.and IntKind.u8 (b / 2 ^ k) 1 == 1) = true := by assumption
        exact ⟨⟨k + 1, by omega, by go_num, val_int (mulTo_yes a b k h0 h1 g0 g1 hy)⟩, by simp [intOf]; omega⟩
      · have hy : (bits BinOp.and IntKind.u8 (b / 2 ^ k) 1 == 1) = false := by assumption
        exact ⟨⟨k + 1, by omega, by go_num, val_int (mulTo_no a b k g0 g1 hy)⟩, by simp [intOf]; omega⟩
    · clear hcell
      have e8 : k = 8 := by omega
      subst e8
      go_wp2
      go_ret
      exact ⟨rfl, hb.alloc hb.size _⟩

end Go.Proofs.YtldjieplbeflfaaGreat

namespace Go.Proofs.YtldjieplbeflfaaGreat
open Go.RowKit

/-- Block g of the world holds the row of eight bytes f 0 .. f 7. -/
def Row (w : World) (g : Nat) (f : Nat → Int) : Prop :=
  w.heap[g]? = some (.cells #[.int .u8 (f 0), .int .u8 (f 1), .int .u8 (f 2), .int .u8 (f 3), .int .u8 (f 4), .int .u8 (f 5), .int .u8 (f 6), .int .u8 (f 7)] 210)

theorem Row.cell {w : World} {g : Nat} {f : Nat → Int} (h : Row w g f) (k : Nat) (hk : k < 8) : w.cell? ⟨g, k, none⟩ = some (.int .u8 (f k)) := by
  rw [cell_of_row _ _ k _ 210 (0, 0) h]
  match k, hk with
  | 0, _ => rfl
  | 1, _ => rfl
  | 2, _ => rfl
  | 3, _ => rfl
  | 4, _ => rfl
  | 5, _ => rfl
  | 6, _ => rfl
  | 7, _ => rfl
theorem Row.frozen {w : World} {g : Nat} {f : Nat → Int} (h : Row w g f) (k : Nat) : w.frozen? ⟨g, k, none⟩ = false := frozen_of_row w g k _ 210 h
theorem Row.lt {w : World} {g : Nat} {f : Nat → Int} (h : Row w g f) : g < w.heap.size := by
  unfold Row at h
  exact (Array.getElem?_eq_some_iff.1 h).1
theorem Row.below {w w' : World} {B g : Nat} {f : Nat → Int} (h : Row w g f) (hb : Below B w w') (hg : g < B) : Row w' g f := by
  unfold Row
  rw [hb.block g hg]
  exact h
theorem Row.other {w : World} {g : Nat} {f : Nat → Int} (h : Row w g f) (a : Addr) (v : Value) (hg : g ≠ a.block) : Row (w.setCell a v) g f := by
  unfold Row
  rw [heap_setCell_other w a g v hg]
  exact h
theorem Row.put {w : World} {g : Nat} {f f' : Nat → Int} (h : Row w g f) (k : Nat) (hk : k < 8) (x : Int) (hx : f' k = x) (ho : ∀ j, j ≠ k → f' j = f j) : Row (w.setCell ⟨g, k, none⟩ (.int .u8 x)) g f' := by
  unfold Row
  rw [heap_setCell_same w g k _ 210 _ h, ← hx]
  match k, hk with
  | 0, _ => rw [ho 1 (by decide), ho 2 (by decide), ho 3 (by decide), ho 4 (by decide), ho 5 (by decide), ho 6 (by decide), ho 7 (by decide)]; rfl
  | 1, _ => rw [ho 0 (by decide), ho 2 (by decide), ho 3 (by decide), ho 4 (by decide), ho 5 (by decide), ho 6 (by decide), ho 7 (by decide)]; rfl
  | 2, _ => rw [ho 1 (by decide), ho 0 (by decide), ho 3 (by decide), ho 4 (by decide), ho 5 (by decide), ho 6 (by decide), ho 7 (by decide)]; rfl
  | 3, _ => rw [ho 1 (by decide), ho 2 (by decide), ho 0 (by decide), ho 4 (by decide), ho 5 (by decide), ho 6 (by decide), ho 7 (by decide)]; rfl
  | 4, _ => rw [ho 1 (by decide), ho 2 (by decide), ho 3 (by decide), ho 0 (by decide), ho 5 (by decide), ho 6 (by decide), ho 7 (by decide)]; rfl
  | 5, _ => rw [ho 1 (by decide), ho 2 (by decide), ho 3 (by decide), ho 4 (by decide), ho 0 (by decide), ho 6 (by decide), ho 7 (by decide)]; rfl
  | 6, _ => rw [ho 1 (by decide), ho 2 (by decide), ho 3 (by decide), ho 4 (by decide), ho 5 (by decide), ho 0 (by decide), ho 7 (by decide)]; rfl
  | 7, _ => rw [ho 1 (by decide), ho 2 (by decide), ho 3 (by decide), ho 4 (by decide), ho 5 (by decide), ho 6 (by decide), ho 0 (by decide)]; rfl

/-- The squares, the first k of them written. -/
def sqTo (a : Int) (k : Nat) (j : Nat) : Int := if j < k then Gf.sqkI j a else 0
theorem sqTo_here (a : Int) (k : Nat) : sqTo a (k + 1) k = Gf.sqkI k a := by
  unfold sqTo
  rw [if_pos (by omega)]
theorem sqTo_else (a : Int) (k j : Nat) (h : j ≠ k) : sqTo a (k + 1) j = sqTo a k j := by
  unfold sqTo
  by_cases hj : j < k
  · rw [if_pos (by omega), if_pos hj]
  · rw [if_neg (by omega), if_neg hj]
theorem row_two (w : World) (a : Int) :
    Row ((w.alloc (.cells #[.int .u8 0, .int .u8 0, .int .u8 0, .int .u8 0, .int .u8 0, .int .u8 0, .int .u8 0, .int .u8 0] 210)).alloc (.cells #[.int .u8 0, .int .u8 0, .int .u8 0, .int .u8 0, .int .u8 0, .int .u8 0, .int .u8 0, .int .u8 0] 210)) w.heap.size (fun _ => 0) ∧
    Row ((w.alloc (.cells #[.int .u8 0, .int .u8 0, .int .u8 0, .int .u8 0, .int .u8 0, .int .u8 0, .int .u8 0, .int .u8 0] 210)).alloc (.cells #[.int .u8 0, .int .u8 0, .int .u8 0, .int .u8 0, .int .u8 0, .int .u8 0, .int .u8 0, .int .u8 0] 210)) (w.heap.size + 1) (sqTo a 0) :=
  ⟨heap_alloc2_old w _ _, heap_alloc2_new w _ _⟩

set_option maxHeartbeats 1000000 in
theorem sq_any (a : Int) (w : World) (h0 : 0 ≤ a) (h1 : a ≤ 255) :
    Calls Tryz.prog 156 #[.int .u8 a] w fun e w' => e = .returned (.agg #[.int .u8 (Gf.sqkI 0 a), .int .u8 (Gf.sqkI 1 a), .int .u8 (Gf.sqkI 2 a), .int .u8 (Gf.sqkI 3 a), .int .u8 (Gf.sqkI 4 a), .int .u8 (Gf.sqkI 5 a), .int .u8 (Gf.sqkI 6 a), .int .u8 (Gf.sqkI 7 a)]) ∧ Below w.heap.size w w' := by
  go_enter Tryz.func156, Tryz.ntmps156
  go_wp2
  go_loopw [0, 5] (fun x i wr => ∃ k : Nat, k ≤ 8 ∧ i = .int .i64 k ∧ x = .int .u8 (Gf.sqkI k a) ∧ Row wr w.heap.size (fun _ => 0) ∧ Row wr (w.heap.size + 1) (sqTo a k) ∧ Below w.heap.size w wr) (fun _ i _ => 8 - (intOf i).toNat)
  case atStart => exact ⟨0, Nat.zero_le _, rfl, val_int (Gf.sqkI_zero a h0).symm, (row_two w a).1, (row_two w a).2, ((Below.refl _ _).alloc (Nat.le_refl _) _).alloc (by simp) _⟩
  case round =>
    obtain ⟨k, hk, rfl, rfl, hr0, hr1, hb⟩ := hrel
    have hs := Gf.sqkI_bd k a h0 h1
    by_cases hlt : k < 8
    · have hc := hr1.cell k hlt
      have hf := hr1.frozen k
      go_wp2_with fail
      refine (mul_any _ _ _ hs.1 hs.2 hs.1 hs.2).mono ?_
      rintro e w1 ⟨rfl, hb1⟩
      go_wp2_with fail
      have hz0 := hr0.lt
      have hz1 := hr1.lt
      have q0 := (hr0.other ⟨w.heap.size + 1, k, none⟩ (.int .u8 (Gf.sqkI k a)) (by simp)).below hb1 (by simpa using hz0)
      have q1 := (hr1.put k hlt (Gf.sqkI k a) (sqTo_here a k) (sqTo_else a k)).below hb1 (by simpa using hz1)
      have qb := (hb.setCell (p := ⟨w.heap.size + 1, k, none⟩) (Nat.le_succ _) (.int .u8 (Gf.sqkI k a))).trans (hb1.mono (by simp; omega))
      exact ⟨⟨k + 1, by omega, by go_num, val_int (Gf.sqkI_succ k a).symm, q0, q1, qb⟩, by simp [intOf]; omega⟩
    · have e8 : k = 8 := by omega
      subst e8
      have c0 := hr1.cell 0 (by decide)
      have c1 := hr1.cell 1 (by decide)
      have c2 := hr1.cell 2 (by decide)
      have c3 := hr1.cell 3 (by decide)
      have c4 := hr1.cell 4 (by decide)
      have c5 := hr1.cell 5 (by decide)
      have c6 := hr1.cell 6 (by decide)
      have c7 := hr1.cell 7 (by decide)
      simp only [sqTo, Nat.reduceLT, if_true] at c0 c1 c2 c3 c4 c5 c6 c7
      have d0 := hr0.cell 0 (by decide)
      have d1 := hr0.cell 1 (by decide)
      have d2 := hr0.cell 2 (by decide)
      have d3 := hr0.cell 3 (by decide)
      have d4 := hr0.cell 4 (by decide)
      have d5 := hr0.cell 5 (by decide)
      have d6 := hr0.cell 6 (by decide)
      have d7 := hr0.cell 7 (by decide)
      have f0 := hr0.frozen
      clear hr0 hr1
      go_wp2
      exact bodyPost_ret (v := .agg #[.int .u8 (Gf.sqkI 0 a), .int .u8 (Gf.sqkI 1 a), .int .u8 (Gf.sqkI 2 a), .int .u8 (Gf.sqkI 3 a), .int .u8 (Gf.sqkI 4 a), .int .u8 (Gf.sqkI 5 a), .int .u8 (Gf.sqkI 6 a), .int .u8 (Gf.sqkI 7 a)]) (by simp [results, Tryz.results156, go_sem, d0, d1, d2, d3, d4, d5, d6, d7]) rfl
        ⟨rfl, (((((((hb.setCell (Nat.le_refl _) _).setCell (Nat.le_refl _) _).setCell (Nat.le_refl _) _).setCell (Nat.le_refl _) _).setCell (Nat.le_refl _) _).setCell (Nat.le_refl _) _).setCell (Nat.le_refl _) _).setCell (Nat.le_refl _) _⟩

theorem i64_and (a b : Int) (h1 : 0 ≤ a) (h2 : a < 9223372036854775808) (h3 : 0 ≤ b) (h4 : b < 9223372036854775808) : bits .and .i64 a b = ((a.toNat &&& b.toNat : Nat) : Int) := by
  obtain ⟨A, rfl⟩ := Int.eq_ofNat_of_zero_le h1
  obtain ⟨B, rfl⟩ := Int.eq_ofNat_of_zero_le h3
  have hx : A &&& B < 2 ^ 63 := Nat.and_lt_two_pow _ (by omega)
  show IntKind.i64.wrap ((BitVec.ofInt 64 (A : Int) &&& BitVec.ofInt 64 (B : Int)).toNat : Int) = _
  rw [BitVec.toNat_and, ofInt_u64 A (by omega), ofInt_u64 B (by omega), IntKind.wrap_i64, Int.toNat_natCast, Int.toNat_natCast]
  omega
theorem bit_i64 (b : Int) (k : Nat) (g0 : 0 ≤ b) (g1 : b ≤ 255) : (bits .and .i64 (b / 2 ^ k) 1 == 1) = decide (b.toNat / 2 ^ k % 2 = 1) := by
  have hd := div_bd b k g0
  rw [i64_and _ _ hd.1 (by omega) (by decide) (by decide), bit_nat b k g0, show (1 : Int).toNat = 1 from rfl, nat_mask1]
  generalize b.toNat / 2 ^ k % 2 = m
  rw [Bool.eq_iff_iff, beq_iff_eq, decide_eq_true_iff]
  omega

theorem row_new (w : World) (f : Nat → Int) :
    Row (w.alloc (.cells #[.int .u8 (f 0), .int .u8 (f 1), .int .u8 (f 2), .int .u8 (f 3), .int .u8 (f 4), .int .u8 (f 5), .int .u8 (f 6), .int .u8 (f 7)] 210)) w.heap.size f :=
  heap_alloc_new w _

set_option maxHeartbeats 1000000 in
theorem raise_any (a n : Int) (w : World) (h0 : 0 ≤ a) (h1 : a ≤ 255) (g0 : 0 ≤ n) (g1 : n ≤ 255) :
    Calls Tryz.prog 154 #[.int .u8 a, .int .i64 n] w fun e w' => e = .returned (.int .u8 (Gf.raiseI a n)) ∧ Below w.heap.size w w' := by
  go_enter Tryz.func154, Tryz.ntmps154
  go_wp2_with fail
  refine (sq_any a _ h0 h1).mono ?_
  rintro e w1 ⟨rfl, hb⟩
  go_wp2_with fail
  go_loopw [6, 10] (fun s i wr => ∃ k : Nat, k ≤ 8 ∧ i = .int .i64 k ∧ s = .int .u8 (Gf.raiseToI a n k) ∧ Row wr w1.heap.size (fun j => Gf.sqkI j a) ∧ Below w.heap.size w wr) (fun _ i _ => 8 - (intOf i).toNat)
  case atStart => exact ⟨0, Nat.zero_le _, rfl, rfl, row_new w1 (fun j => Gf.sqkI j a), hb.alloc hb.size _⟩
  case round =>
    obtain ⟨k, hk, rfl, rfl, hr, hbr⟩ := hrel
    have hs := Gf.sqkI_bd k a h0 h1
    have hp := Gf.raiseToI_bd a n k
    by_cases hlt : k < 8
    · have hc := hr.cell k hlt
      have hl := hr.lt
      by_cases hbit : (bits BinOp.and IntKind.i64 (n / 2 ^ k) 1 == 1) = true
      · have hy : n.toNat / 2 ^ k % 2 = 1 := by
          rw [bit_i64 n k g0 g1] at hbit
          exact of_decide_eq_true hbit
        have HY : Hid (n.toNat / 2 ^ k % 2 = 1) := hy
        clear hy
        go_wp2_with fail
        refine (mul_any _ _ _ hp.1 hp.2 hs.1 hs.2).mono ?_
        rintro e w2 ⟨rfl, hb2⟩
        go_wp2_with fail
        exact ⟨⟨k + 1, by omega, by go_num, val_int (Gf.raiseToI_yes a n k HY.out).symm, hr.below hb2 hl, hbr.trans (hb2.mono hbr.size)⟩, by simp [intOf]; omega⟩
      · have hbit' : (bits BinOp.and IntKind.i64 (n / 2 ^ k) 1 == 1) = false := by simpa using hbit
        have hy : ¬ n.toNat / 2 ^ k % 2 = 1 := by
          rw [bit_i64 n k g0 g1] at hbit'
          exact of_decide_eq_false hbit'
        have HY : Hid (¬ n.toNat / 2 ^ k % 2 = 1) := hy
        clear hy hbit
        go_wp2_with fail
        exact ⟨⟨k + 1, by omega, by go_num, val_int (Gf.raiseToI_no a n k HY.out).symm, hr, hbr⟩, by simp [intOf]; omega⟩
    · have e8 : k = 8 := by omega
      subst e8
      go_wp2
      go_ret
      exact ⟨rfl, hbr⟩

end Go.Proofs.YtldjieplbeflfaaGreat

namespace Go.Proofs.YtldjieplbeflfaaGreat
open Go.RowKit

set_option maxHeartbeats 400000 in
theorem inv_any (a : Int) (w : World) (h0 : 0 ≤ a) (h1 : a ≤ 255) :
    Calls Tryz.prog 147 #[.int .u8 a] w fun e w' => e = .returned (.int .u8 (Gf.raiseI a 254)) ∧ Below w.heap.size w w' := by
  go_enter Tryz.func147, Tryz.ntmps147
  go_wp2_with fail
  refine (raise_any _ _ _ h0 h1 (by decide) (by decide)).mono ?_
  rintro e w1 ⟨rfl, hb⟩
  go_wp2_with fail
  go_ret
  exact ⟨rfl, hb⟩

end Go.Proofs.YtldjieplbeflfaaGreat

namespace Go.Proofs.YtldjieplbeflfaaGreat.Gf

def allB (n : Nat) (p : Nat → Bool) : Bool := (List.range n).all p
theorem allB_of {n : Nat} {p : Nat → Bool} (h : allB n p = true) (a : Nat) (ha : a < n) : p a = true := by
  unfold allB at h
  rw [List.all_eq_true] at h
  exact h a (List.mem_range.2 ha)

/-! ### Sums -/
theorem xor_lt {a b : Nat} (ha : a < 256) (hb : b < 256) : a ^^^ b < 256 := Nat.xor_lt_two_pow (n := 8) ha hb
theorem xor_swap (a b c d : Nat) : (a ^^^ b) ^^^ (c ^^^ d) = (a ^^^ c) ^^^ (b ^^^ d) := by
  rw [Nat.xor_assoc, Nat.xor_assoc, ← Nat.xor_assoc b c d, Nat.xor_comm b c, Nat.xor_assoc c b d]

theorem sel_xor (c k x y : Nat) : sel c k (x ^^^ y) = sel c k x ^^^ sel c k y := by
  unfold sel
  split
  · rfl
  · rw [Nat.xor_zero]
theorem sel_bits (b c k x : Nat) : sel (b ^^^ c) k x = sel b k x ^^^ sel c k x := by
  unfold sel
  have e : ∀ n : Nat, (n / 2 ^ k % 2 = 1) ↔ n.testBit k = true := fun n => by
    rw [Nat.testBit_eq_decide_div_mod_eq, decide_eq_true_iff]
  simp only [e, Nat.testBit_xor]
  cases b.testBit k <;> cases c.testBit k <;> simp

/-! ### x times a sum -/
theorem tx_eq (a : Nat) : tx a = (a * 2 % 256) ^^^ (if a / 128 = 0 then 0 else 29) := by
  unfold tx
  split
  · rw [Nat.xor_zero]
  · rfl
theorem tx_xor {a b : Nat} (ha : a < 256) (hb : b < 256) : tx (a ^^^ b) = tx a ^^^ tx b := by
  have e1 : (a ^^^ b) * 2 % 256 = (a * 2 % 256) ^^^ (b * 2 % 256) := by
    have h := Nat.shiftLeft_xor_distrib (i := 1) (a := a) (b := b)
    rw [Nat.shiftLeft_eq, Nat.shiftLeft_eq, Nat.shiftLeft_eq] at h
    rw [show (a ^^^ b) * 2 = (a ^^^ b) * 2 ^ 1 from rfl, h]
    exact Nat.xor_mod_two_pow (n := 8)
  have e2 : (a ^^^ b) / 128 = (a / 128) ^^^ (b / 128) := by
    have h := Nat.shiftRight_xor_distrib (i := 7) (a := a) (b := b)
    rw [Nat.shiftRight_eq_div_pow, Nat.shiftRight_eq_div_pow, Nat.shiftRight_eq_div_pow] at h
    exact h
  have da : a / 128 = 0 ∨ a / 128 = 1 := by omega
  have db : b / 128 = 0 ∨ b / 128 = 1 := by omega
  rw [tx_eq, tx_eq a, tx_eq b, e1, e2, xor_swap]
  rcases da with da | da <;> rcases db with db | db <;> rw [da, db] <;> rfl
theorem txk_xor {a b : Nat} (ha : a < 256) (hb : b < 256) : (k : Nat) → txk k (a ^^^ b) = txk k a ^^^ txk k b
  | 0 => rfl
  | k + 1 => by
    show tx (txk k (a ^^^ b)) = tx (txk k a) ^^^ tx (txk k b)
    rw [txk_xor ha hb k, tx_xor (txk_lt ha k) (txk_lt hb k)]

/-! ### Products of sums -/
theorem mulTo_xor_left {a b : Nat} (c : Nat) (ha : a < 256) (hb : b < 256) : (k : Nat) → mulTo (a ^^^ b) c k = mulTo a c k ^^^ mulTo b c k
  | 0 => (Nat.xor_self 0).symm
  | k + 1 => by
    show mulTo (a ^^^ b) c k ^^^ sel c k (txk k (a ^^^ b)) = (mulTo a c k ^^^ sel c k (txk k a)) ^^^ (mulTo b c k ^^^ sel c k (txk k b))
    rw [mulTo_xor_left c ha hb k, txk_xor ha hb k, sel_xor, xor_swap]
theorem mul_xor_left {a b : Nat} (c : Nat) (ha : a < 256) (hb : b < 256) : mul (a ^^^ b) c = mul a c ^^^ mul b c := mulTo_xor_left c ha hb 8
theorem mulTo_xor_right (a b c : Nat) : (k : Nat) → mulTo a (b ^^^ c) k = mulTo a b k ^^^ mulTo a c k
  | 0 => (Nat.xor_self 0).symm
  | k + 1 => by
    show mulTo a (b ^^^ c) k ^^^ sel (b ^^^ c) k (txk k a) = (mulTo a b k ^^^ sel b k (txk k a)) ^^^ (mulTo a c k ^^^ sel c k (txk k a))
    rw [mulTo_xor_right a b c k, sel_bits, xor_swap]
theorem mul_xor_right (a b c : Nat) : mul a (b ^^^ c) = mul a b ^^^ mul a c := mulTo_xor_right a b c 8

theorem mul_zero_right (a : Nat) : mul a 0 = 0 := by
  have h := mul_xor_right a 0 0
  rw [Nat.xor_self, Nat.xor_self] at h
  exact h
theorem mul_zero_left (c : Nat) : mul 0 c = 0 := by
  have h := mul_xor_left (a := 0) (b := 0) c (by decide) (by decide)
  rw [Nat.xor_self, Nat.xor_self] at h
  exact h
theorem tx_zero : tx 0 = 0 := rfl

/-! ### What is the same at the powers of x, and turns sums into sums, is the same -/
def dec (b : Nat) : Nat := sel b 0 1 ^^^ (sel b 1 2 ^^^ (sel b 2 4 ^^^ (sel b 3 8 ^^^ (sel b 4 16 ^^^ (sel b 5 32 ^^^ (sel b 6 64 ^^^ sel b 7 128))))))
theorem dec_chk : (allB 256 fun b => dec b == b) = true := by decide +kernel
theorem dec_eq {b : Nat} (hb : b < 256) : dec b = b := by simpa using allB_of dec_chk b hb

def Lin (f : Nat → Nat) : Prop := f 0 = 0 ∧ ∀ x y, x < 256 → y < 256 → f (x ^^^ y) = f x ^^^ f y
theorem Lin.sel {f : Nat → Nat} (h : Lin f) (b k x : Nat) : f (Gf.sel b k x) = Gf.sel b k (f x) := by
  unfold Gf.sel
  split
  · rfl
  · exact h.1
theorem Lin.dec {f : Nat → Nat} (h : Lin f) (b : Nat) :
    f (Gf.dec b) = Gf.sel b 0 (f 1) ^^^ (Gf.sel b 1 (f 2) ^^^ (Gf.sel b 2 (f 4) ^^^ (Gf.sel b 3 (f 8) ^^^ (Gf.sel b 4 (f 16) ^^^ (Gf.sel b 5 (f 32) ^^^ (Gf.sel b 6 (f 64) ^^^ Gf.sel b 7 (f 128))))))) := by
  have s : ∀ k x, x < 256 → Gf.sel b k x < 256 := fun k x hx => sel_lt b k hx
  have s7 := s 7 128 (by decide)
  have s6 := s 6 64 (by decide)
  have s5 := s 5 32 (by decide)
  have s4 := s 4 16 (by decide)
  have s3 := s 3 8 (by decide)
  have s2 := s 2 4 (by decide)
  have s1 := s 1 2 (by decide)
  have s0 := s 0 1 (by decide)
  have t6 := xor_lt s6 s7
  have t5 := xor_lt s5 t6
  have t4 := xor_lt s4 t5
  have t3 := xor_lt s3 t4
  have t2 := xor_lt s2 t3
  have t1 := xor_lt s1 t2
  unfold Gf.dec
  rw [h.2 _ _ s0 t1, h.2 _ _ s1 t2, h.2 _ _ s2 t3, h.2 _ _ s3 t4, h.2 _ _ s4 t5, h.2 _ _ s5 t6, h.2 _ _ s6 s7]
  rw [h.sel, h.sel, h.sel, h.sel, h.sel, h.sel, h.sel, h.sel]
theorem lin_ext {f g : Nat → Nat} (hf : Lin f) (hg : Lin g) (h0 : f 1 = g 1) (h1 : f 2 = g 2) (h2 : f 4 = g 4) (h3 : f 8 = g 8) (h4 : f 16 = g 16) (h5 : f 32 = g 32) (h6 : f 64 = g 64) (h7 : f 128 = g 128)
    {b : Nat} (hb : b < 256) : f b = g b := by
  rw [← dec_eq hb, hf.dec, hg.dec, h0, h1, h2, h3, h4, h5, h6, h7]

theorem lin_mulr (a : Nat) : Lin (fun b => mul a b) := ⟨mul_zero_right a, fun x y _ _ => mul_xor_right a x y⟩
theorem lin_mull (c : Nat) : Lin (fun b => mul b c) := ⟨mul_zero_left c, fun _ _ hx hy => mul_xor_left c hx hy⟩
theorem lin_mul_tx (a : Nat) : Lin (fun b => mul a (tx b)) :=
  ⟨by show mul a (tx 0) = 0; rw [tx_zero, mul_zero_right], fun x y hx hy => by show mul a (tx (x ^^^ y)) = _; rw [tx_xor hx hy, mul_xor_right]⟩
theorem lin_tx_mulr {a : Nat} (ha : a < 256) : Lin (fun b => tx (mul a b)) :=
  ⟨by show tx (mul a 0) = 0; rw [mul_zero_right, tx_zero], fun x y _ _ => by show tx (mul a (x ^^^ y)) = _; rw [mul_xor_right, tx_xor (mul_lt x ha) (mul_lt y ha)]⟩
theorem lin_tx_mull (c : Nat) : Lin (fun b => tx (mul b c)) :=
  ⟨by show tx (mul 0 c) = 0; rw [mul_zero_left, tx_zero], fun x y hx hy => by show tx (mul (x ^^^ y) c) = _; rw [mul_xor_left c hx hy, tx_xor (mul_lt c hx) (mul_lt c hy)]⟩

theorem comm_at {j : Nat} (h0 : mul 1 j = mul j 1) (h1 : mul 2 j = mul j 2) (h2 : mul 4 j = mul j 4) (h3 : mul 8 j = mul j 8) (h4 : mul 16 j = mul j 16) (h5 : mul 32 j = mul j 32) (h6 : mul 64 j = mul j 64) (h7 : mul 128 j = mul j 128)
    {a : Nat} (ha : a < 256) : mul a j = mul j a :=
  lin_ext (lin_mull j) (lin_mulr j) h0 h1 h2 h3 h4 h5 h6 h7 ha
theorem mul_comm {a b : Nat} (ha : a < 256) (hb : b < 256) : mul a b = mul b a :=
  lin_ext (lin_mulr a) (lin_mull a)
    (comm_at (by decide) (by decide) (by decide) (by decide) (by decide) (by decide) (by decide) (by decide) ha)
    (comm_at (by decide) (by decide) (by decide) (by decide) (by decide) (by decide) (by decide) (by decide) ha)
    (comm_at (by decide) (by decide) (by decide) (by decide) (by decide) (by decide) (by decide) (by decide) ha)
    (comm_at (by decide) (by decide) (by decide) (by decide) (by decide) (by decide) (by decide) (by decide) ha)
    (comm_at (by decide) (by decide) (by decide) (by decide) (by decide) (by decide) (by decide) (by decide) ha)
    (comm_at (by decide) (by decide) (by decide) (by decide) (by decide) (by decide) (by decide) (by decide) ha)
    (comm_at (by decide) (by decide) (by decide) (by decide) (by decide) (by decide) (by decide) (by decide) ha)
    (comm_at (by decide) (by decide) (by decide) (by decide) (by decide) (by decide) (by decide) (by decide) ha) hb

theorem txm_at {j : Nat} (h0 : mul 1 (tx j) = tx (mul 1 j)) (h1 : mul 2 (tx j) = tx (mul 2 j)) (h2 : mul 4 (tx j) = tx (mul 4 j)) (h3 : mul 8 (tx j) = tx (mul 8 j)) (h4 : mul 16 (tx j) = tx (mul 16 j)) (h5 : mul 32 (tx j) = tx (mul 32 j)) (h6 : mul 64 (tx j) = tx (mul 64 j)) (h7 : mul 128 (tx j) = tx (mul 128 j))
    {a : Nat} (ha : a < 256) : mul a (tx j) = tx (mul a j) :=
  lin_ext (lin_mull (tx j)) (lin_tx_mull j) h0 h1 h2 h3 h4 h5 h6 h7 ha
theorem mul_tx {a b : Nat} (ha : a < 256) (hb : b < 256) : mul a (tx b) = tx (mul a b) :=
  lin_ext (lin_mul_tx a) (lin_tx_mulr ha)
    (txm_at (by decide) (by decide) (by decide) (by decide) (by decide) (by decide) (by decide) (by decide) ha)
    (txm_at (by decide) (by decide) (by decide) (by decide) (by decide) (by decide) (by decide) (by decide) ha)
    (txm_at (by decide) (by decide) (by decide) (by decide) (by decide) (by decide) (by decide) (by decide) ha)
    (txm_at (by decide) (by decide) (by decide) (by decide) (by decide) (by decide) (by decide) (by decide) ha)
    (txm_at (by decide) (by decide) (by decide) (by decide) (by decide) (by decide) (by decide) (by decide) ha)
    (txm_at (by decide) (by decide) (by decide) (by decide) (by decide) (by decide) (by decide) (by decide) ha)
    (txm_at (by decide) (by decide) (by decide) (by decide) (by decide) (by decide) (by decide) (by decide) ha)
    (txm_at (by decide) (by decide) (by decide) (by decide) (by decide) (by decide) (by decide) (by decide) ha) hb
theorem mul_txk {a b : Nat} (ha : a < 256) (hb : b < 256) : (k : Nat) → mul a (txk k b) = txk k (mul a b)
  | 0 => rfl
  | k + 1 => by
    show mul a (tx (txk k b)) = tx (txk k (mul a b))
    rw [mul_tx ha (txk_lt hb k), mul_txk ha hb k]

theorem mulTo_assoc {a b : Nat} (c : Nat) (ha : a < 256) (hb : b < 256) : (k : Nat) → mulTo (mul a b) c k = mul a (mulTo b c k)
  | 0 => (mul_zero_right a).symm
  | k + 1 => by
    show mulTo (mul a b) c k ^^^ sel c k (txk k (mul a b)) = mul a (mulTo b c k ^^^ sel c k (txk k b))
    rw [mul_xor_right, mulTo_assoc c ha hb k, (lin_mulr a).sel, mul_txk ha hb k]
theorem mul_assoc {a b : Nat} (c : Nat) (ha : a < 256) (hb : b < 256) : mul (mul a b) c = mul a (mul b c) := mulTo_assoc c ha hb 8

theorem one_chk : (allB 256 fun a => mul a 1 == a) = true := by decide +kernel
theorem mul_one {a : Nat} (ha : a < 256) : mul a 1 = a := by simpa using allB_of one_chk a ha
theorem one_mul {a : Nat} (ha : a < 256) : mul 1 a = a := by rw [mul_comm (by decide) ha, mul_one ha]

/-! ### What undoes a product -/
def inv (a : Nat) : Nat := raise a 254
theorem inv_lt (a : Nat) : inv a < 256 := raise_lt a 254
theorem inv_chk : (allB 255 fun a => mul (a + 1) (inv (a + 1)) == 1) = true := by decide +kernel
theorem mul_inv {a : Nat} (ha : a < 256) (h0 : a ≠ 0) : mul a (inv a) = 1 := by
  have h := allB_of inv_chk (a - 1) (by omega)
  rw [Nat.sub_add_cancel (by omega)] at h
  simpa using h
theorem mul_back {a b : Nat} (ha : a < 256) (hb : b < 256) (h0 : b ≠ 0) : mul (mul a b) (inv b) = a := by
  rw [mul_assoc _ ha hb, mul_inv hb h0, mul_one ha]
theorem inv_ne {a : Nat} (ha : a < 256) (h0 : a ≠ 0) : inv a ≠ 0 := fun e => by
  have h := mul_inv ha h0
  rw [e, mul_zero_right] at h
  exact absurd h (by decide)
theorem mul_eq_zero {a b : Nat} (ha : a < 256) (hb : b < 256) : mul a b = 0 ↔ a = 0 ∨ b = 0 := by
  refine ⟨fun h => ?_, fun h => ?_⟩
  · by_cases h0 : b = 0
    · exact Or.inr h0
    · refine Or.inl ?_
      rw [← mul_back ha hb h0, h, mul_zero_left]
  · rcases h with h | h
    · rw [h, mul_zero_left]
    · rw [h, mul_zero_right]

/-! ### Powers -/
/-! ### 2's powers are all but 0, 255 of them -/
end Go.Proofs.YtldjieplbeflfaaGreat.Gf
