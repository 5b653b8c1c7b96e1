/-
  What field.timesX, field.timesPowersOfX and field.Mul do, call by call.
-/
import Derived.Test.YtmlboaejkmffjadByt
import Derived.Test.YtmlboaejkmffjadMath
import Derived.WalkKit
import Derived.WalkSpells
import Derived.WalkLawsBesides
import Derived.Laws.BitsAllLaws
namespace Go.Proofs.Ytmlboaejkmffjad
open Go.RowKit


/-- A bit of a number, as the walk asks for it. -/
theorem bit_nat (n : Int) (k : Nat) (h0 : 0 ≤ n) : (n / 2 ^ k).toNat = n.toNat / 2 ^ k := by
  obtain ⟨m, rfl⟩ := Int.eq_ofNat_of_zero_le h0
  have e : ((2 : Int) ^ k) = ((2 ^ k : Nat) : Int) := by simp
  rw [e, ← Int.natCast_ediv, Int.toNat_natCast, Int.toNat_natCast]
theorem div_bd (n : Int) (k : Nat) (h0 : 0 ≤ n) : 0 ≤ n / 2 ^ k ∧ n / 2 ^ k ≤ n :=
  ⟨Int.ediv_nonneg h0 (Int.pow_nonneg (by decide)), Int.ediv_le_self _ h0⟩
theorem bit_u8 (b : Int) (k : Nat) (g0 : 0 ≤ b) (g1 : b ≤ 255) : (bits .and .u8 (b / 2 ^ k) 1 == 1) = decide (b.toNat / 2 ^ k % 2 = 1) := by
  have hd := div_bd b k g0
  rw [u8_and _ _ hd.1 (by omega) (by decide) (by decide), bit_nat b k g0, show (1 : Int).toNat = 1 from rfl, nat_mask1]
  generalize b.toNat / 2 ^ k % 2 = m
  rw [Bool.eq_iff_iff, beq_iff_eq, decide_eq_true_iff]
  omega

set_option maxHeartbeats 400000 in
theorem tx_any (a : Int) (w : World) (h0 : 0 ≤ a) (h1 : a ≤ 255) :
    Calls Try.prog 108 #[.int .u8 a] w fun e w' => e = .returned (.int .u8 (Gf.txI a)) ∧ w' = w := by
  go_enter Try.func108, Try.ntmps108
  go_wp2
  · have hz : (a / 128 == 0) = true := by assumption
    go_ret
    refine ⟨ret_int (?_ : a * 2 % 256 = _), rfl⟩
    have hz' : a / 128 = 0 := by simpa using hz
    unfold Gf.txI Gf.tx
    rw [if_pos (by omega)]
    omega
  · have hz : (a / 128 == 0) = false := by assumption
    go_ret
    refine ⟨ret_int (?_ : bits BinOp.xor IntKind.u8 (a * 2 % 256) 29 = _), rfl⟩
    have hz' : ¬ a / 128 = 0 := by simpa using hz
    rw [u8_xor _ _ (by omega) (by omega) (by omega) (by omega)]
    unfold Gf.txI Gf.tx
    rw [if_neg (by omega), show (a * 2 % 256).toNat = a.toNat * 2 % 256 by omega]
    rfl

set_option maxHeartbeats 1000000 in
theorem pows_any (a : Int) (w : World) (h0 : 0 ≤ a) (h1 : a ≤ 255) :
    Calls Try.prog 101 #[.int .u8 a] w fun e w' => e = .returned (.agg #[.int .u8 a, .int .u8 (Gf.txI a), .int .u8 (Gf.txI (Gf.txI a)), .int .u8 (Gf.txI (Gf.txI (Gf.txI a))), .int .u8 (Gf.txI (Gf.txI (Gf.txI (Gf.txI a)))), .int .u8 (Gf.txI (Gf.txI (Gf.txI (Gf.txI (Gf.txI a))))), .int .u8 (Gf.txI (Gf.txI (Gf.txI (Gf.txI (Gf.txI (Gf.txI a)))))), .int .u8 (Gf.txI (Gf.txI (Gf.txI (Gf.txI (Gf.txI (Gf.txI (Gf.txI a)))))))]) ∧ Below w.heap.size w w' := by
  go_enter Try.func101, Try.ntmps101
  go_wp2
  refine wp_loop_rounds 9 ?_
  iterate 8
    rw [rounds_succ]
    go_wp2_with fail
    refine (tx_any _ _ ?_ ?_).mono ?_
    · first | assumption | exact (Gf.txI_bd _).1
    · first | assumption | exact (Gf.txI_bd _).2
    rintro e w' ⟨rfl, rfl⟩
    go_wp2_with fail
  rw [rounds_succ]
  go_wp2_with fail
  exact bodyPost_ret (v := .agg #[.int .u8 a, .int .u8 (Gf.txI a), .int .u8 (Gf.txI (Gf.txI a)), .int .u8 (Gf.txI (Gf.txI (Gf.txI a))), .int .u8 (Gf.txI (Gf.txI (Gf.txI (Gf.txI a)))), .int .u8 (Gf.txI (Gf.txI (Gf.txI (Gf.txI (Gf.txI a))))), .int .u8 (Gf.txI (Gf.txI (Gf.txI (Gf.txI (Gf.txI (Gf.txI a)))))), .int .u8 (Gf.txI (Gf.txI (Gf.txI (Gf.txI (Gf.txI (Gf.txI (Gf.txI a)))))))]) (by simp [results, Try.results101, go_sem]) rfl ⟨rfl, ((Below.refl _ _).alloc (Nat.le_refl _) _).alloc (by simp) _⟩

theorem pow_cell (a : Int) (w : World) (h0 : 0 ≤ a) (k : Nat) (hk : k < 8) :
    (w.alloc (.cells #[.int .u8 a, .int .u8 (Gf.txI a), .int .u8 (Gf.txI (Gf.txI a)), .int .u8 (Gf.txI (Gf.txI (Gf.txI a))), .int .u8 (Gf.txI (Gf.txI (Gf.txI (Gf.txI a)))), .int .u8 (Gf.txI (Gf.txI (Gf.txI (Gf.txI (Gf.txI a))))), .int .u8 (Gf.txI (Gf.txI (Gf.txI (Gf.txI (Gf.txI (Gf.txI a)))))), .int .u8 (Gf.txI (Gf.txI (Gf.txI (Gf.txI (Gf.txI (Gf.txI (Gf.txI a)))))))] 122)).cell? ⟨w.heap.size, k, none⟩ = some (.int .u8 (Gf.txkI k a)) := by
  rw [cell_of_row _ _ k _ 122 (0, 0) (heap_alloc_new w _)]
  match k, hk with
  | 0, _ => simp [Gf.txkI_zero a h0]
  | 1, _ => simp [Gf.txkI_succ, Gf.txkI_zero a h0]
  | 2, _ => simp [Gf.txkI_succ, Gf.txkI_zero a h0]
  | 3, _ => simp [Gf.txkI_succ, Gf.txkI_zero a h0]
  | 4, _ => simp [Gf.txkI_succ, Gf.txkI_zero a h0]
  | 5, _ => simp [Gf.txkI_succ, Gf.txkI_zero a h0]
  | 6, _ => simp [Gf.txkI_succ, Gf.txkI_zero a h0]
  | 7, _ => simp [Gf.txkI_succ, Gf.txkI_zero a h0]

theorem mulTo_yes (a b : Int) (k : Nat) (h0 : 0 ≤ a) (h1 : a ≤ 255) (g0 : 0 ≤ b) (g1 : b ≤ 255) (h : (bits .and .u8 (b / 2 ^ k) 1 == 1) = true) :
    bits .xor .u8 (Gf.mulToI a b k) (Gf.txkI k a) = Gf.mulToI a b (k + 1) := by
  rw [bit_u8 b k g0 g1] at h
  have m := Gf.mulToI_bd a b k h0 h1
  have t := Gf.txkI_bd k a h0 h1
  rw [u8_xor _ _ m.1 (by omega) t.1 (by omega), Gf.mulToI_yes a b k (of_decide_eq_true h)]
theorem mulTo_no (a b : Int) (k : Nat) (g0 : 0 ≤ b) (g1 : b ≤ 255) (h : (bits .and .u8 (b / 2 ^ k) 1 == 1) = false) :
    Gf.mulToI a b k = Gf.mulToI a b (k + 1) := by
  rw [bit_u8 b k g0 g1] at h
  rw [Gf.mulToI_no a b k (of_decide_eq_false h)]

set_option maxHeartbeats 1000000 in
theorem mul_any (a b : Int) (w : World) (h0 : 0 ≤ a) (h1 : a ≤ 255) (g0 : 0 ≤ b) (g1 : b ≤ 255) :
    Calls Try.prog 83 #[.int .u8 a, .int .u8 b] w fun e w' => e = .returned (.int .u8 (Gf.mulI a b)) ∧ Below w.heap.size w w' := by
  go_enter Try.func83, Try.ntmps83
  go_wp2_with fail
  refine (pows_any a _ h0 h1).mono ?_
  rintro e w1 ⟨rfl, hb⟩
  go_wp2_with fail
  have hcell := pow_cell a w1 h0
  go_loop [6, 10] (fun s i => ∃ k : Nat, k ≤ 8 ∧ i = .int .i64 k ∧ s = .int .u8 (Gf.mulToI a b k)) (fun _ i => 8 - (intOf i).toNat)
  case atStart => exact ⟨0, Nat.zero_le _, rfl, rfl⟩
  case round =>
    obtain ⟨k, hk, rfl, rfl⟩ := hrel
    by_cases hlt : k < 8
    · have hc := hcell k hlt
      clear hcell
      go_wp2
      · have hy : (bits BinOp.and IntKind.u8 (b / 2 ^ k) 1 == 1) = true := by assumption
        exact ⟨⟨k + 1, by omega, by go_num, val_int (mulTo_yes a b k h0 h1 g0 g1 hy)⟩, by simp [intOf]; omega⟩
      · have hy : (bits BinOp.and IntKind.u8 (b / 2 ^ k) 1 == 1) = false := by assumption
        exact ⟨⟨k + 1, by omega, by go_num, val_int (mulTo_no a b k g0 g1 hy)⟩, by simp [intOf]; omega⟩
    · clear hcell
      have e8 : k = 8 := by omega
      subst e8
      go_wp2
      go_ret
      exact ⟨rfl, hb.alloc hb.size _⟩

end Go.Proofs.Ytmlboaejkmffjad
