/-
  What the document's own answers for products and for what undoes them do, call by call.
-/
import Derived.Test.YtmlboaejkmffjadRalg
import Derived.Test.YtmlboaejkmffjadRowC
namespace Go.Proofs.Ytmlboaejkmffjad
open Go.RowKit

theorem bit_i64w (b : Int) (k : Nat) (g0 : 0 ≤ b) (g1 : b < 32768) : (bits .and .i64 (b / 2 ^ k) 1 == 1) = decide (b.toNat / 2 ^ k % 2 = 1) := by
  have hd := div_bd b k g0
  rw [i64_and _ _ hd.1 (by omega) (by decide) (by decide), bit_nat b k g0, show (1 : Int).toNat = 1 from rfl, nat_mask1]
  generalize b.toNat / 2 ^ k % 2 = m
  rw [Bool.eq_iff_iff, beq_iff_eq, decide_eq_true_iff]
  omega
/-- A shift to the left that stays small. -/
theorem shl_small (a : Int) (k : Nat) (h0 : 0 ≤ a) (h1 : a ≤ 285) (hk : k ≤ 7) : wrap64 (a * 2 ^ k) = ((a.toNat * 2 ^ k : Nat) : Int) ∧ a.toNat * 2 ^ k < 65536 := by
  obtain ⟨A, rfl⟩ := Int.eq_ofNat_of_zero_le h0
  have h2 : 2 ^ k ≤ 2 ^ 7 := Nat.pow_le_pow_right (by decide) hk
  have h3 : A * 2 ^ k ≤ 285 * 2 ^ 7 := Nat.mul_le_mul (by omega) h2
  have e : ((A : Int) * 2 ^ k) = ((A * 2 ^ k : Nat) : Int) := by simp
  rw [e, Int.toNat_natCast]
  generalize A * 2 ^ k = m at *
  unfold wrap64
  omega

theorem raw_yes (a b : Int) (k : Nat) (hk : k < 8) (h0 : 0 ≤ a) (h1 : a ≤ 255) (g0 : 0 ≤ b) (g1 : b ≤ 255) (h : (bits .and .u8 (b / 2 ^ k) 1 == 1) = true) :
    bits .xor .i64 (Gf.rawToI a b k) (wrap64 (a * 2 ^ k)) = Gf.rawToI a b (k + 1) := by
  rw [bit_u8 b k g0 g1] at h
  have r := Gf.rawToI_bd b h0 h1 (Nat.le_of_lt hk)
  have s := shl_small a k h0 (by omega) (by omega)
  rw [s.1, i64_xor _ _ r.1 (by omega) (by omega) (by omega), Gf.rawToI_yes a b k (of_decide_eq_true h), Int.toNat_natCast]
theorem raw_no (a b : Int) (k : Nat) (g0 : 0 ≤ b) (g1 : b ≤ 255) (h : (bits .and .u8 (b / 2 ^ k) 1 == 1) = false) :
    Gf.rawToI a b k = Gf.rawToI a b (k + 1) := by
  rw [bit_u8 b k g0 g1] at h
  rw [Gf.rawToI_no a b k (of_decide_eq_false h)]
theorem red_yes (a b : Int) (j : Nat) (hj : j < 7) (h0 : 0 ≤ a) (h1 : a ≤ 255) (h : (bits .and .i64 (Gf.redToI a b j / 2 ^ (14 - j)) 1 == 1) = true) :
    bits .xor .i64 (Gf.redToI a b j) (wrap64 (285 * 2 ^ (14 - j - 8))) = Gf.redToI a b (j + 1) := by
  have r := Gf.redToI_bd b h0 h1 (Nat.le_of_lt hj)
  rw [bit_i64w _ _ r.1 r.2] at h
  have s := shl_small 285 (14 - j - 8) (by decide) (by decide) (by omega)
  rw [s.1, i64_xor _ _ r.1 (by omega) (by omega) (by omega), Gf.redToI_yes a b j (of_decide_eq_true h), Int.toNat_natCast, show 14 - j - 8 = 6 - j by omega]
  rfl
theorem red_no (a b : Int) (j : Nat) (hj : j < 7) (h0 : 0 ≤ a) (h1 : a ≤ 255) (h : (bits .and .i64 (Gf.redToI a b j / 2 ^ (14 - j)) 1 == 1) = false) :
    Gf.redToI a b j = Gf.redToI a b (j + 1) := by
  have r := Gf.redToI_bd b h0 h1 (Nat.le_of_lt hj)
  rw [bit_i64w _ _ r.1 r.2] at h
  rw [Gf.redToI_no a b j (of_decide_eq_false h)]

set_option maxHeartbeats 1000000 in
theorem refMul_any (a b : Int) (w : World) (h0 : 0 ≤ a) (h1 : a ≤ 255) (g0 : 0 ≤ b) (g1 : b ≤ 255) :
    Calls Try.prog 66 #[.int .u8 a, .int .u8 b] w fun e w' => e = .returned (.int .u8 (Gf.mulI a b)) ∧ w = w' := by
  go_enter Try.func66, Try.ntmps66
  go_wp2_with fail
  go_loop [6, 7] (fun s i => ∃ k : Nat, k ≤ 8 ∧ i = .int .i64 k ∧ s = .int .i64 (Gf.rawToI a b k)) (fun _ i => 8 - (intOf i).toNat)
  case atStart => exact ⟨0, Nat.zero_le _, rfl, rfl⟩
  case round =>
    obtain ⟨k, hk, rfl, rfl⟩ := hrel
    by_cases hlt : k < 8
    · go_wp2
      · have hy : (bits BinOp.and IntKind.u8 (b / 2 ^ k) 1 == 1) = true := by assumption
        exact ⟨⟨k + 1, by omega, by go_num, val_int (raw_yes a b k hlt h0 h1 g0 g1 hy)⟩, by simp [intOf]; omega⟩
      · have hy : (bits BinOp.and IntKind.u8 (b / 2 ^ k) 1 == 1) = false := by assumption
        exact ⟨⟨k + 1, by omega, by go_num, val_int (raw_no a b k g0 g1 hy)⟩, by simp [intOf]; omega⟩
    · have e8 : k = 8 := by omega
      subst e8
      go_wp2
      go_loop [6, 8] (fun s i => ∃ j : Nat, j ≤ 7 ∧ i = .int .i64 (14 - (j : Int)) ∧ s = .int .i64 (Gf.redToI a b j)) (fun _ i => (intOf i).toNat - 7)
      case atStart => exact ⟨0, Nat.zero_le _, rfl, rfl⟩
      case round =>
        obtain ⟨j, hj, rfl, rfl⟩ := hrel
        by_cases hlt : j < 7
        · go_wp2
          · have hy : (bits BinOp.and IntKind.i64 (Gf.redToI a b j / 2 ^ (14 - j)) 1 == 1) = true := by assumption
            exact ⟨⟨j + 1, by omega, val_int (by omega), val_int (red_yes a b j hlt h0 h1 hy)⟩, by simp [intOf]; omega⟩
          · have hy : (bits BinOp.and IntKind.i64 (Gf.redToI a b j / 2 ^ (14 - j)) 1 == 1) = false := by assumption
            exact ⟨⟨j + 1, by omega, val_int (by omega), val_int (red_no a b j hlt h0 h1 hy)⟩, by simp [intOf]; omega⟩
        · have e7 : j = 7 := by omega
          subst e7
          go_wp2
          go_ret
          exact ⟨ret_int (Gf.redToI_seven h0 h1 g0 g1), rfl⟩

theorem mulI_hit {a b : Int} (h0 : 0 ≤ a) (h1 : a ≤ 255) (g0 : 0 ≤ b) (g1 : b ≤ 255) (h : (Gf.mulI a b == 1) = true) : b = Gf.raiseI a 254 := by
  have e : Gf.mulI a b = 1 := by simpa using h
  have u := Gf.inv_uniq (a := a.toNat) (b := b.toNat) (by omega) (by omega) (by unfold Gf.mulI at e; omega)
  show b = ((Gf.inv a.toNat : Nat) : Int)
  omega
theorem mulI_none {a : Int} (h0 : 0 ≤ a) (h1 : a ≤ 255) (h : ∀ c : Nat, 1 ≤ c → c < 256 → Gf.mulI a c ≠ 1) : Gf.raiseI a 254 = 0 := by
  by_cases ha : a = 0
  · rw [ha]
    show ((Gf.inv 0 : Nat) : Int) = 0
    rw [Gf.inv_zero]
    rfl
  · exfalso
    have i := Gf.inv_lt a.toNat
    have n := Gf.inv_ne (a := a.toNat) (by omega) (by omega)
    refine h (Gf.inv a.toNat) (by omega) i ?_
    unfold Gf.mulI
    rw [Int.toNat_natCast, Gf.mul_inv (by omega) (by omega)]
    rfl

set_option maxRecDepth 100000 in
set_option maxHeartbeats 1000000 in
theorem refInv_any (a : Int) (w : World) (h0 : 0 ≤ a) (h1 : a ≤ 255) :
    Calls Try.prog 88 #[.int .u8 a] w fun e w' => e = .returned (.int .u8 (Gf.raiseI a 254)) ∧ w = w' := by
  go_enter Try.func88, Try.ntmps88
  go_wp2_with fail
  go_loop [3] (fun i => ∃ k : Nat, 1 ≤ k ∧ k ≤ 256 ∧ i = .int .i64 k ∧ Hid (∀ c : Nat, 1 ≤ c → c < k → Gf.mulI a c ≠ 1)) (fun i => 256 - (intOf i).toNat)
  case atStart => exact ⟨1, by omega, by omega, rfl, fun c h g => absurd g (by omega)⟩
  case round =>
    obtain ⟨k, hk1, hk, rfl, HN⟩ := hrel
    by_cases hlt : k < 256
    · have l1 : (k : Int) ≤ 255 := by omega
      by_cases hh : (Gf.mulI a k == 1) = true
      · go_wp2_with fail
        refine (refMul_any _ _ _ h0 h1 (by omega) (by omega)).mono ?_
        rintro e w1 ⟨rfl, rfl⟩
        go_wp2_with fail
        go_ret
        exact ⟨ret_int (mulI_hit h0 h1 (by omega) l1 hh), rfl⟩
      · have hh' : (Gf.mulI a k == 1) = false := by simpa using hh
        clear hh
        go_wp2_with fail
        refine (refMul_any _ _ _ h0 h1 (by omega) (by omega)).mono ?_
        rintro e w1 ⟨rfl, rfl⟩
        go_wp2_with fail
        refine ⟨⟨k + 1, by omega, by omega, by go_num, ?_⟩, by simp [intOf]; omega⟩
        intro c hc1 hc2
        by_cases hck : c = k
        · subst hck
          simpa using hh'
        · exact HN.out c hc1 (by omega)
    · have e8 : k = 256 := by omega
      subst e8
      go_wp2_with fail
      go_ret
      exact ⟨ret_int (mulI_none h0 h1 HN.out).symm, rfl⟩

end Go.Proofs.Ytmlboaejkmffjad
