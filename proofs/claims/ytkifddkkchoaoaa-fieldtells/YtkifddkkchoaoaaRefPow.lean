/-
  What the document's own answer for powers does, call by call.
-/
import Derived.Test.YtkifddkkchoaoaaRef
import Derived.Test.YtkifddkkchoaoaaPnums
namespace Go.Proofs.Ytkifddkkchoaoaa
open Go.RowKit

namespace Gf
theorem pw_pw {a : Nat} (ha : a < 256) (m : Nat) : (n : Nat) → pw (pw a m) n = pw a (m * n)
  | 0 => rfl
  | n + 1 => by
    show mul (pw (pw a m) n) (pw a m) = _
    rw [pw_pw ha m n, ← pw_add ha, Nat.mul_succ]
def pwI (a : Int) (k : Nat) : Int := (pw a.toNat k : Nat)
theorem pwI_bd (a : Int) (k : Nat) : 0 ≤ pwI a k ∧ pwI a k ≤ 255 := by
  have := pw_lt a.toNat k
  unfold pwI
  omega
theorem pwI_succ (a : Int) (k : Nat) : mulI (pwI a k) a = pwI a (k + 1) := by
  unfold mulI pwI
  rw [Int.toNat_natCast]
  rfl
end Gf

/-- Powers of n above 0. -/
theorem powI_up {a n : Int} (h0 : 0 ≤ a) (h1 : a ≤ 255) (ha : a ≠ 0) (K : Nat) (hK : (K : Int) = n % 255) : Gf.pwI a K = powI a n := by
  rw [powI_pw n h0 h1 ha, ← hK, Int.toNat_natCast]
  rfl
/-- Powers of n below 0. -/
theorem powI_down {a n : Int} (h0 : 0 ≤ a) (h1 : a ≤ 255) (ha : a ≠ 0) (K : Nat) (hK : (K : Int) = (-n) % 255) : Gf.pwI (Gf.raiseI a 254) K = powI a n := by
  rw [powI_pw n h0 h1 ha]
  unfold Gf.pwI
  have e : (Gf.raiseI a 254).toNat = Gf.pw a.toNat 254 := by
    show ((Gf.inv a.toNat : Nat) : Int).toNat = _
    rw [Int.toNat_natCast, Gf.inv_pw (by omega)]
  rw [e, Gf.pw_pw (by omega), ← Gf.pw_mod (by omega) (by omega) (254 * K), show 254 * K % 255 = (n % 255).toNat by omega]
theorem invI_ne {a : Int} (h0 : 0 ≤ a) (h1 : a ≤ 255) (ha : a ≠ 0) : Gf.raiseI a 254 ≠ 0 := by
  have h := Gf.inv_ne (a := a.toNat) (by omega) (by omega)
  show ((Gf.inv a.toNat : Nat) : Int) ≠ 0
  omega
theorem powI_of_zero {n : Int} (hn : n ≠ 0) : powI 0 n = 0 := by
  unfold powI
  rw [if_neg hn, if_pos rfl]
theorem neg_tmod_cases (n : Int) (h : n < 0) : (n.tmod 255 = 0 ∨ n.tmod 255 < 0) ∧ -255 < n.tmod 255 ∧ -(n.tmod 255) = (-n) % 255 := by
  have e : n.tmod 255 = -((-n) % 255) := by
    rw [← Int.tmod_eq_emod_of_nonneg (by omega : 0 ≤ -n), Int.neg_tmod, Int.neg_neg]
  rw [e]
  omega

set_option maxHeartbeats 1000000 in
theorem refPow_upZero (n : Int) (w : World) (hn : 0 < n) :
    Calls Try.prog 12 #[.int .u8 0, .int .i64 n] w fun e w' => e = .returned (.int .u8 (powI 0 n)) ∧ w = w' := by
  have HP : Hid (powI 0 n = 0) := powI_of_zero (by omega)
  obtain ⟨K, hK⟩ := Int.eq_ofNat_of_zero_le (Int.emod_nonneg n (by decide : (255 : Int) ≠ 0))
  have HK : Hid (n % 255 = (K : Int)) := hK
  have kb : K ≤ 254 := by omega
  have r0 := Int.emod_nonneg n (by decide : (255 : Int) ≠ 0)
  clear hK
  have hn' : (n == 0) = false := by rw [beq_eq_false_iff_ne]; omega
  go_enter Try.func12, Try.ntmps12
  go_wp2_with fail
  go_loop [5, 6] (fun i s => ∃ r : Nat, r ≤ K ∧ i = .int .i64 r ∧ s = .int .u8 0) (fun i _ => (intOf i).toNat)
  case atStart => exact ⟨K, Nat.le_refl _, val_int HK.out, val_int rfl⟩
  case round =>
    obtain ⟨r, hr, rfl, rfl⟩ := hrel
    by_cases hlt : 0 < r
    · go_wp2_with fail
      refine (refMul_any _ _ _ (by decide) (by decide) (by decide) (by decide)).mono ?_
      rintro e w1 ⟨rfl, rfl⟩
      go_wp2_with fail
      exact ⟨⟨r - 1, by omega, val_int (by omega), val_int (rfl : Gf.mulI 0 0 = 0)⟩, by simp [intOf]; omega⟩
    · have e0 : r = 0 := by omega
      subst e0
      go_wp2_with fail
      go_ret
      exact ⟨ret_int HP.out.symm, rfl⟩

set_option maxHeartbeats 1000000 in
theorem refPow_up (a n : Int) (w : World) (h0 : 0 ≤ a) (h1 : a ≤ 255) (ha : a ≠ 0) (hn : 0 < n) :
    Calls Try.prog 12 #[.int .u8 a, .int .i64 n] w fun e w' => e = .returned (.int .u8 (powI a n)) ∧ w = w' := by
  obtain ⟨K, hK⟩ := Int.eq_ofNat_of_zero_le (Int.emod_nonneg n (by decide : (255 : Int) ≠ 0))
  have HK : Hid (n % 255 = (K : Int)) := hK
  have kb : K ≤ 254 := by omega
  have r0 := Int.emod_nonneg n (by decide : (255 : Int) ≠ 0)
  clear hK
  have hn' : (n == 0) = false := by rw [beq_eq_false_iff_ne]; omega
  have ha' : (a == 0) = false := by simpa using ha
  have HP : Hid (Gf.pwI a K = powI a n) := powI_up h0 h1 ha K HK.out.symm
  clear ha
  go_enter Try.func12, Try.ntmps12
  go_wp2_with fail
  go_loop [5, 6] (fun i s => ∃ r : Nat, r ≤ K ∧ i = .int .i64 r ∧ s = .int .u8 (Gf.pwI a (K - r))) (fun i _ => (intOf i).toNat)
  case atStart => exact ⟨K, Nat.le_refl _, val_int HK.out, val_int (by rw [Nat.sub_self]; rfl)⟩
  case round =>
    obtain ⟨r, hr, rfl, rfl⟩ := hrel
    by_cases hlt : 0 < r
    · go_wp2_with fail
      refine (refMul_any _ _ _ (Gf.pwI_bd _ _).1 (Gf.pwI_bd _ _).2 h0 h1).mono ?_
      rintro e w1 ⟨rfl, rfl⟩
      go_wp2_with fail
      exact ⟨⟨r - 1, by omega, val_int (by omega), val_int (by rw [Gf.pwI_succ, show K - r + 1 = K - (r - 1) by omega])⟩, by simp [intOf]; omega⟩
    · have e0 : r = 0 := by omega
      subst e0
      go_wp2_with fail
      go_ret
      exact ⟨ret_int HP.out, rfl⟩

set_option maxHeartbeats 1000000 in
theorem refPow_downZeroFlat (n : Int) (w : World) (hn : n < 0) (ht : n.tmod 255 = 0) :
    Calls Try.prog 12 #[.int .u8 0, .int .i64 n] w fun e w' => e = .returned (.int .u8 (powI 0 n)) ∧ w = w' := by
  have HP : Hid (powI 0 n = 0) := powI_of_zero (by omega)
  have hn' : (n == 0) = false := by rw [beq_eq_false_iff_ne]; omega
  go_enter Try.func12, Try.ntmps12
  go_wp2_with fail
  refine (refInv_any _ _ (by decide) (by decide)).mono ?_
  rw [Gf.invI_zero]
  rintro e w1 ⟨rfl, rfl⟩
  go_wp2_with fail
  go_loop [5, 6] (fun i s => ∃ r : Nat, r ≤ 0 ∧ i = .int .i64 r ∧ s = .int .u8 0) (fun i _ => (intOf i).toNat)
  case atStart => exact ⟨0, Nat.le_refl _, val_int rfl, val_int rfl⟩
  case round =>
    obtain ⟨r, hr, rfl, rfl⟩ := hrel
    by_cases hlt : 0 < r
    · go_wp2_with fail
      refine (refMul_any _ _ _ (by decide) (by decide) (by decide) (by decide)).mono ?_
      rintro e w1 ⟨rfl, rfl⟩
      go_wp2_with fail
      exact ⟨⟨r - 1, by omega, val_int (by omega), val_int (rfl : Gf.mulI 0 0 = 0)⟩, by simp [intOf]; omega⟩
    · have e0 : r = 0 := by omega
      subst e0
      go_wp2_with fail
      go_ret
      exact ⟨ret_int HP.out.symm, rfl⟩

set_option maxHeartbeats 1000000 in
theorem refPow_downZero (n : Int) (w : World) (hn : n < 0) (ht : n.tmod 255 < 0) (ht1 : -255 < n.tmod 255) (ht2 : -(n.tmod 255) = (-n) % 255) :
    Calls Try.prog 12 #[.int .u8 0, .int .i64 n] w fun e w' => e = .returned (.int .u8 (powI 0 n)) ∧ w = w' := by
  have HP : Hid (powI 0 n = 0) := powI_of_zero (by omega)
  obtain ⟨K, hK⟩ := Int.eq_ofNat_of_zero_le (by omega : 0 ≤ -(n.tmod 255))
  have HK : Hid (-(n.tmod 255) = (K : Int)) := hK
  have kb : K ≤ 254 := by omega
  have HE : Hid ((K : Int) = (-n) % 255) := by rw [← ht2]; exact hK.symm
  clear hK ht2
  have hn' : (n == 0) = false := by rw [beq_eq_false_iff_ne]; omega
  go_enter Try.func12, Try.ntmps12
  go_wp2_with fail
  refine (refInv_any _ _ (by decide) (by decide)).mono ?_
  rw [Gf.invI_zero]
  rintro e w1 ⟨rfl, rfl⟩
  go_wp2_with fail
  go_loop [5, 6] (fun i s => ∃ r : Nat, r ≤ K ∧ i = .int .i64 r ∧ s = .int .u8 0) (fun i _ => (intOf i).toNat)
  case atStart => exact ⟨K, Nat.le_refl _, val_int HK.out, val_int rfl⟩
  case round =>
    obtain ⟨r, hr, rfl, rfl⟩ := hrel
    by_cases hlt : 0 < r
    · go_wp2_with fail
      refine (refMul_any _ _ _ (by decide) (by decide) (by decide) (by decide)).mono ?_
      rintro e w1 ⟨rfl, rfl⟩
      go_wp2_with fail
      exact ⟨⟨r - 1, by omega, val_int (by omega), val_int (rfl : Gf.mulI 0 0 = 0)⟩, by simp [intOf]; omega⟩
    · have e0 : r = 0 := by omega
      subst e0
      go_wp2_with fail
      go_ret
      exact ⟨ret_int HP.out.symm, rfl⟩

set_option maxHeartbeats 1000000 in
theorem refPow_downFlat (a n : Int) (w : World) (h0 : 0 ≤ a) (h1 : a ≤ 255) (ha : a ≠ 0) (hn : n < 0) (ht : n.tmod 255 = 0) (ht2 : ((0 : Nat) : Int) = (-n) % 255) :
    Calls Try.prog 12 #[.int .u8 a, .int .i64 n] w fun e w' => e = .returned (.int .u8 (powI a n)) ∧ w = w' := by
  have hn' : (n == 0) = false := by rw [beq_eq_false_iff_ne]; omega
  have i := Gf.raiseI_bd a 254
  have ha' : (Gf.raiseI a 254 == 0) = false := by simpa using invI_ne h0 h1 ha
  have HP : Hid (Gf.pwI (Gf.raiseI a 254) 0 = powI a n) := powI_down h0 h1 ha 0 ht2
  clear ha ht2
  go_enter Try.func12, Try.ntmps12
  go_wp2_with fail
  refine (refInv_any _ _ h0 h1).mono ?_
  rintro e w1 ⟨rfl, rfl⟩
  go_wp2_with fail
  go_loop [5, 6] (fun i s => ∃ r : Nat, r ≤ 0 ∧ i = .int .i64 r ∧ s = .int .u8 (Gf.pwI (Gf.raiseI a 254) (0 - r))) (fun i _ => (intOf i).toNat)
  case atStart => exact ⟨0, Nat.le_refl _, val_int rfl, val_int rfl⟩
  case round =>
    obtain ⟨r, hr, rfl, rfl⟩ := hrel
    by_cases hlt : 0 < r
    · go_wp2_with fail
      refine (refMul_any _ _ _ (Gf.pwI_bd _ _).1 (Gf.pwI_bd _ _).2 i.1 i.2).mono ?_
      rintro e w1 ⟨rfl, rfl⟩
      go_wp2_with fail
      exact ⟨⟨r - 1, by omega, val_int (by omega), val_int (by omega)⟩, by simp [intOf]; omega⟩
    · have e0 : r = 0 := by omega
      subst e0
      go_wp2_with fail
      go_ret
      exact ⟨ret_int HP.out, rfl⟩

set_option maxHeartbeats 1000000 in
theorem refPow_down (a n : Int) (w : World) (h0 : 0 ≤ a) (h1 : a ≤ 255) (ha : a ≠ 0) (hn : n < 0) (ht : n.tmod 255 < 0) (ht1 : -255 < n.tmod 255) (ht2 : -(n.tmod 255) = (-n) % 255) :
    Calls Try.prog 12 #[.int .u8 a, .int .i64 n] w fun e w' => e = .returned (.int .u8 (powI a n)) ∧ w = w' := by
  obtain ⟨K, hK⟩ := Int.eq_ofNat_of_zero_le (by omega : 0 ≤ -(n.tmod 255))
  have HK : Hid (-(n.tmod 255) = (K : Int)) := hK
  have kb : K ≤ 254 := by omega
  have HE : Hid ((K : Int) = (-n) % 255) := by rw [← ht2]; exact hK.symm
  clear hK ht2
  have hn' : (n == 0) = false := by rw [beq_eq_false_iff_ne]; omega
  have i := Gf.raiseI_bd a 254
  have ha' : (Gf.raiseI a 254 == 0) = false := by simpa using invI_ne h0 h1 ha
  have HP : Hid (Gf.pwI (Gf.raiseI a 254) K = powI a n) := powI_down h0 h1 ha K HE.out
  clear ha
  go_enter Try.func12, Try.ntmps12
  go_wp2_with fail
  refine (refInv_any _ _ h0 h1).mono ?_
  rintro e w1 ⟨rfl, rfl⟩
  go_wp2_with fail
  go_loop [5, 6] (fun i s => ∃ r : Nat, r ≤ K ∧ i = .int .i64 r ∧ s = .int .u8 (Gf.pwI (Gf.raiseI a 254) (K - r))) (fun i _ => (intOf i).toNat)
  case atStart => exact ⟨K, Nat.le_refl _, val_int HK.out, val_int (by rw [Nat.sub_self]; rfl)⟩
  case round =>
    obtain ⟨r, hr, rfl, rfl⟩ := hrel
    by_cases hlt : 0 < r
    · go_wp2_with fail
      refine (refMul_any _ _ _ (Gf.pwI_bd _ _).1 (Gf.pwI_bd _ _).2 i.1 i.2).mono ?_
      rintro e w1 ⟨rfl, rfl⟩
      go_wp2_with fail
      exact ⟨⟨r - 1, by omega, val_int (by omega), val_int (by rw [Gf.pwI_succ, show K - r + 1 = K - (r - 1) by omega])⟩, by simp [intOf]; omega⟩
    · have e0 : r = 0 := by omega
      subst e0
      go_wp2_with fail
      go_ret
      exact ⟨ret_int HP.out, rfl⟩


theorem refPow_any (a n : Int) (w : World) (h0 : 0 ≤ a) (h1 : a ≤ 255) :
    Calls Try.prog 12 #[.int .u8 a, .int .i64 n] w fun e w' => e = .returned (.int .u8 (powI a n)) ∧ w = w' := by
  by_cases hn : n = 0
  · subst hn
    go_enter Try.func12, Try.ntmps12
    go_wp2_with fail
    go_ret
    exact ⟨rfl, rfl⟩
  · by_cases ha : a = 0
    · subst ha
      by_cases hp : 0 < n
      · exact refPow_upZero n w hp
      · rcases neg_tmod_cases n (by omega) with ⟨ht | ht, ht1, ht2⟩
        · exact refPow_downZeroFlat n w (by omega) ht
        · exact refPow_downZero n w (by omega) ht ht1 ht2
    · by_cases hp : 0 < n
      · exact refPow_up a n w h0 h1 ha hp
      · rcases neg_tmod_cases n (by omega) with ⟨ht | ht, ht1, ht2⟩
        · exact refPow_downFlat a n w h0 h1 ha (by omega) ht (by rw [← ht2, ht]; rfl)
        · exact refPow_down a n w h0 h1 ha (by omega) ht ht1 ht2

end Go.Proofs.Ytkifddkkchoaoaa
