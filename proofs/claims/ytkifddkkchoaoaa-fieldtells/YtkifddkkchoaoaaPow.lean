/-
  What field.Inv, field.Pow and the statements' own alive do, call by call.
-/
import Derived.Test.YtkifddkkchoaoaaSq
namespace Go.Proofs.Ytkifddkkchoaoaa
open Go.RowKit

set_option maxHeartbeats 400000 in
theorem inv_any (a : Int) (w : World) (h0 : 0 ≤ a) (h1 : a ≤ 255) :
    Calls Try.prog 9 #[.int .u8 a] w fun e w' => e = .returned (.int .u8 (Gf.raiseI a 254)) ∧ Below w.heap.size w w' := by
  go_enter Try.func9, Try.ntmps9
  go_wp2_with fail
  refine (raise_any _ _ _ h0 h1 (by decide) (by decide)).mono ?_
  rintro e w1 ⟨rfl, hb⟩
  go_wp2_with fail
  go_ret
  exact ⟨rfl, hb⟩

/-- Go's remainder by 255, brought to 0 to 254. -/
theorem tmod_cases (n : Int) : (0 ≤ n.tmod 255 ∧ n.tmod 255 ≤ 254 ∧ n.tmod 255 = n % 255) ∨ (n.tmod 255 < 0 ∧ -255 < n.tmod 255 ∧ n.tmod 255 + 255 = n % 255) := by
  rcases Int.le_total 0 n with h | h
  · rw [Int.tmod_eq_emod_of_nonneg h]
    omega
  · have e : n.tmod 255 = -((-n) % 255) := by
      rw [← Int.tmod_eq_emod_of_nonneg (by omega : 0 ≤ -n), Int.neg_tmod, Int.neg_neg]
    rw [e]
    omega

/-- What Pow answers. -/
def powI (a n : Int) : Int := if n = 0 then 1 else if a = 0 then 0 else Gf.raiseI a (n % 255)
theorem powI_bd (a n : Int) : 0 ≤ powI a n ∧ powI a n ≤ 255 := by
  have := Gf.raiseI_bd a (n % 255)
  unfold powI
  split
  · omega
  · split <;> omega

set_option maxHeartbeats 400000 in
theorem pow_any (a n : Int) (w : World) (h0 : 0 ≤ a) (h1 : a ≤ 255) :
    Calls Try.prog 11 #[.int .u8 a, .int .i64 n] w fun e w' => e = .returned (.int .u8 (powI a n)) ∧ Below w.heap.size w w' := by
  by_cases hn : n = 0
  · subst hn
    go_enter Try.func11, Try.ntmps11
    go_wp2_with fail
    go_ret
    exact ⟨rfl, Below.refl _ _⟩
  · have hn' : (n == 0) = false := by simpa using hn
    by_cases ha : a = 0
    · have HP : Hid (powI a n = 0) := by
        show powI a n = 0
        unfold powI
        rw [if_neg hn, if_pos ha]
      have ha' : (a == 0) = true := by simpa using ha
      clear ha hn
      go_enter Try.func11, Try.ntmps11
      go_wp2_with fail
      go_ret
      exact ⟨ret_int HP.out.symm, Below.refl _ _⟩
    · have ha' : (a == 0) = false := by simpa using ha
      have HP : Hid (powI a n = Gf.raiseI a (n % 255)) := by
        show powI a n = _
        unfold powI
        rw [if_neg hn, if_neg ha]
      clear ha hn
      rcases tmod_cases n with ⟨t0, t1, t2⟩ | ⟨t0, t1, t2⟩
      · have T : Hid (n.tmod 255 = n % 255) := t2
        clear t2
        go_enter Try.func11, Try.ntmps11
        go_wp2_with fail
        refine (raise_any _ _ _ h0 h1 t0 (by omega)).mono ?_
        rintro e w1 ⟨rfl, hb⟩
        go_wp2_with fail
        go_ret
        exact ⟨ret_int (by rw [HP.out, ← T.out]), hb⟩
      · have T : Hid (n.tmod 255 + 255 = n % 255) := t2
        clear t2
        go_enter Try.func11, Try.ntmps11
        go_wp2_with fail
        refine (raise_any _ _ _ h0 h1 (by omega) (by omega)).mono ?_
        rintro e w1 ⟨rfl, hb⟩
        go_wp2_with fail
        go_ret
        exact ⟨ret_int (by rw [HP.out, ← T.out]), hb⟩

theorem alive_mul : Gf.mulI 2 128 = 29 := by decide +kernel
theorem alive_inv : Gf.raiseI 1 254 = 1 := by decide +kernel
theorem alive_pow : powI 2 8 = 29 := by decide +kernel

set_option maxHeartbeats 400000 in
theorem alive_any (w : World) : Calls Try.prog 13 #[] w fun e w' => e = .returned (.bool true) ∧ Below w.heap.size w w' := by
  go_enter Try.func13, Try.ntmps13
  go_wp2_with fail
  refine (mul_any _ _ _ (by decide) (by decide) (by decide) (by decide)).mono ?_
  rw [alive_mul]
  rintro e w1 ⟨rfl, hb1⟩
  go_wp2_with fail
  refine (inv_any _ _ (by decide) (by decide)).mono ?_
  rw [alive_inv]
  rintro e w2 ⟨rfl, hb2⟩
  go_wp2_with fail
  refine (pow_any _ _ _ (by decide) (by decide)).mono ?_
  rw [alive_pow]
  rintro e w3 ⟨rfl, hb3⟩
  go_wp2_with fail
  go_ret
  exact ⟨rfl, hb1.trans ((hb2.mono hb1.size).trans (hb3.mono (Nat.le_trans hb1.size hb2.size)))⟩

end Go.Proofs.Ytkifddkkchoaoaa
