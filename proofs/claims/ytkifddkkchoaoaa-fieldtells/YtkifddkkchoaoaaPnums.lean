/-
  The laws of bytes' powers on Int, as the walks of the statements meet them.
-/
import Derived.Test.YtkifddkkchoaoaaNums
namespace Go.Proofs.Ytkifddkkchoaoaa
open Go.RowKit

theorem powI_pw {a : Int} (n : Int) (h0 : 0 ≤ a) (h1 : a ≤ 255) (ha : a ≠ 0) : powI a n = ((Gf.pw a.toNat (n % 255).toNat : Nat) : Int) := by
  unfold powI
  by_cases hn : n = 0
  · rw [if_pos hn, hn]
    rfl
  · rw [if_neg hn, if_neg ha]
    unfold Gf.raiseI
    rw [Gf.raise_pw (by omega) (by omega)]
theorem powI_add {a : Int} (m n : Int) (h0 : 0 ≤ a) (h1 : a ≤ 255) (ha : a ≠ 0) : powI a (m + n) = Gf.mulI (powI a m) (powI a n) := by
  rw [powI_pw _ h0 h1 ha, powI_pw _ h0 h1 ha, powI_pw _ h0 h1 ha]
  unfold Gf.mulI
  rw [Int.toNat_natCast, Int.toNat_natCast, ← Gf.pw_add (by omega), ← Gf.pw_mod (by omega) (by omega) ((m % 255).toNat + (n % 255).toNat)]
  rw [show ((m % 255).toNat + (n % 255).toNat) % 255 = ((m + n) % 255).toNat by omega]
theorem powI_255 {a : Int} (h0 : 0 ≤ a) (h1 : a ≤ 255) (ha : a ≠ 0) : powI a 255 = 1 := by
  rw [powI_pw _ h0 h1 ha]
  rfl
theorem powI_two {m n : Int} (h : (m - n) % 255 ≠ 0) : powI 2 m ≠ powI 2 n := by
  rw [powI_pw m (by decide) (by decide) (by decide), powI_pw n (by decide) (by decide) (by decide)]
  have := Gf.pw_two_inj (m := (m % 255).toNat) (n := (n % 255).toNat) (by omega) (by omega) (by omega)
  intro e
  exact this (Int.ofNat.inj e)
theorem tmod_zero (n : Int) : n.tmod 255 = 0 ↔ n % 255 = 0 := by
  rcases tmod_cases n with ⟨_, _, h⟩ | ⟨h1, h2, h⟩ <;> omega

end Go.Proofs.Ytkifddkkchoaoaa
