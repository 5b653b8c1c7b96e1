/-
  The laws of bytes' arithmetic on Int, as the walks of the statements meet them.
-/
import Derived.Test.YtkifddkkchoaoaaAlg
import Derived.Test.YtkifddkkchoaoaaPow
namespace Go.Proofs.Ytkifddkkchoaoaa
open Go.RowKit

theorem ret_bool {a b : Bool} (h : a = b) : Ending.returned (.bool a) = .returned (.bool b) := by rw [h]
theorem bt {w a b : World} (h : Below w.heap.size w a) (k : Below a.heap.size a b) : Below w.heap.size w b := h.trans (k.mono h.size)

namespace Gf
theorem mulI_comm {a b : Int} (h0 : 0 ≤ a) (h1 : a ≤ 255) (g0 : 0 ≤ b) (g1 : b ≤ 255) : mulI a b = mulI b a := by
  unfold mulI
  rw [mul_comm (by omega) (by omega)]
theorem mulI_assoc {a b : Int} (c : Int) (h0 : 0 ≤ a) (h1 : a ≤ 255) (g0 : 0 ≤ b) (g1 : b ≤ 255) : mulI (mulI a b) c = mulI a (mulI b c) := by
  unfold mulI
  rw [Int.toNat_natCast, Int.toNat_natCast, mul_assoc _ (by omega) (by omega)]
theorem mulI_one {a : Int} (h0 : 0 ≤ a) (h1 : a ≤ 255) : mulI a 1 = a := by
  unfold mulI
  rw [show (1 : Int).toNat = 1 from rfl, mul_one (by omega)]
  omega
theorem mulI_zero {a b : Int} (h0 : 0 ≤ a) (h1 : a ≤ 255) (g0 : 0 ≤ b) (g1 : b ≤ 255) : mulI a b = 0 ↔ a = 0 ∨ b = 0 := by
  have h := mul_eq_zero (a := a.toNat) (b := b.toNat) (by omega) (by omega)
  unfold mulI
  omega
theorem mulI_back {a b : Int} (h0 : 0 ≤ a) (h1 : a ≤ 255) (g0 : 0 ≤ b) (g1 : b ≤ 255) (hb : b ≠ 0) : mulI (mulI a b) (raiseI b 254) = a := by
  have h := mul_back (a := a.toNat) (b := b.toNat) (by omega) (by omega) (by omega)
  unfold mulI raiseI
  rw [Int.toNat_natCast, Int.toNat_natCast, show (254 : Int).toNat = 254 from rfl]
  show ((mul (mul a.toNat b.toNat) (inv b.toNat) : Nat) : Int) = a
  rw [h]
  omega
theorem invI_inv {b : Int} (g0 : 0 ≤ b) (g1 : b ≤ 255) : raiseI (raiseI b 254) 254 = b := by
  have h := inv_inv (a := b.toNat) (by omega)
  unfold raiseI
  rw [Int.toNat_natCast, show (254 : Int).toNat = 254 from rfl]
  show ((inv (inv b.toNat) : Nat) : Int) = b
  rw [h]
  omega
theorem invI_zero : raiseI 0 254 = 0 := by
  show ((inv 0 : Nat) : Int) = 0
  rw [inv_zero]
  rfl
theorem mulI_xor (a : Int) {b c : Int} (g0 : 0 ≤ b) (g1 : b ≤ 255) (k0 : 0 ≤ c) (k1 : c ≤ 255) (h0 : 0 ≤ a) (h1 : a ≤ 255) :
    mulI a (bits .xor .u8 b c) = bits .xor .u8 (mulI a b) (mulI a c) := by
  have m := mulI_bd a b h0 h1
  have n := mulI_bd a c h0 h1
  rw [u8_xor b c g0 (by omega) k0 (by omega), u8_xor _ _ m.1 (by omega) n.1 (by omega)]
  unfold mulI
  rw [Int.toNat_natCast, Int.toNat_natCast, Int.toNat_natCast, mul_xor_right]
theorem xorI_bd {b c : Int} (g0 : 0 ≤ b) (g1 : b ≤ 255) (k0 : 0 ≤ c) (k1 : c ≤ 255) : 0 ≤ bits .xor .u8 b c ∧ bits .xor .u8 b c ≤ 255 := by
  rw [u8_xor b c g0 (by omega) k0 (by omega)]
  have := xor_lt (a := b.toNat) (b := c.toNat) (by omega) (by omega)
  omega
end Gf

end Go.Proofs.Ytkifddkkchoaoaa
