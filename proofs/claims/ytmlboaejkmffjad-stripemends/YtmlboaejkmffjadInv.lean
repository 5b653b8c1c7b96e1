/-
  What field.Inv does, call by call.
-/
import Derived.Test.YtmlboaejkmffjadSq
namespace Go.Proofs.Ytmlboaejkmffjad
open Go.RowKit

set_option maxHeartbeats 400000 in
theorem inv_any (a : Int) (w : World) (h0 : 0 ≤ a) (h1 : a ≤ 255) :
    Calls Try.prog 99 #[.int .u8 a] w fun e w' => e = .returned (.int .u8 (Gf.raiseI a 254)) ∧ Below w.heap.size w w' := by
  go_enter Try.func99, Try.ntmps99
  go_wp2_with fail
  refine (raise_any _ _ _ h0 h1 (by decide) (by decide)).mono ?_
  rintro e w1 ⟨rfl, hb⟩
  go_wp2_with fail
  go_ret
  exact ⟨rfl, hb⟩

end Go.Proofs.Ytmlboaejkmffjad
