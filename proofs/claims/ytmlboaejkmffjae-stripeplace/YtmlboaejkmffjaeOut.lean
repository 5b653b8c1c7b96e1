/-
  What is told beside a number.
-/
import Derived.Test.YtmlboaejkmffjaeOpen
namespace Go.Proofs.Ytmlboaejkmffjae
open Go.RowKit

/-- What is told beside a number: a matrix beside 0, else none. -/
def Out (w : World) (E : Nat) (v : Value) (n c : Nat) (f : Nat → Nat → Nat) : Prop := (E = 0 ∧ Mx w v n c f) ∨ ((E ≠ 0 ∨ n = 0) ∧ v = .slice none 0 0)
theorem Out.below {w w' : World} {E : Nat} {v : Value} {n c : Nat} {f : Nat → Nat → Nat} (h : Out w E v n c f) (hb : Below w.heap.size w w') : Out w' E v n c f := h.imp (fun h => ⟨h.1, h.2.below hb⟩) id
end Go.Proofs.Ytmlboaejkmffjae
