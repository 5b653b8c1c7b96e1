/-
  What is told beside a number.
-/
import Derived.Test.YtmlboaejkmffjadOpen
namespace Go.Proofs.Ytmlboaejkmffjad
open Go.RowKit

/-- What is told beside a number: a matrix beside 0, else none. -/
def Out (w : World) (E : Nat) (v : Value) (n c : Nat) (f : Nat → Nat → Nat) : Prop := (E = 0 ∧ Mx w v n c f) ∨ ((E ≠ 0 ∨ n = 0) ∧ v = .slice none 0 0)
theorem Out.below {w w' : World} {E : Nat} {v : Value} {n c : Nat} {f : Nat → Nat → Nat} (h : Out w E v n c f) (hb : Below w.heap.size w w') : Out w' E v n c f := h.imp (fun h => ⟨h.1, h.2.below hb⟩) id
theorem sameO (v v' : Value) (E n c : Nat) (f g : Nat → Nat → Nat) (w : World) (hx : Out w E v n c f) (hy : Out w E v' n c g) (he : E = 0 → ∀ r, r < n → ∀ k, k < c → f r k = g r k) :
    Calls Try.prog 23 #[v, v'] w fun e w' => e = .returned (.bool true) ∧ Below w.heap.size w w' := by
  rcases hx with ⟨h1, hx⟩ | ⟨h1, rfl⟩
  · rcases hy with ⟨h2, hy⟩ | ⟨h2, rfl⟩
    · exact same_any v v' n c f g w hx hy (he h1)
    · have := hx.dim
      omega
  · rcases hy with ⟨h2, hy⟩ | ⟨h2, rfl⟩
    · have := hy.dim
      omega
    · exact same_none w

end Go.Proofs.Ytmlboaejkmffjad
