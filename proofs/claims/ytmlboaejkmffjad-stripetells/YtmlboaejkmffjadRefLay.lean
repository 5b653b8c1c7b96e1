/-
  Small words for the walks of the document's own texts.
-/
import Derived.Test.YtmlboaejkmffjadRefMat
namespace Go.Proofs.Ytmlboaejkmffjad
open Go.RowKit

theorem refMul_same (a b : Nat) (w : World) (ha : a < 256) (hb : b < 256) :
    Calls Try.prog 66 #[.int .u8 (a : Int), .int .u8 (b : Int)] w fun e w' => e = .returned (.int .u8 ((Gf.mul a b : Nat) : Int)) ∧ w' = w :=
  (refMul_nat a b w ha hb).mono fun _ _ ⟨h1, h2⟩ => ⟨h1, h2.symm⟩

/-- The bytes of a row so far. -/
def rowTo (f : Nat → Nat) (j : Nat) : List Value := (List.range j).map fun l => .int .u8 (f l : Nat)
theorem rowTo_succ (f : Nat → Nat) (j : Nat) : rowTo f j ++ [.int .u8 (f j : Nat)] = rowTo f (j + 1) := by
  unfold rowTo
  rw [List.range_succ, List.map_append]
  rfl
theorem cell_new {w : World} {t : TypeId} {x : Value} : ∀ j u, [x][j]? = some u → (w.alloc (.cells #[x] t)).cell? ((⟨w.heap.size, 0, none⟩ : Addr).add j) = some u := by
  intro j u hj
  match j, hj with
  | 0, hj =>
    simp at hj
    subst hj
    simp [Addr.add]
  | j + 1, hj => simp at hj

end Go.Proofs.Ytmlboaejkmffjad
