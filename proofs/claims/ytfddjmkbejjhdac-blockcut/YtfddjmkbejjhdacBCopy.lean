/-
  Bytes copied over noughts.
-/
import Derived.Test.YtfddjmkbejjhdacOpenB
import Derived.Laws.CopyOwn
namespace Go.Proofs.Ytfddjmkbejjhdac
open Go.RowKit

/-- As many of F as there is room for, noughts behind them. -/
def over (F : Nat → Nat) (n m k : Nat) : Nat := if k < Nat.min n m then F k else 0
theorem over_bd {F : Nat → Nat} (hF : Bd F) (n m : Nat) : Bd (over F n m) := fun k => by
  unfold over
  split
  · exact hF k
  · decide
theorem row_over {w : World} {g n m : Nat} {F : Nat → Nat} (h : w.heap[g]? = some (.cells (splice (madeCells #[.int .u8 0] m).toList 0 (cellsOf F (Nat.min n m))).toArray 5 (0, 0))) : RowC w g 5 m (fun j => .int .u8 (over F n m j : Nat)) := by
  have hl : (cellsOf F (Nat.min n m)).length = Nat.min n m := by simp [cellsOf]
  have hml : (madeCells #[Value.int .u8 0] m).toList.length = m := by simp [madeCells]
  have hmin : Nat.min n m ≤ m := Nat.min_le_right n m
  refine rowC_of ⟨_, h, ?_, fun i hi => ?_⟩
  · rw [List.size_toArray, length_splice _ _ _ (by rw [hl, hml]; omega), hml]
  · have hi : i < m := hi
    simp only [List.getElem?_toArray, splice, List.take_zero, List.nil_append, Nat.zero_add]
    unfold over
    by_cases hlt : i < Nat.min n m
    · rw [if_pos hlt, List.getElem?_append_left (by rw [hl]; exact hlt)]
      simp [cellsOf, hlt]
    · rw [if_neg hlt, List.getElem?_append_right (by rw [hl]; omega), List.getElem?_drop, hl, show Nat.min n m + (i - Nat.min n m) = i by omega]
      simp [madeCells, hi, Nat.mod_one]

end Go.Proofs.Ytfddjmkbejjhdac
