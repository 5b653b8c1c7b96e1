/-
  A block as a value.
-/
import Derived.Test.YtmlboaejkmffjadBRest
namespace Go.Proofs.Ytmlboaejkmffjad
open Go.RowKit

/-- A block as a value: three numbers and n bytes. -/
def Blk (w : World) (v : Value) (s h z : Int) (n : Nat) (f : Nat → Nat) : Prop := ∃ d, v = .agg #[.int .i64 s, .int .i64 h, .int .i64 z, d] ∧ Byts w d n f
theorem Blk.below {w w' : World} {v : Value} {s h z : Int} {n : Nat} {f : Nat → Nat} (k : Blk w v s h z n f) (hb : Below w.heap.size w w') : Blk w' v s h z n f := by
  obtain ⟨d, hv, hd⟩ := k
  exact ⟨d, hv, hd.below hb⟩

end Go.Proofs.Ytmlboaejkmffjad
