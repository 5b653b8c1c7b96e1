/-
  A block that came in by value, as the walks want it.
-/
import Derived.Test.YtfddjmkbejjhdacBAlive
namespace Go.Proofs.Ytfddjmkbejjhdac
open Go.ChangeShapes Go.WideShapes Go.ChangeAt Go.RowKit

theorem byts_in {H : Type} {enc : TypeId × Value → H} {W : World} {v : Value} {y : DataW H × List MemPlace} {fuel : Nat} (hf : DataW.trod enc Try.prog W 0 (fun _ => true) true fuel 24 [v] = some y) :
    ∃ n f, Byts W v n f := by
  have hf' : DataW.trod enc Try.prog W 0 (fun _ => true) true fuel 24 [v] = some (y.1, y.2) := hf
  rcases ChangeShapes.open_ints Try.underlying24 Try.underlying5 (by kernel_rfl) hf with ⟨hcs, _⟩ | ⟨x, l, c, zs, hcs, _⟩
  · simp only [List.cons.injEq, and_true] at hcs
    subst hcs
    exact ⟨0, byts_of hf'⟩
  · simp only [List.cons.injEq, and_true] at hcs
    subst hcs
    exact ⟨l, byts_of hf'⟩
theorem Try.cellsBlock : Try.prog.cellsOf 39 = 4 := by kernel_rfl

theorem blk_of {H : Type} {enc : TypeId × Value → H} {W : World} {r : Reach} {b0 : Nat} {v : Value} {d : DataW H} {ps : List MemPlace} (hv : Value.okWide Try.prog W r b0 39 v) (h : DataW.Trod enc Try.prog W 0 (fun _ => true) true 39 v d ps) :
    ∃ s h z n f, Blk W v s h z n f := by
  obtain ⟨v0, v1, v2, v3, y0, y1, y2, y3, m, rfl, _, _, t0, t1, t2, t3⟩ := Joins.open_agg4 Try.underlying39 (by kernel_rfl) Try.cellsBlock hv h
  obtain ⟨a, e0, _, _⟩ := DataW.trod_int Try.underlying3 t0
  obtain ⟨b, e1, _, _⟩ := DataW.trod_int Try.underlying3 t1
  obtain ⟨c, e2, _, _⟩ := DataW.trod_int Try.underlying3 t2
  obtain ⟨n, f, hy⟩ := byts_in t3
  simp only [List.cons.injEq, and_true] at e0 e1 e2
  subst e0 e1 e2
  exact ⟨a, b, c, n, f, v3, rfl, hy⟩
theorem byt_of {H : Type} {enc : TypeId × Value → H} {W : World} {a : Option Addr} {len cap : Nat} {d : DataW H} {ps : List MemPlace} (h : DataW.Trod enc Try.prog W 0 (fun _ => true) true 24 (.slice a len cap) d ps) :
    ∃ f, Byts W (.slice a len cap) len f := by
  obtain ⟨fuel, hf⟩ := h
  exact byts_of (fuel := fuel) (by simpa [Value.cells] using hf)

end Go.Proofs.Ytfddjmkbejjhdac
