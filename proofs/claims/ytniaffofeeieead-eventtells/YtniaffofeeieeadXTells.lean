/-
  The document's own Bytes and Parse, as the walks want them; what is kept while a statement's calls are made.
-/
import Derived.Test.YtniaffofeeieeadXAlive
import Derived.Test.YtniaffofeeieeadERefB
import Derived.Test.YtniaffofeeieeadERefPA
import Derived.Laws.StructEq
namespace Go.Proofs.Ytniaffofeeieead
open Go.RowKit

theorem refBytesL_list (v : Value) (l : List Evt.Bat) (w : World) (h : Bats w v l) :
    Calls Try.prog 13 #[v] w fun e w' => ∃ A C, e = .returned (.tuple #[.slice A (outL l).length C, .agg #[.int .i64 ((Evt.wrongL l).1 : Nat), .int .i64 ((Evt.wrongL l).2 : Nat)]]) ∧ BytL w' (.slice A (outL l).length C) (outL l) ∧ Below w.heap.size w w' := by
  refine (refBytesL_any v l w h).mono ?_
  rintro e w' ⟨v', rfl, hb, hw⟩
  have hy := hb.bytL (outL_bytes l)
  obtain ⟨A, C, rfl⟩ := hy.byts.shape
  exact ⟨A, C, rfl, hy, hw⟩
theorem refParseL_list (v : Value) (N : Nat) (g : Nat → Nat) (w : World) (h : Byts w v N g) :
    Calls Try.prog 15 #[v] w fun e w' => ∃ A C, e = .returned (.tuple #[.slice A (Evt.parse (bl g N)).length C, .int .i64 (Evt.parseE (bl g N) : Nat)]) ∧ Bats w' (.slice A (Evt.parse (bl g N)).length C) (Evt.parse (bl g N)) ∧ Below w.heap.size w w' := by
  refine (refParseL_any v N g w h).mono ?_
  rintro e w' ⟨v', rfl, hb, hw⟩
  obtain ⟨A, C, rfl⟩ := hb.shape
  exact ⟨A, C, rfl, hb, hw⟩
/-- A name, told by one bool. -/
theorem named_is (s : ByteArray) (w : World) (hs : s.size ≤ 9223372036854775807) (y : Bool) (hy : y = true ↔ Evt.named (nb s)) : Calls Try.prog 6 #[.string s] w fun e w' => e = .returned (.bool y) ∧ w' = w := by
  refine (named_any s w hs).mono ?_
  rintro e w' ⟨⟨z, rfl, hz⟩, rfl⟩
  have : z = y := by
    rw [Bool.eq_iff_iff, hz, hy]
  rw [this]
  exact ⟨rfl, rfl⟩
theorem refNamed_is (s : ByteArray) (w : World) (hs : s.size ≤ 9223372036854775807) (y : Bool) (hy : y = true ↔ Evt.named (nb s)) : Calls Try.prog 7 #[.string s] w fun e w' => e = .returned (.bool y) ∧ Below w.heap.size w w' := by
  refine (refNamed_any s w hs).mono ?_
  rintro e w' ⟨⟨z, rfl, hz⟩, hb⟩
  have : z = y := by
    rw [Bool.eq_iff_iff, hz, hy]
  rw [this]
  exact ⟨rfl, hb⟩
theorem keepE {w0 wX w3 : World} {p : Nat} {a b c : Value} (b3 : Below wX.heap.size wX w3) (h : wX.cell? ⟨p, 0, none⟩ = some a ∧ wX.cell? ⟨p, 1, none⟩ = some b ∧ wX.cell? ⟨p, 2, none⟩ = some c ∧ Below w0.heap.size w0 wX) :
    w3.cell? ⟨p, 0, none⟩ = some a ∧ w3.cell? ⟨p, 1, none⟩ = some b ∧ w3.cell? ⟨p, 2, none⟩ = some c ∧ Below w0.heap.size w0 w3 := by
  have hp : p < wX.heap.size := World.block_lt_of_cell? _ _ h.1
  exact ⟨(b3.cell (p := ⟨p, 0, none⟩) hp).trans h.1, (b3.cell (p := ⟨p, 1, none⟩) hp).trans h.2.1, (b3.cell (p := ⟨p, 2, none⟩) hp).trans h.2.2.1, bt h.2.2.2 b3⟩
theorem keepF {w0 wX w3 : World} {p : Nat} {a b : Value} (b3 : Below wX.heap.size wX w3) (h : wX.cell? ⟨p, 0, none⟩ = some a ∧ wX.cell? ⟨p, 1, none⟩ = some b ∧ Below w0.heap.size w0 wX) :
    w3.cell? ⟨p, 0, none⟩ = some a ∧ w3.cell? ⟨p, 1, none⟩ = some b ∧ Below w0.heap.size w0 w3 := by
  have hp : p < wX.heap.size := World.block_lt_of_cell? _ _ h.1
  exact ⟨(b3.cell (p := ⟨p, 0, none⟩) hp).trans h.1, (b3.cell (p := ⟨p, 1, none⟩) hp).trans h.2.1, bt h.2.2 b3⟩

end Go.Proofs.Ytniaffofeeieead
