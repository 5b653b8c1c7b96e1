/-
  A list of numbers that came in, as the walks want it.
-/
import Derived.Test.YtbidimaljeblgacOpen
import Derived.ChangeSlices
namespace Go.Proofs.Ytbidimaljeblgac
open Go.ChangeShapes Go.WideShapes Go.ChangeAt Go.RowKit

/-- A list of n numbers. -/
structure Ints (w : World) (v : Value) (n : Nat) (Z : Nat → Int) : Prop where
  lies : ∃ (A : Option Addr) (cap : Nat), v = .slice A n cap ∧ ∀ i, i < n → ∃ b o, A = some ⟨b, o, none⟩ ∧ w.cell? ⟨b, o + i, none⟩ = some (.int .i64 (Z i))

theorem ints_of {H : Type} {enc : TypeId × Value → H} {W : World} {a : Option Addr} {len cap : Nat} {d : DataW H} {ps : List MemPlace} (h : DataW.Trod enc Try.prog W 0 (fun _ => true) true 31 (.slice a len cap) d ps) :
    ∃ Z, Ints W (.slice a len cap) len Z ∧ len ≤ cap ∧ cap ≤ maxLen := by
  obtain ⟨fuel, hf⟩ := h
  rcases ChangeShapes.open_ints Try.underlying31 Try.underlying3 (by kernel_rfl) hf with ⟨hcs, _⟩ | ⟨x, l, c, zs, hcs, _, hl, hm, hz, _, hcell, _⟩
  · simp [Value.cells] at hcs
    obtain ⟨rfl, rfl, rfl⟩ := hcs
    exact ⟨fun _ => 0, ⟨none, 0, rfl, fun i hi => absurd hi (Nat.not_lt_zero i)⟩, Nat.le_refl _, Nat.zero_le _⟩
  · simp [Value.cells] at hcs
    obtain ⟨rfl, rfl, rfl⟩ := hcs
    simp only [if_true] at hz
    refine ⟨fun i => zs.getD i 0, ⟨some x, cap, rfl, fun i hi => ?_⟩, hl, hm⟩
    obtain ⟨b, o, spot⟩ := x
    have hspot : spot = none := by simpa [Addr.add] using World.cell?_spot (hcell 0 (by omega))
    subst hspot
    refine ⟨b, o, rfl, ?_⟩
    rw [← WideShapes.add_plain]
    exact hcell i (by omega)

end Go.Proofs.Ytbidimaljeblgac
