/-
  A matrix that came in, as the walks want it.
-/
import Derived.Test.YtmlboaejkmffjadSame
import Derived.Deep.Matrix
import Derived.ProofKit
import Derived.OpenShut
import Derived.Carry
namespace Go.Proofs.Ytmlboaejkmffjad
open Go.ChangeShapes Go.WideShapes Go.ChangeAt Go.RowKit


theorem arg_of {H : Type} {enc : TypeId × Value → H} {W : World} {a : Option Addr} {len cap : Nat} {d : DataW H} {ps : List MemPlace} (h : DataW.Trod enc Try.prog W 0 (fun _ => true) true 91 (.slice a len cap) d ps) :
    ∃ L f, Arg W (.slice a len cap) len L f := by
  obtain ⟨fuel, hf⟩ := h
  rcases Deep.open_int_rows Try.underlying91 Try.underlying25 Try.underlying5 (by kernel_rfl) (by kernel_rfl) hf with ⟨hcs, _⟩ | ⟨x, l, c, A, L, C, Z, hcs, _, hl, _, _, hrow⟩
  · simp [Value.cells] at hcs
    obtain ⟨rfl, rfl, rfl⟩ := hcs
    exact ⟨fun _ => 0, fun _ _ => 0, fun _ _ => Nat.zero_lt_succ 255, none, 0, fun _ => none, fun _ => 0, rfl, fun r hr => absurd hr (Nat.not_lt_zero r)⟩
  · simp [Value.cells] at hcs
    obtain ⟨rfl, rfl, rfl⟩ := hcs
    have hz : ∀ r, r < cap → ∀ k, k < C r → ∃ m : Nat, m < 256 ∧ (Z r).getD k 0 = (m : Int) := fun r hr k hk => by
      obtain ⟨_, _, _, z4, z5, _, _⟩ := hrow r hr
      have hm : (Z r).getD k 0 ∈ Z r := by
        have : k < (Z r).length := by omega
        simp [List.getD, this]
      obtain ⟨b0, b1⟩ := bounds_u8 (z5 _ hm)
      exact ⟨((Z r).getD k 0).toNat, by omega, by omega⟩
    refine ⟨L, fun r k => if r < cap ∧ k < C r then ((Z r).getD k 0).toNat else 0, fun r k => ?_, some x, cap, A, C, rfl, fun r hr => ?_⟩
    · show (if r < cap ∧ k < C r then ((Z r).getD k 0).toNat else 0) < 256
      split
      · rename_i h
        obtain ⟨m, hm, e⟩ := hz r h.1 k h.2
        rw [e]
        omega
      · omega
    · obtain ⟨z1, z2, _, _, _, _, z7⟩ := hrow r (by omega)
      obtain ⟨b, o, spot⟩ := x
      have hspot : spot = none := by simpa [Addr.add] using World.cell?_spot (hrow 0 (by omega)).1
      subst hspot
      refine ⟨b, o, rfl, ?_, fun k hk => ?_⟩
      · rw [← WideShapes.add_plain]
        exact z1
      · cases hA : A r with
        | none =>
          have := (hrow r (by omega)).2.2.2.2.2.1 hA
          omega
        | some y =>
          obtain ⟨_, y2⟩ := z7 y hA
          obtain ⟨b', o', sp⟩ := y
          have hs : sp = none := by simpa [Addr.add] using World.cell?_spot (y2 0 (by omega))
          subst hs
          refine ⟨b', o', rfl, ?_⟩
          rw [← WideShapes.add_plain, y2 k (by omega)]
          obtain ⟨m, _, e⟩ := hz r (by omega) k (by omega)
          rw [if_pos ⟨by omega, by omega⟩, e]
          rfl

end Go.Proofs.Ytmlboaejkmffjad
