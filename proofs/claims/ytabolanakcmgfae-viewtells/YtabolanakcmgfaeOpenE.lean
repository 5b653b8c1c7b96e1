/-
  Lists of batches, and an event, that came in, as the walks want them.
-/
import Derived.Test.YtabolanakcmgfaeEBuf
import Derived.Deep.SlicePairs
import Derived.Deep.Strs
namespace Go.Proofs.Ytabolanakcmgfae
open Go.ChangeShapes Go.WideShapes Go.ChangeAt Go.RowKit

theorem str_of {H : Type} {enc : TypeId × Value → H} {W : World} {base : Nat} {sp : Nat → Bool} {hd : Bool} {v : Value} {y : DataW H × List MemPlace} {fuel : Nat} (h : DataW.trod enc Try.prog W base sp hd fuel 9 [v] = some y) : ∃ s : ByteArray, v = .string s ∧ s.size ≤ maxLen := by
  obtain ⟨s, e, _, hs⟩ := DataW.trod_string Try.underlying9 h
  simp only [List.cons.injEq, and_true] at e
  exact ⟨s, e, hs⟩
theorem int_of {H : Type} {enc : TypeId × Value → H} {W : World} {base : Nat} {sp : Nat → Bool} {hd : Bool} {v : Value} {y : DataW H × List MemPlace} {fuel : Nat} (h : DataW.trod enc Try.prog W base sp hd fuel 3 [v] = some y) : ∃ n, v = .int .i64 n := by
  obtain ⟨n, e, _, _⟩ := DataW.trod_int Try.underlying3 h
  simp only [List.cons.injEq, and_true] at e
  exact ⟨n, e⟩

set_option maxRecDepth 100000 in
theorem evs_in {H : Type} {enc : TypeId × Value → H} {W : World} {v : Value} {y : DataW H × List MemPlace} {fuel : Nat} (hf : DataW.trod enc Try.prog W 0 (fun _ => true) true fuel 34 [v] = some y) : ∃ es, Evs W v es := by
  have ce : Try.prog.cellsOf 42 = 3 := by kernel_rfl
  rcases Deep.open_slice Try.underlying34 hf with ⟨hcs, _⟩ | ⟨a, len, cap, m, n, D, Pl, hcs, _, hl, hm, hmm, _, hx⟩
  · simp only [List.cons.injEq, and_true] at hcs
    subst hcs
    exact ⟨[], none, 0, rfl, Nat.le_refl _, Nat.zero_le _, fun i e he => by cases he⟩
  · simp only [List.cons.injEq, and_true] at hcs
    subst hcs
    simp only [if_true] at hmm
    subst hmm
    have each : ∀ i, i < m → ∃ q : ByteArray × Int × Int, q.1.size ≤ maxLen ∧ W.cell? (a.add (i * 3)) = some (.string q.1) ∧ W.cell? (a.add (i * 3 + 1)) = some (.int .i64 q.2.1) ∧ W.cell? (a.add (i * 3 + 2)) = some (.int .i64 q.2.2) := by
      intro i hi
      obtain ⟨cs', h1, h2⟩ := hx i hi
      rw [ce] at h1
      obtain ⟨_, hlen, hcell⟩ := World.cells?_some h1
      obtain ⟨y0, y1, y2, k, _, _, g0, g1, g2⟩ := Deep.trod_struct3 Try.underlying42 h2
      match cs', hlen with
      | [v0, v1, v2], _ =>
        have e0 := hcell 0 (by omega)
        have e1 := hcell 1 (by omega)
        have e2 := hcell 2 (by omega)
        rw [Deep.add_add] at e0 e1 e2
        have c3 : Try.prog.cellsOf 3 = 1 := by kernel_rfl
        have c9 : Try.prog.cellsOf 9 = 1 := by kernel_rfl
        simp [c3, c9] at g0 g1 g2
        obtain ⟨s, rfl, hs⟩ := str_of g0
        obtain ⟨k1, rfl⟩ := int_of g1
        obtain ⟨k2, rfl⟩ := int_of g2
        exact ⟨(s, k1, k2), hs, by simpa using e0, by simpa using e1, by simpa using e2⟩
    obtain ⟨q, hq⟩ := Deep.choose_lt each
    refine ⟨(List.range len).map fun i => ⟨nb (q i).1, (q i).2.1, (q i).2.2⟩, some a, m, by simp, by simpa using hl, hm, fun i e he => ?_⟩
    have hi : i < len := by
      have := (List.getElem?_eq_some_iff.1 he).1
      simpa using this
    simp [hi] at he
    subst he
    obtain ⟨b, o, spot⟩ := a
    obtain ⟨z0, z1, z2, z3⟩ := hq i (by omega)
    have hspot : spot = none := by simpa [Addr.add] using World.cell?_spot (hq 0 (by omega)).2.1
    subst hspot
    rw [WideShapes.add_plain] at z1 z2 z3
    exact ⟨b, o, rfl, (q i).1, z0, rfl, z1, z2, z3⟩

theorem evs_of {H : Type} {enc : TypeId × Value → H} {W : World} {a : Option Addr} {len cap : Nat} {d : DataW H} {ps : List MemPlace} (h : DataW.Trod enc Try.prog W 0 (fun _ => true) true 34 (.slice a len cap) d ps) : ∃ l, Evs W (.slice a len cap) l := by
  obtain ⟨fuel, hf⟩ := h
  exact evs_in (fuel := fuel) (y := (d, ps)) (by simpa [Value.cells] using hf)
theorem Try.cellsEvent : Try.prog.cellsOf 42 = 3 := by kernel_rfl
set_option maxRecDepth 100000 in
theorem ev_of {H : Type} {enc : TypeId × Value → H} {W : World} {r : Reach} {b0 : Nat} {v : Value} {d : DataW H} {ps : List MemPlace} (hv : Value.okWide Try.prog W r b0 42 v) (h : DataW.Trod enc Try.prog W 0 (fun _ => true) true 42 v d ps) :
    ∃ s k m, v = .agg #[.string s, .int .i64 k, .int .i64 m] ∧ s.size ≤ maxLen := by
  obtain ⟨v0, v1, v2, y0, y1, y2, m, rfl, _, _, t0, t1, t2⟩ := Joins.open_agg3 Try.underlying42 (by kernel_rfl) Try.cellsEvent hv h
  obtain ⟨s, rfl, hs⟩ := str_of t0
  obtain ⟨k, rfl⟩ := int_of t1
  obtain ⟨n, rfl⟩ := int_of t2
  exact ⟨s, k, n, rfl, hs⟩

end Go.Proofs.Ytabolanakcmgfae
