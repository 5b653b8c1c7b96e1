/-
  Rows appended to rows, whatever types the two lists bear.
-/
import Derived.Test.YtmlboaejkmffjadRowC
import Derived.Deep.AppendSrc
import Derived.Lib.AppendZeros
namespace Go.Proofs.Ytmlboaejkmffjad
open Go.RowKit

/-- A list with no room behind it, and one that is appended. -/
theorem app_two (W : World) (t tx : TypeId) (ht : Try.prog.underlying t = some (.slice 25)) (htx : Try.prog.underlying tx = some (.slice 25)) (b o n p : Nat) (F : Nat → Value) (b' o' m p' : Nat) (F' : Nat → Value)
    (hF : ∀ r, r < n → W.cell? ⟨b, o + r, none⟩ = some (F r)) (hF' : ∀ r, r < m → W.cell? ⟨b', o' + r, none⟩ = some (F' r)) (h1 : ∀ r, r < m → (F' r).oneCell' = true) (hp : p < n + m) (hn : n + m ≤ 1000) :
    ∃ (C : Array Value) (q : Nat), n + m ≤ q ∧ (∀ r, r < n → C[r]? = some (F r)) ∧ (∀ r, r < m → C[n + r]? = some (F' r)) ∧
      ∀ ty, (Builtin.append_ #[t, tx] ty #[.slice (some ⟨b, o, none⟩) n p, .slice (some ⟨b', o', none⟩) m p']).run Try.prog W = .ok (.slice (some ⟨W.heap.size, 0, none⟩) (n + m) q) (W.drew.alloc (.cells C 25)) := by
  obtain ⟨i, hi, hh⟩ := Option.map_eq_some_iff.1 Try.infoRow
  simp only [Prod.mk.injEq] at hh
  obtain ⟨hz, hs, hb⟩ := hh
  have hsrc : Src Try.prog i.size tx (.slice (some ⟨b', o', none⟩) m p') m ((List.range m).map F') W := by
    refine Src.ofSlice W htx _ m p' _ (by simp [hs]) (fun j u hj => ?_) (fun u hu => ?_)
    · rcases Nat.lt_or_ge j m with h | h
      · simp [h] at hj
        rw [WideShapes.add_plain, hF' j h, ← hj]
      · simp [List.getElem?_eq_none (show ((List.range m).map F').length ≤ j by simpa using h)] at hj
    · obtain ⟨r, hr, rfl⟩ := List.mem_map.1 hu
      exact h1 r (List.mem_range.1 hr)
  have hold : (Builtin.firstCells i.size n (.slice (some ⟨b, o, none⟩) n p)).run Try.prog W.drew = .ok ((List.range n).map F).toArray W.drew :=
    run_firstCells_some W.drew i.size n ⟨b, o, none⟩ n p ((List.range n).map F) (by simp [hs]) (fun j u hj => by
      rcases Nat.lt_or_ge j n with h | h
      · simp [h] at hj
        rw [WideShapes.add_plain, show W.drew.cell? ⟨b, o + j, none⟩ = W.cell? ⟨b, o + j, none⟩ from rfl, hF j h, ← hj]
      · simp [List.getElem?_eq_none (show ((List.range n).map F).length ≤ j by simpa using h)] at hj)
  have hfit := growslice_fits (need := n + m) (old := p) (bytes := i.bytes) (by omega) (by rw [hb]; omega)
  have hrun := fun ty => run_append_grow_src (P := Try.prog) W t tx ty 25 i (.slice none 0 0) ht hi hz (some ⟨b, o, none⟩) n p ((List.range n).map F) hold _ m _ hsrc hp (by omega) (by omega)
  refine ⟨_, _, grownCap_ge W (n + m) p 25, fun r hr => ?_, fun r hr => ?_, hrun⟩
  · rw [Array.getElem?_append_left (by simp; omega)]
    simp [List.getElem?_append_left, hr]
  · rw [Array.getElem?_append_left (by simp; omega)]
    simp [hr]

/-- Nothing appended. -/
theorem app_nil (W : World) (t tx : TypeId) (ht : Try.prog.underlying t = some (.slice 25)) (htx : Try.prog.underlying tx = some (.slice 25)) (b o n p : Nat) (hp : n ≤ p) (ty : TypeId) :
    (Builtin.append_ #[t, tx] ty #[.slice (some ⟨b, o, none⟩) n p, .slice none 0 0]).run Try.prog W = .ok (.slice (some ⟨b, o, none⟩) n p) W := by
  obtain ⟨i, hi, hh⟩ := Option.map_eq_some_iff.1 Try.infoRow
  simp only [Prod.mk.injEq] at hh
  exact run_append_room_src (P := Try.prog) W t tx ty 25 i ht hi b o n p _ 0 [] (Src.ofNil W htx 0) (by omega) (fun j hj => by cases hj) (fun j hj => by cases hj)

end Go.Proofs.Ytmlboaejkmffjad
