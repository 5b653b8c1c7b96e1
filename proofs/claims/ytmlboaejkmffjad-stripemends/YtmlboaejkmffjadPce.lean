/-
  Bytes that lie in rows of the call's own, and lists of such that are appended to.
-/
import Derived.Test.YtmlboaejkmffjadSHurt
namespace Go.Proofs.Ytmlboaejkmffjad
open Go.RowKit

theorem byts_of_block {w w' : World} {g o n cap : Nat} {f : Nat → Nat} (h : Byts w (.slice (some ⟨g, o, none⟩) n cap) n f) (e : w'.heap[g]? = w.heap[g]?) : Byts w' (.slice (some ⟨g, o, none⟩) n cap) n f := by
  obtain ⟨bd, A, C, hv, h1, h2, hc⟩ := h
  refine ⟨bd, A, C, hv, h1, h2, fun k hk => ?_⟩
  obtain ⟨b', o', e1, e2⟩ := hc k hk
  cases hv
  cases e1
  exact ⟨g, o, rfl, (World.cell?_of_block (a := ⟨g, o + k, none⟩) e).trans e2⟩
theorem byts_zero {w w' : World} {v : Value} {f : Nat → Nat} (h : Byts w v 0 f) : Byts w' v 0 f := by
  obtain ⟨bd, A, C, hv, h1, h2, _⟩ := h
  exact ⟨bd, A, C, hv, h1, h2, fun k hk => absurd hk (Nat.not_lt_zero k)⟩

/-- Bytes that lie in a row of bytes of the call's own; or none. -/
structure Pce (w : World) (N : Nat) (v : Value) (n : Nat) (f : Nat → Nat) : Prop where
  byts : Byts w v n f
  own : n = 0 ∨ ∃ g o cap m F, v = .slice (some ⟨g, o, none⟩) n cap ∧ N ≤ g ∧ RowC w g 5 m F
theorem Pce.of_block {w w' : World} {N n : Nat} {v : Value} {f : Nat → Nat} (h : Pce w N v n f) (hb : ∀ g m F, N ≤ g → RowC w g 5 m F → w'.heap[g]? = w.heap[g]?) : Pce w' N v n f := by
  rcases h.own with rfl | ⟨g, o, cap, m, F, rfl, hg, hr⟩
  · exact ⟨byts_zero h.byts, Or.inl rfl⟩
  · exact ⟨byts_of_block h.byts (hb g m F hg hr), Or.inr ⟨g, o, cap, m, F, rfl, hg, hr.of_block (hb g m F hg hr)⟩⟩
theorem Pce.below {w w' : World} {N n : Nat} {v : Value} {f : Nat → Nat} (h : Pce w N v n f) (hb : Below w.heap.size w w') : Pce w' N v n f := h.of_block (fun g _ _ _ hr => hb.block g hr.lt)
theorem Pce.kept {w w' : World} {N n M k : Nat} {v y : Value} {t : TypeId} {xs : List Value} {f : Nat → Nat} (h : Pce w N v n f) (ht : 5 ≠ t) (ho : w.ownsRow M t 1 y k xs) (hg : w.grownBy w' y.ownBlock) : Pce w' N v n f :=
  h.of_block (fun g m F _ hr => hg.block g hr.lt (fun e => by
    obtain ⟨F2, h2⟩ := owns_block ho e.symm
    exact hr.ne h2 ht rfl))
theorem Pce.lower {w : World} {N M n : Nat} {v : Value} {f : Nat → Nat} (h : Pce w N v n f) (hM : M ≤ N) : Pce w M v n f :=
  ⟨h.byts, h.own.imp id (fun ⟨g, o, cap, m, F, e, hg, hr⟩ => ⟨g, o, cap, m, F, e, Nat.le_trans hM hg, hr⟩)⟩
theorem Pce.nil (w : World) (N : Nat) {f : Nat → Nat} (hf : Bd f) : Pce w N (.slice none 0 0) 0 f := ⟨Byts.none w hf, Or.inl rfl⟩
theorem Made.pce {w : World} {N n : Nat} {v : Value} {f : Nat → Nat} (h : Made w N v n f) (hf : Bd f) : Pce w N v n f := by
  refine ⟨h.byts hf, ?_⟩
  obtain ⟨g, cap, rfl, hg, _, _, hr⟩ := h
  exact Or.inr ⟨g, 0, cap, _, _, rfl, hg, hr⟩

/-- A list of such that is appended to. -/
structure Pcs (w : World) (N : Nat) (v : Value) (k : Nat) (U : Nat → Value) (L : Nat → Nat) (f : Nat → Nat → Nat) : Prop where
  own : w.ownsRow N 25 1 v k ((List.range k).map U)
  row : ∀ i, i < k → Pce w N (U i) (L i) (f i)
theorem Pcs.below {w w' : World} {N k : Nat} {v : Value} {U : Nat → Value} {L : Nat → Nat} {f : Nat → Nat → Nat} (h : Pcs w N v k U L f) (hb : Below w.heap.size w w') : Pcs w' N v k U L f :=
  ⟨owns_below h.own hb, fun i hi => (h.row i hi).below hb⟩
theorem Pcs.start (w : World) (N : Nat) (U : Nat → Value) (L : Nat → Nat) (f : Nat → Nat → Nat) : Pcs w N (.slice none 0 0) 0 U L f :=
  ⟨World.ownsRow_nil w N _ 1, fun i hi => absurd hi (Nat.not_lt_zero i)⟩
theorem Pcs.step {w w' : World} {N k : Nat} {v v' u : Value} {U : Nat → Value} {L : Nat → Nat} {f : Nat → Nat → Nat} (h : Pcs w N v k U L f) (hr : Pce w N u (L k) (f k))
    (ho : w'.ownsRow N 25 1 v' (k + 1) ((List.range k).map U ++ [u])) (hg : w.grownBy w' v.ownBlock) : Pcs w' N v' (k + 1) (updV U k u) L f := by
  refine ⟨by rw [range_upd]; exact ho, fun i hi => ?_⟩
  by_cases e : i = k
  · rw [e, updV_at]
    exact hr.kept (by decide) h.own hg
  · rw [updV_ne _ _ e]
    exact (h.row i (by omega)).kept (by decide) h.own hg
theorem Pcs.lls {w : World} {N k : Nat} {v : Value} {U : Nat → Value} {L : Nat → Nat} {f : Nat → Nat → Nat} (h : Pcs w N v k U L f) (bd : Gf.Bd2 f) : Lls w v k L f := by
  rcases h.own.2 with ⟨rfl, h0⟩ | ⟨g, cap, cur, rfl, _, _, h1, h2, _, _⟩
  · subst h0
    exact ⟨bd, none, 0, rfl, Nat.le_refl _, Nat.zero_le _, fun r hr => absurd hr (Nat.not_lt_zero r)⟩
  · refine ⟨bd, some ⟨g, 0, none⟩, cap, rfl, h1, h2, fun r hr => ⟨g, 0, U r, rfl, ?_, (h.row r hr).byts⟩⟩
    have := h.own.cells (g := g) rfl r (U r) (by simp [hr])
    rw [WideShapes.add_plain] at this
    exact this
/-- Another list of the call's own grows. -/
theorem Pcs.kept {w w' : World} {N k M m : Nat} {v y : Value} {t : TypeId} {xs : List Value} {U : Nat → Value} {L : Nat → Nat} {f : Nat → Nat → Nat} (h : Pcs w N v k U L f) (ht : 5 ≠ t) (ht2 : 25 ≠ t) (ho : w.ownsRow M t 1 y m xs) (hg : w.grownBy w' y.ownBlock) : Pcs w' N v k U L f := by
  refine ⟨h.own.kept hg ?_, fun i hi => (h.row i hi).kept ht ho hg⟩
  cases hv : v.ownBlock with
  | none => exact Or.inl rfl
  | some x =>
    refine Or.inr (fun e => ?_)
    obtain ⟨F1, h1⟩ := owns_block h.own hv
    obtain ⟨F2, h2⟩ := owns_block ho e.symm
    exact h1.ne h2 ht2 rfl
theorem Nums.kept {w w' : World} {N M m : Nat} {v y : Value} {t : TypeId} {xs : List Value} {l : List Nat} (h : Nums w N v l) (ht : 3 ≠ t) (ho : w.ownsRow M t 1 y m xs) (hg : w.grownBy w' y.ownBlock) : Nums w' N v l := by
  refine World.ownsRow.kept h hg ?_
  cases hv : v.ownBlock with
  | none => exact Or.inl rfl
  | some x =>
    refine Or.inr (fun e => ?_)
    obtain ⟨F1, h1⟩ := owns_block h hv
    obtain ⟨F2, h2⟩ := owns_block ho e.symm
    exact h1.ne h2 ht rfl

end Go.Proofs.Ytmlboaejkmffjad
