/-
  Lists of events and of batches as they lie in memory.
-/
import Derived.Test.YtabolanakcmgfaeEWrong
namespace Go.Proofs.Ytabolanakcmgfae
open Go.RowKit

/-- An event lies at (b, o). -/
def EvIn (w : World) (b o : Nat) (e : Evt.Ev) : Prop := ∃ s : ByteArray, s.size ≤ 9223372036854775807 ∧ nb s = e.name ∧ w.cell? ⟨b, o, none⟩ = some (.string s) ∧ w.cell? ⟨b, o + 1, none⟩ = some (.int .i64 e.kind) ∧ w.cell? ⟨b, o + 2, none⟩ = some (.int .i64 e.num)
theorem EvIn.below {w w' : World} {b o : Nat} {e : Evt.Ev} (h : EvIn w b o e) (hb : Below w.heap.size w w') : EvIn w' b o e := by
  obtain ⟨s, h1, h2, c0, c1, c2⟩ := h
  have hp : b < w.heap.size := World.block_lt_of_cell? _ _ c0
  exact ⟨s, h1, h2, (hb.cell (p := ⟨b, o, none⟩) hp).trans c0, (hb.cell (p := ⟨b, o + 1, none⟩) hp).trans c1, (hb.cell (p := ⟨b, o + 2, none⟩) hp).trans c2⟩
/-- A list of events. -/
def Evs (w : World) (v : Value) (es : List Evt.Ev) : Prop := ∃ A cap, v = .slice A es.length cap ∧ es.length ≤ cap ∧ cap ≤ maxLen ∧ ∀ i e, es[i]? = some e → ∃ b o, A = some ⟨b, o, none⟩ ∧ EvIn w b (o + i * 3) e
theorem Evs.below {w w' : World} {v : Value} {es : List Evt.Ev} (h : Evs w v es) (hb : Below w.heap.size w w') : Evs w' v es := by
  obtain ⟨A, cap, hv, h1, h2, h3⟩ := h
  refine ⟨A, cap, hv, h1, h2, fun i e he => ?_⟩
  obtain ⟨b, o, hA, hi⟩ := h3 i e he
  exact ⟨b, o, hA, hi.below hb⟩
theorem Evs.some {w : World} {v : Value} {es : List Evt.Ev} (h : Evs w v es) (hn : 1 ≤ es.length) : ∃ b o cap, v = .slice (some ⟨b, o, none⟩) es.length cap ∧ es.length ≤ cap ∧ cap ≤ 9223372036854775807 ∧ ∀ i e, es[i]? = some e → EvIn w b (o + i * 3) e := by
  obtain ⟨A, cap, hv, h1, h2, h3⟩ := h
  obtain ⟨b, o, rfl, _⟩ := h3 0 es[0] (List.getElem?_eq_getElem hn)
  refine ⟨b, o, cap, hv, h1, h2, fun i e he => ?_⟩
  obtain ⟨b', o', e1, e2⟩ := h3 i e he
  cases e1
  exact e2
/-- A batch lies at (b, o). -/
def BatIn (w : World) (b o : Nat) (x : Evt.Bat) : Prop := ∃ v, w.cell? ⟨b, o, none⟩ = some (.int .i64 x.cmd) ∧ w.cell? ⟨b, o + 1, none⟩ = some v ∧ Evs w v x.evs
theorem BatIn.below {w w' : World} {b o : Nat} {x : Evt.Bat} (h : BatIn w b o x) (hb : Below w.heap.size w w') : BatIn w' b o x := by
  obtain ⟨v, c0, c1, he⟩ := h
  have hp : b < w.heap.size := World.block_lt_of_cell? _ _ c0
  exact ⟨v, (hb.cell (p := ⟨b, o, none⟩) hp).trans c0, (hb.cell (p := ⟨b, o + 1, none⟩) hp).trans c1, he.below hb⟩
/-- A list of batches. -/
def Bats (w : World) (v : Value) (l : List Evt.Bat) : Prop := ∃ A cap, v = .slice A l.length cap ∧ l.length ≤ cap ∧ cap ≤ maxLen ∧ ∀ i x, l[i]? = some x → ∃ b o, A = some ⟨b, o, none⟩ ∧ BatIn w b (o + i * 2) x
theorem Bats.below {w w' : World} {v : Value} {l : List Evt.Bat} (h : Bats w v l) (hb : Below w.heap.size w w') : Bats w' v l := by
  obtain ⟨A, cap, hv, h1, h2, h3⟩ := h
  refine ⟨A, cap, hv, h1, h2, fun i e he => ?_⟩
  obtain ⟨b, o, hA, hi⟩ := h3 i e he
  exact ⟨b, o, hA, hi.below hb⟩
theorem Bats.some {w : World} {v : Value} {l : List Evt.Bat} (h : Bats w v l) (hn : 1 ≤ l.length) : ∃ b o cap, v = .slice (some ⟨b, o, none⟩) l.length cap ∧ l.length ≤ cap ∧ cap ≤ 9223372036854775807 ∧ ∀ i x, l[i]? = some x → BatIn w b (o + i * 2) x := by
  obtain ⟨A, cap, hv, h1, h2, h3⟩ := h
  obtain ⟨b, o, rfl, _⟩ := h3 0 l[0] (List.getElem?_eq_getElem hn)
  refine ⟨b, o, cap, hv, h1, h2, fun i e he => ?_⟩
  obtain ⟨b', o', e1, e2⟩ := h3 i e he
  cases e1
  exact e2
theorem Evs.shape {w : World} {v : Value} {es : List Evt.Ev} (h : Evs w v es) : ∃ A C, v = .slice A es.length C := by
  obtain ⟨A, C, hv, _⟩ := h
  exact ⟨A, C, hv⟩

/-- The two cells of a fault's variable. -/
structure VarF (w : World) (p : Nat) (a b : Value) : Prop where
  c0 : w.cell? ⟨p, 0, none⟩ = some a
  c1 : w.cell? ⟨p, 1, none⟩ = some b
  fr : ∀ i, w.frozen? ⟨p, i, none⟩ = false
theorem varF_new (w : World) (t : TypeId) (a b : Value) : VarF (w.alloc (.cells #[a, b] t)) w.heap.size a b := by
  have hr := World.rowIs_alloc w #[a, b] t (fun k => #[a, b].getD k a) (fun i hi => by simp only [Array.getElem?_eq_getElem hi, Array.getD, hi, dif_pos]; rfl)
  exact ⟨hr.cell (i := 0) (by simp), hr.cell (i := 1) (by simp), fun i => hr.frozen i⟩
theorem VarF.below {w w' : World} {p : Nat} {a b : Value} (h : VarF w p a b) (hb : Below w.heap.size w w') : VarF w' p a b := by
  have hp : p < w.heap.size := World.block_lt_of_cell? _ _ h.c0
  exact ⟨(hb.cell (p := ⟨p, 0, none⟩) hp).trans h.c0, (hb.cell (p := ⟨p, 1, none⟩) hp).trans h.c1, fun i => by
    rw [← h.fr i]
    exact World.frozen?_of_block (hb.block p hp)⟩


end Go.Proofs.Ytabolanakcmgfae
