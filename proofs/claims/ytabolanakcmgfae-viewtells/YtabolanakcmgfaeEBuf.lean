/-
  Lists of events and of batches that a call makes and appends to.
-/
import Derived.Test.YtabolanakcmgfaeESame
namespace Go.Proofs.Ytabolanakcmgfae
open Go.RowKit


/-- What is owned, cell by cell. -/
theorem owns_cells {w : World} {N : Nat} {t : TypeId} {size : Nat} {v : Value} {n : Nat} {xs : List Value} (h : w.ownsRow N t size v n xs) (hn : 1 ≤ n) :
    ∃ g cap, v = .slice (some ⟨g, 0, none⟩) n cap ∧ N ≤ g ∧ n ≤ cap ∧ cap ≤ maxLen ∧ g < w.heap.size ∧ ∀ j u, xs[j]? = some u → w.cell? ⟨g, j, none⟩ = some u := by
  have h0 := h
  obtain ⟨hl, h'⟩ := h
  rcases h' with ⟨_, h1⟩ | ⟨g, cap, cur, rfl, hN, hg, hc, hm, hs, ht⟩
  · omega
  · refine ⟨g, cap, rfl, hN, hc, hm, (h0.lt g rfl).2, fun j u hj => ?_⟩
    have := h0.cells (g := g) rfl j u hj
    rw [WideShapes.add_plain, Nat.zero_add] at this
    exact this


theorem Try.infoEvent : (Try.prog.info? 42).map (fun i => (i.zero, i.size, i.bytes)) = some (some (.agg #[.string ByteArray.empty, .int .i64 0, .int .i64 0]), 3, 32) := by kernel_rfl

/-- An event's cells. -/
abbrev EvC := ByteArray × Int × Int
def evCells (e : EvC) : List Value := [.string e.1, .int .i64 e.2.1, .int .i64 e.2.2]
def evOf (e : EvC) : Evt.Ev := ⟨nb e.1, e.2.1, e.2.2⟩
/-- Events that are appended to. -/
def EBuf (w : World) (N : Nat) (v : Value) (es : List EvC) : Prop := w.ownsRow N 42 3 v es.length (es.flatMap evCells) ∧ ∀ e, e ∈ es → e.1.size ≤ 9223372036854775807
theorem EBuf.nil (w : World) (N : Nat) : EBuf w N (.slice none 0 0) [] := ⟨World.ownsRow_nil w N _ 3, fun e he => by cases he⟩
theorem EBuf.below {w w' : World} {N : Nat} {v : Value} {es : List EvC} (h : EBuf w N v es) (hb : Below w.heap.size w w') : EBuf w' N v es := ⟨owns_below h.1 hb, h.2⟩
theorem EBuf.evs {w : World} {N : Nat} {v : Value} {es : List EvC} (h : EBuf w N v es) : Evs w v (es.map evOf) := by
  by_cases hn : 1 ≤ es.length
  · obtain ⟨g, cap, rfl, _, h1, h2, _, hc⟩ := owns_cells h.1 hn
    refine ⟨some ⟨g, 0, none⟩, cap, by rw [List.length_map], by rw [List.length_map]; exact h1, h2, fun i e he => ?_⟩
    rw [List.getElem?_map] at he
    obtain ⟨x, hx, rfl⟩ := Option.map_eq_some_iff.1 he
    have hf := fun t ht => flat_get evCells 3 es (fun _ _ => rfl) i t ht x hx
    exact ⟨g, 0, rfl, x.1, h.2 x (List.mem_of_getElem? hx), rfl, by rw [Nat.zero_add]; exact hc _ _ (hf 0 (by decide)), by rw [Nat.zero_add]; exact hc _ _ (hf 1 (by decide)), by rw [Nat.zero_add]; exact hc _ _ (hf 2 (by decide))⟩
  · obtain rfl : es = [] := List.eq_nil_of_length_eq_zero (by omega)
    rcases h.1.2 with ⟨rfl, _⟩ | ⟨g, cap, cur, rfl, _, _, hc, hm, _⟩
    · exact ⟨none, 0, rfl, Nat.le_refl _, Nat.zero_le _, fun i e he => by cases he⟩
    · exact ⟨_, cap, rfl, hc, hm, fun i e he => by cases he⟩


end Go.Proofs.Ytabolanakcmgfae
