/-
  Lists of events and of batches that a call makes and appends to.
-/
import Derived.Test.YtniaffofeeieeadENum
namespace Go.Proofs.Ytniaffofeeieead
open Go.RowKit

theorem flat_get {α β : Type} (f : α → List β) (m : Nat) : ∀ (l : List α), (∀ a, a ∈ l → (f a).length = m) → ∀ (i t : Nat), t < m → ∀ a, l[i]? = some a → (l.flatMap f)[i * m + t]? = (f a)[t]?
  | [], _, i, t, _, a, h => by cases h
  | x :: l, hm, 0, t, ht, a, h => by
    cases h
    rw [List.flatMap_cons, Nat.zero_mul, Nat.zero_add, List.getElem?_append_left (by rw [hm x List.mem_cons_self]; exact ht)]
  | x :: l, hm, i + 1, t, ht, a, h => by
    have hx := hm x List.mem_cons_self
    rw [List.flatMap_cons, List.getElem?_append_right (by rw [hx, Nat.succ_mul]; omega), hx, show (i + 1) * m + t - m = i * m + t by rw [Nat.succ_mul]; omega]
    exact flat_get f m l (fun a ha => hm a (List.mem_cons_of_mem _ ha)) i t ht a (by simpa using h)
theorem flat_len {α β : Type} (f : α → List β) (m : Nat) : ∀ (l : List α), (∀ a, a ∈ l → (f a).length = m) → (l.flatMap f).length = l.length * m
  | [], _ => by simp
  | x :: l, hm => by
    rw [List.flatMap_cons, List.length_append, hm x List.mem_cons_self, flat_len f m l (fun a ha => hm a (List.mem_cons_of_mem _ ha)), List.length_cons, Nat.succ_mul]
    omega

/-- What is owned, cell by cell. -/
theorem owns_cells {w : World} {N : Nat} {t : TypeId} {size : Nat} {v : Value} {n : Nat} {xs : List Value} (h : w.ownsRow N t size v n xs) (hn : 1 ≤ n) :
    ∃ g cap, v = .slice (some ⟨g, 0, none⟩) n cap ∧ N ≤ g ∧ n ≤ cap ∧ cap ≤ maxLen ∧ g < w.heap.size ∧ ∀ j u, xs[j]? = some u → w.cell? ⟨g, j, none⟩ = some u := by
  have h0 := h
  obtain ⟨hl, h'⟩ := h
  rcases h' with ⟨_, h1⟩ | ⟨g, cap, cur, rfl, hN, hg, hc, hm, hs, ht⟩
  · omega
  · refine ⟨g, cap, rfl, hN, hc, hm, (h0.lt g rfl).2, fun j u hj => ?_⟩
    have := h0.cells (g := g) rfl j u hj
    rw [WideShapes.add_plain, Nat.zero_add] at this
    exact this

theorem Try.infoBatch : (Try.prog.info? 31).map (fun i => (i.zero, i.size, i.bytes)) = some (some (.agg #[.int .i64 0, .slice none 0 0]), 2, 32) := by kernel_rfl
theorem Try.infoEvent : (Try.prog.info? 24).map (fun i => (i.zero, i.size, i.bytes)) = some (some (.agg #[.string ByteArray.empty, .int .i64 0, .int .i64 0]), 3, 32) := by kernel_rfl

/-- An event's cells. -/
abbrev EvC := ByteArray × Int × Int
def evCells (e : EvC) : List Value := [.string e.1, .int .i64 e.2.1, .int .i64 e.2.2]
def evOf (e : EvC) : Evt.Ev := ⟨nb e.1, e.2.1, e.2.2⟩
/-- Events that are appended to. -/
def EBuf (w : World) (N : Nat) (v : Value) (es : List EvC) : Prop := w.ownsRow N 24 3 v es.length (es.flatMap evCells) ∧ ∀ e, e ∈ es → e.1.size ≤ 9223372036854775807
theorem EBuf.nil (w : World) (N : Nat) : EBuf w N (.slice none 0 0) [] := ⟨World.ownsRow_nil w N _ 3, fun e he => by cases he⟩
theorem EBuf.below {w w' : World} {N : Nat} {v : Value} {es : List EvC} (h : EBuf w N v es) (hb : Below w.heap.size w w') : EBuf w' N v es := ⟨owns_below h.1 hb, h.2⟩
theorem EBuf.evs {w : World} {N : Nat} {v : Value} {es : List EvC} (h : EBuf w N v es) : Evs w v (es.map evOf) := by
  by_cases hn : 1 ≤ es.length
  · obtain ⟨g, cap, rfl, _, h1, h2, _, hc⟩ := owns_cells h.1 hn
    refine ⟨some ⟨g, 0, none⟩, cap, by rw [List.length_map], by rw [List.length_map]; exact h1, h2, fun i e he => ?_⟩
    rw [List.getElem?_map] at he
    obtain ⟨x, hx, rfl⟩ := Option.map_eq_some_iff.1 he
    have hf := fun t ht => flat_get evCells 3 es (fun _ _ => rfl) i t ht x hx
    exact ⟨g, 0, rfl, x.1, h.2 x (List.mem_of_getElem? hx), rfl, by rw [Nat.zero_add]; exact hc _ _ (hf 0 (by decide)), by rw [Nat.zero_add]; exact hc _ _ (hf 1 (by decide)), by rw [Nat.zero_add]; exact hc _ _ (hf 2 (by decide))⟩
  · obtain rfl : es = [] := List.eq_nil_of_length_eq_zero (by omega)
    rcases h.1.2 with ⟨rfl, _⟩ | ⟨g, cap, cur, rfl, _, _, hc, hm, _⟩
    · exact ⟨none, 0, rfl, Nat.le_refl _, Nat.zero_le _, fun i e he => by cases he⟩
    · exact ⟨_, cap, rfl, hc, hm, fun i e he => by cases he⟩

/-- A batch's cells. -/
def batCells (x : Int × Value) : List Value := [.int .i64 x.1, x.2]
/-- Batches that are appended to. -/
def BBuf (w : World) (N : Nat) (v : Value) (l : List (Int × Value)) : Prop := w.ownsRow N 31 2 v l.length (l.flatMap batCells)
theorem BBuf.nil (w : World) (N : Nat) : BBuf w N (.slice none 0 0) [] := World.ownsRow_nil w N _ 2
theorem BBuf.below {w w' : World} {N : Nat} {v : Value} {l : List (Int × Value)} (h : BBuf w N v l) (hb : Below w.heap.size w w') : BBuf w' N v l := owns_below h hb
theorem BBuf.bats {w : World} {N : Nat} {v : Value} {l : List (Int × Value)} {bs : List Evt.Bat} (h : BBuf w N v l) (hl : bs.length = l.length) (he : ∀ (i : Nat) (x : Int × Value) (b : Evt.Bat), l[i]? = some x → bs[i]? = some b → b.cmd = x.1 ∧ Evs w x.2 b.evs) : Bats w v bs := by
  by_cases hn : 1 ≤ l.length
  · obtain ⟨g, cap, rfl, _, h1, h2, _, hc⟩ := owns_cells h hn
    refine ⟨some ⟨g, 0, none⟩, cap, by rw [hl], by rw [hl]; exact h1, h2, fun i b hb => ?_⟩
    obtain ⟨x, hx⟩ : ∃ x, l[i]? = some x := by
      have : i < l.length := by
        rw [← hl]
        exact (List.getElem?_eq_some_iff.1 hb).1
      exact ⟨l[i], List.getElem?_eq_getElem this⟩
    have hf := fun t ht => flat_get batCells 2 l (fun _ _ => rfl) i t ht x hx
    obtain ⟨e1, e2⟩ := he i x b hx hb
    exact ⟨g, 0, rfl, x.2, by rw [Nat.zero_add, e1]; exact hc _ _ (hf 0 (by decide)), by rw [Nat.zero_add]; exact hc _ _ (hf 1 (by decide)), e2⟩
  · obtain rfl : l = [] := List.eq_nil_of_length_eq_zero (by omega)
    obtain rfl : bs = [] := List.eq_nil_of_length_eq_zero (by simpa using hl)
    rcases h.2 with ⟨rfl, _⟩ | ⟨g, cap, cur, rfl, _, _, hc, hm, _⟩
    · exact ⟨none, 0, rfl, Nat.le_refl _, Nat.zero_le _, fun i e he => by cases he⟩
    · exact ⟨_, cap, rfl, hc, hm, fun i e he => by cases he⟩

end Go.Proofs.Ytniaffofeeieead
