/-
  What is kept where some blocks turn: lists of the call's own, variables.
-/
import Derived.Test.YtabolanakcmgfaeEBuf
import Derived.Laws.OwnMore
namespace Go.Proofs.Ytabolanakcmgfae
open Go.RowKit

theorem owns_off {S : Nat → Prop} {w w' : World} {N : Nat} {t : TypeId} {s : Nat} {v : Value} {n : Nat} {xs : List Value} (h : w.ownsRow N t s v n xs) (ho : Off S w w') (hS : ∀ g, v.ownBlock = some g → ¬ S g) : w'.ownsRow N t s v n xs := by
  have hlt := h.lt
  obtain ⟨hl, h⟩ := h
  refine ⟨hl, h.imp id ?_⟩
  rintro ⟨g, cap, cur, rfl, hN, hg, hr⟩
  refine ⟨g, cap, cur, rfl, hN, ?_, hr⟩
  rw [ho.block g (hlt g rfl).2 (hS g rfl)]
  exact hg
theorem owns_heap {w : World} {N : Nat} {t : TypeId} {s : Nat} {v : Value} {n g : Nat} {xs : List Value} (h : w.ownsRow N t s v n xs) (hg : v.ownBlock = some g) : ∃ cur, w.heap[g]? = some (.cells cur t (0, 0)) := by
  rcases h.2 with ⟨rfl, _⟩ | ⟨g', cap, cur, rfl, _, h1, _⟩
  · simp [Value.ownBlock] at hg
  · simp [Value.ownBlock] at hg
    subst hg
    exact ⟨cur, h1⟩
/-- Rows of two types lie in two blocks. -/
theorem owns_ne {w : World} {N N' : Nat} {t t' : TypeId} {s s' : Nat} {v v' : Value} {n n' : Nat} {xs xs' : List Value} (h : w.ownsRow N t s v n xs) (h' : w.ownsRow N' t' s' v' n' xs') (ht : t ≠ t') : ∀ g, v.ownBlock = some g → ¬ v'.ownBlock = some g := fun g hg hg' => by
  obtain ⟨c, e1⟩ := owns_heap h hg
  obtain ⟨c', e2⟩ := owns_heap h' hg'
  rw [e1] at e2
  cases e2
  exact ht rfl
theorem EBuf.off {S : Nat → Prop} {w w' : World} {N : Nat} {v : Value} {es : List EvC} (h : EBuf w N v es) (ho : Off S w w') (hS : ∀ g, v.ownBlock = some g → ¬ S g) : EBuf w' N v es := ⟨owns_off h.1 ho hS, h.2⟩
theorem off_of_grown {w w' : World} {row : Option Nat} (h : w.grownBy w' row) : Off (fun k => row = some k) w w' := ⟨h.os, h.tape, h.output, h.size, fun k hk hn => h.block k hk (fun e => hn e.symm)⟩
theorem VarF.off {S : Nat → Prop} {w w' : World} {p : Nat} {a b : Value} (h : VarF w p a b) (ho : Off S w w') (hS : ¬ S p) : VarF w' p a b := by
  have hp : p < w.heap.size := World.block_lt_of_cell? _ _ h.c0
  have hb := ho.block p hp hS
  exact ⟨(World.cell?_of_block (w := w) (a := ⟨p, 0, none⟩) hb).trans h.c0, (World.cell?_of_block (w := w) (a := ⟨p, 1, none⟩) hb).trans h.c1, fun i => (World.frozen?_of_block (w := w) (a := ⟨p, i, none⟩) hb).trans (h.fr i)⟩

/-- The three cells of an event's variable, that may be written. -/
structure VarG (w : World) (p : Nat) (a b c : Value) : Prop where
  c0 : w.cell? ⟨p, 0, none⟩ = some a
  c1 : w.cell? ⟨p, 1, none⟩ = some b
  c2 : w.cell? ⟨p, 2, none⟩ = some c
  fr : ∀ i, w.frozen? ⟨p, i, none⟩ = false
theorem varG_new (w : World) (t : TypeId) (a b c : Value) : VarG (w.alloc (.cells #[a, b, c] t)) w.heap.size a b c := by
  have hr := World.rowIs_alloc w #[a, b, c] t (fun k => #[a, b, c].getD k a) (fun i hi => by simp only [Array.getElem?_eq_getElem hi, Array.getD, hi, dif_pos]; rfl)
  exact ⟨hr.cell (i := 0) (by simp), hr.cell (i := 1) (by simp), hr.cell (i := 2) (by simp), fun i => hr.frozen i⟩
theorem VarG.off {S : Nat → Prop} {w w' : World} {p : Nat} {a b c : Value} (h : VarG w p a b c) (ho : Off S w w') (hS : ¬ S p) : VarG w' p a b c := by
  have hp : p < w.heap.size := World.block_lt_of_cell? _ _ h.c0
  have hb := ho.block p hp hS
  exact ⟨(World.cell?_of_block (w := w) (a := ⟨p, 0, none⟩) hb).trans h.c0, (World.cell?_of_block (w := w) (a := ⟨p, 1, none⟩) hb).trans h.c1, (World.cell?_of_block (w := w) (a := ⟨p, 2, none⟩) hb).trans h.c2, fun i => (World.frozen?_of_block (w := w) (a := ⟨p, i, none⟩) hb).trans (h.fr i)⟩
theorem VarG.set0 {w : World} {p : Nat} {a b c : Value} (h : VarG w p a b c) (x : Value) : VarG (w.setCell ⟨p, 0, none⟩ x) p x b c := by
  have c0 := h.c0
  have c1 := h.c1
  have c2 := h.c2
  exact ⟨by go_simp, by go_simp, by go_simp, fun i => by have := h.fr i; go_simp⟩
theorem VarG.set1 {w : World} {p : Nat} {a b c : Value} (h : VarG w p a b c) (x : Value) : VarG (w.setCell ⟨p, 1, none⟩ x) p a x c := by
  have c0 := h.c0
  have c1 := h.c1
  have c2 := h.c2
  exact ⟨by go_simp, by go_simp, by go_simp, fun i => by have := h.fr i; go_simp⟩
theorem VarG.set2 {w : World} {p : Nat} {a b c : Value} (h : VarG w p a b c) (x : Value) : VarG (w.setCell ⟨p, 2, none⟩ x) p a b x := by
  have c0 := h.c0
  have c1 := h.c1
  have c2 := h.c2
  exact ⟨by go_simp, by go_simp, by go_simp, fun i => by have := h.fr i; go_simp⟩
theorem VarF.set1 {w : World} {p : Nat} {a b : Value} (h : VarF w p a b) (x : Value) : VarF (w.setCell ⟨p, 1, none⟩ x) p a x := by
  have c0 := h.c0
  have c1 := h.c1
  exact ⟨by go_simp, by go_simp, fun i => by have := h.fr i; go_simp⟩
/-- What lies beyond the old blocks is no matter. -/
theorem Off.past {S T : Nat → Prop} {a b c : World} (h : Off S a b) (k : Off T b c) (hT : ∀ y, T y → y < a.heap.size → S y) : Off S a c :=
  ⟨k.os.trans h.os, k.tape.trans h.tape, k.output.trans h.output, Nat.le_trans h.size k.size, fun i hi hs => (k.block i (Nat.lt_of_lt_of_le hi h.size) (fun q => hs (hT i q hi))).trans (h.block i hi hs)⟩
theorem off_set (w : World) (a : Addr) (x : Value) : Off (fun k => k = a.block) w (w.setCell a x) := (Off.refl (fun k => k = a.block) w).set (p := a) rfl x

/-- One of them is another one. -/
def upd {α : Type} (Q : Nat → α) (k : Nat) (e : α) (i : Nat) : α := if i = k then e else Q i
theorem upd_at {α : Type} (Q : Nat → α) (k : Nat) (e : α) : upd Q k e k = e := if_pos rfl
theorem upd_ne {α : Type} (Q : Nat → α) {k i : Nat} (e : α) (h : i ≠ k) : upd Q k e i = Q i := if_neg h
theorem addr_ne {g a b : Nat} (h : a ≠ b) : (⟨g, a, none⟩ : Addr) ≠ ⟨g, b, none⟩ := fun e => by
  cases e
  exact h rfl
theorem owns_frozen {w : World} {N : Nat} {t : TypeId} {s : Nat} {v : Value} {n g : Nat} {xs : List Value} (h : w.ownsRow N t s v n xs) (hg : v.ownBlock = some g) (i : Nat) : w.frozen? ⟨g, i, none⟩ = false := by
  obtain ⟨cur, e⟩ := owns_heap h hg
  have hr : w.rowIs g t cur.size (fun j => cur.getD j (.slice none 0 0)) := ⟨cur, e, rfl, fun i hi => by simp [hi]⟩
  exact hr.frozen i
theorem made_at (z : Array Value) (n j : Nat) (hj : j < n) (u : Value) (hu : z[j % z.size]! = u) : (madeCells z n).toList[j]? = some u := by
  simp [madeCells, hj, hu]

end Go.Proofs.Ytabolanakcmgfae
