/-
  Texts of the proof, joined: ESt, Own, EThree, XNamed.
-/
import Derived.Test.YtleekmmoanlpfaaGreatZ01
import Derived.Test.YtleekmmoanlpfaaGreatZ13
import Derived.Laws.OwnMore
import Derived.Deep.RegionLaw
namespace Go.Proofs.YtleekmmoanlpfaaGreat.Evt

/-- A reader: the bytes that are left, and whether there were too few. -/
abbrev St := List Nat × Bool
def numS (s : Nat) (st : St) : Nat × St := match num s 0 st.1 with | some (x, r) => (x, (r, st.2)) | none => (0, ([], true))
def takS (n : Nat) (st : St) : List Nat × St := if st.1.length < n then ([], ([], true)) else (st.1.take n, (st.1.drop n, st.2))
def evS (st : St) : Ev × St :=
  (⟨(takS (numS 1 st).1 (numS 1 st).2).1, ((numS 1 (takS (numS 1 st).1 (numS 1 st).2).2).1 : Nat), ((numS 3 (numS 1 (takS (numS 1 st).1 (numS 1 st).2).2).2).1 : Nat)⟩, (numS 3 (numS 1 (takS (numS 1 st).1 (numS 1 st).2).2).2).2)
def evsS : Nat → St → List Ev × St
  | 0, st => ([], st)
  | m + 1, st => ((evS st).1 :: (evsS m (evS st).2).1, (evsS m (evS st).2).2)
def evlS (st : St) : List Ev × St := evsS (numS 1 st).1 (numS 1 st).2
def batS (st : St) : Bat × St := (⟨((numS 3 st).1 : Nat), (evlS (numS 3 st).2).1⟩, (evlS (numS 3 st).2).2)
def batsS : Nat → St → List Bat × St
  | 0, st => ([], st)
  | m + 1, st => ((batS st).1 :: (batsS m (batS st).2).1, (batsS m (batS st).2).2)
def batlS (st : St) : List Bat × St := batsS (numS 1 st).1 (numS 1 st).2

/-! ### The last one is the last -/
theorem evsS_succ : ∀ (m : Nat) (st : St), evsS (m + 1) st = ((evsS m st).1 ++ [(evS (evsS m st).2).1], (evS (evsS m st).2).2)
  | 0, st => rfl
  | m + 1, st => by
    show ((evS st).1 :: (evsS (m + 1) (evS st).2).1, (evsS (m + 1) (evS st).2).2) = _
    rw [evsS_succ m (evS st).2]
    rfl
theorem batsS_succ : ∀ (m : Nat) (st : St), batsS (m + 1) st = ((batsS m st).1 ++ [(batS (batsS m st).2).1], (batS (batsS m st).2).2)
  | 0, st => rfl
  | m + 1, st => by
    show ((batS st).1 :: (batsS (m + 1) (batS st).2).1, (batsS (m + 1) (batS st).2).2) = _
    rw [batsS_succ m (batS st).2]
    rfl
theorem batsS_len : ∀ (m : Nat) (st : St), (batsS m st).1.length = m
  | 0, _ => rfl
  | m + 1, st => by
    show (batsS m (batS st).2).1.length + 1 = m + 1
    rw [batsS_len m]

/-! ### It is what is read at once, or it has failed -/
/-- What is read at once, or that it has failed. -/
def Fits {α : Type} (o : Option (α × List Nat)) (a : α × St) : Prop := match o with | some (x, r) => a = (x, (r, false)) | none => a.2.2 = true
theorem numS_fits (s : Nat) (r : List Nat) : Fits (num s 0 r) (numS s (r, false)) := by
  unfold numS Fits
  cases num s 0 r with
  | none => rfl
  | some p => rfl
theorem numS_bad (s : Nat) (st : St) (h : st.2 = true) : (numS s st).2.2 = true := by
  unfold numS
  cases num s 0 st.1 with
  | none => rfl
  | some p => exact h
theorem takS_bad (s : Nat) (st : St) (h : st.2 = true) : (takS s st).2.2 = true := by
  unfold takS
  split
  · rfl
  · exact h
theorem evS_bad (st : St) (h : st.2 = true) : (evS st).2.2 = true := numS_bad _ _ (numS_bad _ _ (takS_bad _ _ (numS_bad _ _ h)))
theorem evsS_bad : ∀ (m : Nat) (st : St), st.2 = true → (evsS m st).2.2 = true
  | 0, _, h => h
  | m + 1, st, h => evsS_bad m (evS st).2 (evS_bad st h)
theorem evlS_bad (st : St) (h : st.2 = true) : (evlS st).2.2 = true := evsS_bad _ _ (numS_bad _ _ h)
theorem batS_bad (st : St) (h : st.2 = true) : (batS st).2.2 = true := evlS_bad _ (numS_bad _ _ h)
theorem batsS_bad : ∀ (m : Nat) (st : St), st.2 = true → (batsS m st).2.2 = true
  | 0, _, h => h
  | m + 1, st, h => batsS_bad m (batS st).2 (batS_bad st h)
theorem numS_some {s : Nat} {r r' : List Nat} {x : Nat} (h : num s 0 r = some (x, r')) : numS s (r, false) = (x, (r', false)) := by
  have := numS_fits s r
  rw [h] at this
  exact this
theorem numS_none {s : Nat} {r : List Nat} (h : num s 0 r = none) : (numS s (r, false)).2.2 = true := by
  have := numS_fits s r
  rw [h] at this
  exact this
theorem evS_fits (r : List Nat) : Fits (getE r) (evS (r, false)) := by
  unfold getE
  cases h1 : num 1 0 r with
  | none => exact numS_bad _ _ (numS_bad _ _ (takS_bad _ _ (numS_none h1)))
  | some p =>
    obtain ⟨n, r1⟩ := p
    have e1 := numS_some h1
    show Fits (if r1.length < n then none else _) _
    unfold evS
    rw [e1]
    by_cases h2 : r1.length < n
    · rw [if_pos h2]
      have e2 : (takS n (r1, false)).2.2 = true := by
        unfold takS
        rw [if_pos h2]
      exact numS_bad _ _ (numS_bad _ _ e2)
    · rw [if_neg h2]
      have e2 : takS n (r1, false) = (r1.take n, (r1.drop n, false)) := by
        unfold takS
        rw [if_neg h2]
      show Fits _ ((⟨(takS n (r1, false)).1, _, _⟩ : Ev), (numS 3 (numS 1 (takS n (r1, false)).2).2).2)
      rw [e2]
      cases h3 : num 1 0 (r1.drop n) with
      | none => exact numS_bad _ _ (numS_none h3)
      | some p =>
        obtain ⟨k, r2⟩ := p
        have e3 := numS_some h3
        show Fits _ ((⟨_, ((numS 1 (r1.drop n, false)).1 : Nat), ((numS 3 (numS 1 (r1.drop n, false)).2).1 : Nat)⟩ : Ev), (numS 3 (numS 1 (r1.drop n, false)).2).2)
        rw [e3]
        show Fits (match num 3 0 r2 with | none => none | some (m, r'') => some ((⟨r1.take n, (k : Int), (m : Int)⟩ : Ev), r'')) _
        cases h4 : num 3 0 r2 with
        | none => exact numS_none h4
        | some p =>
          obtain ⟨m, r3⟩ := p
          have e4 := numS_some h4
          show ((⟨r1.take n, (k : Int), ((numS 3 (r2, false)).1 : Nat)⟩ : Ev), (numS 3 (r2, false)).2) = _
          rw [e4]
theorem evsS_fits : ∀ (m : Nat) (r : List Nat), Fits (getEs m r) (evsS m (r, false))
  | 0, r => rfl
  | m + 1, r => by
    show Fits (match getE r with | none => none | some (e, r) => match getEs m r with | none => none | some (l, r) => some (e :: l, r)) _
    have h := evS_fits r
    cases h1 : getE r with
    | none =>
      rw [h1] at h
      exact evsS_bad m _ h
    | some p =>
      obtain ⟨e, r1⟩ := p
      rw [h1] at h
      have h : evS (r, false) = (e, (r1, false)) := h
      show Fits (match getEs m r1 with | none => none | some (l, r) => some (e :: l, r)) ((evS (r, false)).1 :: (evsS m (evS (r, false)).2).1, (evsS m (evS (r, false)).2).2)
      rw [h]
      have k := evsS_fits m r1
      cases h2 : getEs m r1 with
      | none =>
        rw [h2] at k
        exact k
      | some p =>
        obtain ⟨l, r2⟩ := p
        rw [h2] at k
        have k : evsS m (r1, false) = (l, (r2, false)) := k
        show (e :: (evsS m (r1, false)).1, (evsS m (r1, false)).2) = _
        rw [k]
theorem batS_fits (r : List Nat) : Fits (getB r) (batS (r, false)) := by
  unfold getB
  cases h1 : num 3 0 r with
  | none => exact evlS_bad _ (numS_none h1)
  | some p =>
    obtain ⟨c, r1⟩ := p
    have e1 := numS_some h1
    unfold batS
    rw [e1]
    show Fits (match num 1 0 r1 with | none => none | some (m, r) => match getEs m r with | none => none | some (l, r) => some ((⟨c, l⟩ : Bat), r)) _
    cases h2 : num 1 0 r1 with
    | none => exact evsS_bad _ _ (numS_none h2)
    | some p =>
      obtain ⟨m, r2⟩ := p
      have e2 := numS_some h2
      show Fits (match getEs m r2 with | none => none | some (l, r) => some ((⟨c, l⟩ : Bat), r)) ((⟨(c : Int), (evlS (r1, false)).1⟩ : Bat), (evlS (r1, false)).2)
      unfold evlS
      rw [e2]
      have k := evsS_fits m r2
      cases h3 : getEs m r2 with
      | none =>
        rw [h3] at k
        exact k
      | some p =>
        obtain ⟨l, r3⟩ := p
        rw [h3] at k
        have k : evsS m (r2, false) = (l, (r3, false)) := k
        show ((⟨(c : Int), (evsS m (r2, false)).1⟩ : Bat), (evsS m (r2, false)).2) = _
        rw [k]
theorem batsS_fits : ∀ (m : Nat) (r : List Nat), Fits (getBs m r) (batsS m (r, false))
  | 0, r => rfl
  | m + 1, r => by
    show Fits (match getB r with | none => none | some (e, r) => match getBs m r with | none => none | some (l, r) => some (e :: l, r)) _
    have h := batS_fits r
    cases h1 : getB r with
    | none =>
      rw [h1] at h
      exact batsS_bad m _ h
    | some p =>
      obtain ⟨e, r1⟩ := p
      rw [h1] at h
      have h : batS (r, false) = (e, (r1, false)) := h
      show Fits (match getBs m r1 with | none => none | some (l, r) => some (e :: l, r)) ((batS (r, false)).1 :: (batsS m (batS (r, false)).2).1, (batsS m (batS (r, false)).2).2)
      rw [h]
      have k := batsS_fits m r1
      cases h2 : getBs m r1 with
      | none =>
        rw [h2] at k
        exact k
      | some p =>
        obtain ⟨l, r2⟩ := p
        rw [h2] at k
        have k : batsS m (r1, false) = (l, (r2, false)) := k
        show (e :: (batsS m (r1, false)).1, (batsS m (r1, false)).2) = _
        rw [k]
/-- What is told of bytes, by the reader. -/
theorem batlS_bad {r : List Nat} (h : (batlS (r, false)).2.2 = true ∨ (batlS (r, false)).2.1 ≠ []) : parseE r = 2 ∧ parse r = [] := by
  have hg : getL r = none := by
    unfold getL
    unfold batlS at h
    cases h1 : num 1 0 r with
    | none => rfl
    | some p =>
      obtain ⟨m, r1⟩ := p
      rw [numS_some h1] at h
      show (match getBs m r1 with | none => none | some (l, r) => if r = [] then some l else none) = none
      have k := batsS_fits m r1
      cases h2 : getBs m r1 with
      | none => rfl
      | some p =>
        obtain ⟨l, r2⟩ := p
        rw [h2] at k
        have k : batsS m (r1, false) = (l, (r2, false)) := k
        have h : (batsS m (r1, false)).2.2 = true ∨ (batsS m (r1, false)).2.1 ≠ [] := h
        rw [k] at h
        rcases h with h | h
        · cases h
        · exact if_neg h
  unfold parseE parse
  rw [hg]
  exact ⟨rfl, rfl⟩
theorem batlS_good {r : List Nat} (h : (batlS (r, false)).2.2 = false) (h' : (batlS (r, false)).2.1 = []) : getL r = some (batlS (r, false)).1 := by
  unfold getL
  unfold batlS at h h' ⊢
  cases h1 : num 1 0 r with
  | none =>
    rw [batsS_bad _ _ (numS_none h1)] at h
    cases h
  | some p =>
    obtain ⟨m, r1⟩ := p
    rw [numS_some h1] at h h' ⊢
    show (match getBs m r1 with | none => none | some (l, r) => if r = [] then some l else none) = some (batsS m (r1, false)).1
    have h : (batsS m (r1, false)).2.2 = false := h
    have h' : (batsS m (r1, false)).2.1 = [] := h'
    have k := batsS_fits m r1
    cases h2 : getBs m r1 with
    | none =>
      rw [h2] at k
      have k : (batsS m (r1, false)).2.2 = true := k
      rw [k] at h
      cases h
    | some p =>
      obtain ⟨l, r2⟩ := p
      rw [h2] at k
      have k : batsS m (r1, false) = (l, (r2, false)) := k
      rw [k] at h' ⊢
      exact if_pos h'
theorem batlS_parse {r : List Nat} (h : (batlS (r, false)).2.2 = false) (h' : (batlS (r, false)).2.1 = []) : parseE r = (wrongL (batlS (r, false)).1).1 ∧ parse r = if (wrongL (batlS (r, false)).1).1 = 0 then (batlS (r, false)).1 else [] := by
  unfold parseE parse
  rw [batlS_good h h']
  exact ⟨rfl, rfl⟩

/-! ### Bytes stay bytes -/
theorem Bytes.drop {r : List Nat} (h : Bytes r) (n : Nat) : Bytes (r.drop n) := fun x hx => h x (List.mem_of_mem_drop hx)
theorem Bytes.take {r : List Nat} (h : Bytes r) (n : Nat) : Bytes (r.take n) := fun x hx => h x (List.mem_of_mem_take hx)
theorem Bytes.nil : Bytes [] := fun x hx => by cases hx
/-- The number that bytes tell. -/
def val (l : List Nat) : Nat := l.foldl (fun n x => 256 * n + x) 0
theorem num_val : ∀ (s acc : Nat) (r : List Nat), num s acc r = if r.length < s then none else some ((r.take s).foldl (fun n x => 256 * n + x) acc, r.drop s)
  | 0, acc, r => (if_neg (c := r.length < 0) (Nat.not_lt_zero _)).symm
  | s + 1, acc, [] => (if_pos (c := ([] : List Nat).length < s + 1) (Nat.succ_pos s)).symm
  | s + 1, acc, x :: r => by
    show num s (256 * acc + x) r = _
    rw [num_val s]
    by_cases h : r.length < s
    · rw [if_pos h, if_pos (by simpa using h)]
    · rw [if_neg h, if_neg (by simpa using h)]
      rfl
/-- A number is what the bytes tell that are taken. -/
theorem numS_tak (s : Nat) (st : St) : numS s st = (val (takS s st).1, (takS s st).2) := by
  unfold numS takS
  rw [num_val]
  by_cases h : st.1.length < s
  · rw [if_pos h, if_pos h]
    rfl
  · rw [if_neg h, if_neg h]
    rfl
theorem takS_bytes {st : St} (s : Nat) (h : Bytes st.1) : Bytes (takS s st).1 ∧ Bytes (takS s st).2.1 := by
  unfold takS
  split
  · exact ⟨Bytes.nil, Bytes.nil⟩
  · exact ⟨h.take s, h.drop s⟩
theorem takS_len (s : Nat) (st : St) : (takS s st).1.length ≤ s := by
  unfold takS
  split
  · exact Nat.zero_le _
  · simpa using Nat.min_le_left s st.1.length
theorem val_lt : ∀ (l : List Nat) (acc k : Nat), Bytes l → acc < 256 ^ k → l.foldl (fun n x => 256 * n + x) acc < 256 ^ (k + l.length)
  | [], acc, k, _, h => h
  | x :: l, acc, k, hb, h => by
    show l.foldl _ (256 * acc + x) < _
    rw [show k + (x :: l).length = (k + 1) + l.length by simp; omega]
    refine val_lt l _ (k + 1) hb.tail ?_
    have := hb x List.mem_cons_self
    rw [Nat.pow_succ]
    omega
theorem numS_lt {st : St} (s : Nat) (h : Bytes st.1) : (numS s st).1 < 256 ^ s := by
  rw [numS_tak]
  have h1 := val_lt (takS s st).1 0 0 (takS_bytes s h).1 (by decide)
  have h2 := takS_len s st
  refine Nat.lt_of_lt_of_le h1 (Nat.pow_le_pow_right (by decide) (by omega))

end Go.Proofs.YtleekmmoanlpfaaGreat.Evt

namespace Go.Proofs.YtleekmmoanlpfaaGreat
open Go.RowKit

theorem owns_off {S : Nat → Prop} {w w' : World} {N : Nat} {t : TypeId} {s : Nat} {v : Value} {n : Nat} {xs : List Value} (h : w.ownsRow N t s v n xs) (ho : Off S w w') (hS : ∀ g, v.ownBlock = some g → ¬ S g) : w'.ownsRow N t s v n xs := by
  have hlt := h.lt
  obtain ⟨hl, h⟩ := h
  refine ⟨hl, h.imp id ?_⟩
  rintro ⟨g, cap, cur, rfl, hN, hg, hr⟩
  refine ⟨g, cap, cur, rfl, hN, ?_, hr⟩
  rw [ho.block g (hlt g rfl).2 (hS g rfl)]
  exact hg
theorem owns_heap {w : World} {N : Nat} {t : TypeId} {s : Nat} {v : Value} {n g : Nat} {xs : List Value} (h : w.ownsRow N t s v n xs) (hg : v.ownBlock = some g) : ∃ cur, w.heap[g]? = some (.cells cur t (0, 0)) := by
  rcases h.2 with ⟨rfl, _⟩ | ⟨g', cap, cur, rfl, _, h1, _⟩
  · simp [Value.ownBlock] at hg
  · simp [Value.ownBlock] at hg
    subst hg
    exact ⟨cur, h1⟩
theorem EBuf.off {S : Nat → Prop} {w w' : World} {N : Nat} {v : Value} {es : List EvC} (h : EBuf w N v es) (ho : Off S w w') (hS : ∀ g, v.ownBlock = some g → ¬ S g) : EBuf w' N v es := ⟨owns_off h.1 ho hS, h.2⟩
theorem off_of_grown {w w' : World} {row : Option Nat} (h : w.grownBy w' row) : Off (fun k => row = some k) w w' := ⟨h.os, h.tape, h.output, h.size, fun k hk hn => h.block k hk (fun e => hn e.symm)⟩
theorem VarF.off {S : Nat → Prop} {w w' : World} {p : Nat} {a b : Value} (h : VarF w p a b) (ho : Off S w w') (hS : ¬ S p) : VarF w' p a b := by
  have hp : p < w.heap.size := World.block_lt_of_cell? _ _ h.c0
  have hb := ho.block p hp hS
  exact ⟨(World.cell?_of_block (w := w) (a := ⟨p, 0, none⟩) hb).trans h.c0, (World.cell?_of_block (w := w) (a := ⟨p, 1, none⟩) hb).trans h.c1, fun i => (World.frozen?_of_block (w := w) (a := ⟨p, i, none⟩) hb).trans (h.fr i)⟩

/-- The three cells of an event's variable, that may be written. -/
structure VarG (w : World) (p : Nat) (a b c : Value) : Prop where
  c0 : w.cell? ⟨p, 0, none⟩ = some a
  c1 : w.cell? ⟨p, 1, none⟩ = some b
  c2 : w.cell? ⟨p, 2, none⟩ = some c
  fr : ∀ i, w.frozen? ⟨p, i, none⟩ = false
theorem VarG.off {S : Nat → Prop} {w w' : World} {p : Nat} {a b c : Value} (h : VarG w p a b c) (ho : Off S w w') (hS : ¬ S p) : VarG w' p a b c := by
  have hp : p < w.heap.size := World.block_lt_of_cell? _ _ h.c0
  have hb := ho.block p hp hS
  exact ⟨(World.cell?_of_block (w := w) (a := ⟨p, 0, none⟩) hb).trans h.c0, (World.cell?_of_block (w := w) (a := ⟨p, 1, none⟩) hb).trans h.c1, (World.cell?_of_block (w := w) (a := ⟨p, 2, none⟩) hb).trans h.c2, fun i => (World.frozen?_of_block (w := w) (a := ⟨p, i, none⟩) hb).trans (h.fr i)⟩
theorem VarG.set0 {w : World} {p : Nat} {a b c : Value} (h : VarG w p a b c) (x : Value) : VarG (w.setCell ⟨p, 0, none⟩ x) p x b c := by
  have c0 := h.c0
  have c1 := h.c1
  have c2 := h.c2
  exact ⟨by go_simp, by go_simp, by go_simp, fun i => by have := h.fr i; go_simp⟩
theorem VarG.set1 {w : World} {p : Nat} {a b c : Value} (h : VarG w p a b c) (x : Value) : VarG (w.setCell ⟨p, 1, none⟩ x) p a x c := by
  have c0 := h.c0
  have c1 := h.c1
  have c2 := h.c2
  exact ⟨by go_simp, by go_simp, by go_simp, fun i => by have := h.fr i; go_simp⟩
theorem VarG.set2 {w : World} {p : Nat} {a b c : Value} (h : VarG w p a b c) (x : Value) : VarG (w.setCell ⟨p, 2, none⟩ x) p a b x := by
  have c0 := h.c0
  have c1 := h.c1
  have c2 := h.c2
  exact ⟨by go_simp, by go_simp, by go_simp, fun i => by have := h.fr i; go_simp⟩
theorem VarF.set1 {w : World} {p : Nat} {a b : Value} (h : VarF w p a b) (x : Value) : VarF (w.setCell ⟨p, 1, none⟩ x) p a x := by
  have c0 := h.c0
  have c1 := h.c1
  exact ⟨by go_simp, by go_simp, fun i => by have := h.fr i; go_simp⟩
/-- What lies beyond the old blocks is no matter. -/
theorem Off.past {S T : Nat → Prop} {a b c : World} (h : Off S a b) (k : Off T b c) (hT : ∀ y, T y → y < a.heap.size → S y) : Off S a c :=
  ⟨k.os.trans h.os, k.tape.trans h.tape, k.output.trans h.output, Nat.le_trans h.size k.size, fun i hi hs => (k.block i (Nat.lt_of_lt_of_le hi h.size) (fun q => hs (hT i q hi))).trans (h.block i hi hs)⟩
theorem off_set (w : World) (a : Addr) (x : Value) : Off (fun k => k = a.block) w (w.setCell a x) := (Off.refl (fun k => k = a.block) w).set (p := a) rfl x

/-- One of them is another one. -/
def upd {α : Type} (Q : Nat → α) (k : Nat) (e : α) (i : Nat) : α := if i = k then e else Q i
theorem upd_at {α : Type} (Q : Nat → α) (k : Nat) (e : α) : upd Q k e k = e := if_pos rfl
theorem upd_ne {α : Type} (Q : Nat → α) {k i : Nat} (e : α) (h : i ≠ k) : upd Q k e i = Q i := if_neg h
theorem addr_ne {g a b : Nat} (h : a ≠ b) : (⟨g, a, none⟩ : Addr) ≠ ⟨g, b, none⟩ := fun e => by
  cases e
  exact h rfl
theorem owns_frozen {w : World} {N : Nat} {t : TypeId} {s : Nat} {v : Value} {n g : Nat} {xs : List Value} (h : w.ownsRow N t s v n xs) (hg : v.ownBlock = some g) (i : Nat) : w.frozen? ⟨g, i, none⟩ = false := by
  obtain ⟨cur, e⟩ := owns_heap h hg
  have hr : w.rowIs g t cur.size (fun j => cur.getD j (.slice none 0 0)) := ⟨cur, e, rfl, fun i hi => by simp [hi]⟩
  exact hr.frozen i
theorem made_at (z : Array Value) (n j : Nat) (hj : j < n) (u : Value) (hu : z[j % z.size]! = u) : (madeCells z n).toList[j]? = some u := by
  simp [madeCells, hj, hu]

end Go.Proofs.YtleekmmoanlpfaaGreat

namespace Go.Proofs.YtleekmmoanlpfaaGreat
open Go.RowKit

/-- Bytes as a list of cells. -/
def clB (bs : List Nat) : List Value := bs.map fun x => .int .u8 (x : Nat)
/-- Bytes that are appended to, as a list. -/
def BufL (w : World) (N : Nat) (v : Value) (bs : List Nat) : Prop := w.ownsRow N 5 1 v bs.length (clB bs)
theorem BufL.below {w w' : World} {N : Nat} {v : Value} {bs : List Nat} (h : BufL w N v bs) (hb : Below w.heap.size w w') : BufL w' N v bs := owns_below h hb
theorem BufL.off {S : Nat → Prop} {w w' : World} {N : Nat} {v : Value} {bs : List Nat} (h : BufL w N v bs) (ho : Off S w w') (hS : ∀ g, v.ownBlock = some g → ¬ S g) : BufL w' N v bs := owns_off h ho hS
theorem BufL.more {w : World} {N : Nat} {v : Value} {bs cs : List Nat} {ns : List Value} {m : Nat} (h : w.ownsRow N 5 1 v (bs.length + m) (clB bs ++ ns)) (hn : ns = clB cs) (hm : cs.length = m) : BufL w N v (bs ++ cs) := by
  unfold BufL
  rw [List.length_append, hm]
  unfold clB at hn h ⊢
  rw [List.map_append, ← hn]
  exact h
theorem BufL.byts {w : World} {N : Nat} {v : Value} {bs : List Nat} (h : BufL w N v bs) (hb : Evt.Bytes bs) : Byts w v bs.length (fun k => bs.getD k 0) := by
  have hbd : Bd (fun k => bs.getD k 0) := fun k => by
    show bs.getD k 0 < 256
    by_cases hk : k < bs.length
    · have : bs.getD k 0 ∈ bs := by simp [List.getD, hk]
      exact hb _ this
    · simp [List.getD, hk]
  by_cases hn : 1 ≤ bs.length
  · obtain ⟨g, cap, rfl, _, h1, h2, _, hc⟩ := owns_cells h hn
    refine ⟨hbd, some ⟨g, 0, none⟩, cap, rfl, h1, h2, fun i hi => ⟨g, 0, rfl, ?_⟩⟩
    rw [Nat.zero_add]
    refine hc i _ ?_
    simp [clB, List.getD, hi]
  · obtain rfl : bs = [] := List.eq_nil_of_length_eq_zero (by omega)
    rcases h.2 with ⟨rfl, _⟩ | ⟨g, cap, cur, rfl, _, _, hc, hm, _⟩
    · exact ⟨hbd, none, 0, rfl, Nat.le_refl _, Nat.zero_le _, fun i hi => absurd hi (Nat.not_lt_zero i)⟩
    · exact ⟨hbd, _, cap, rfl, hc, hm, fun i hi => absurd hi (Nat.not_lt_zero i)⟩

end Go.Proofs.YtleekmmoanlpfaaGreat

namespace Go.Proofs.YtleekmmoanlpfaaGreat
open Go.RowKit

set_option maxHeartbeats 400000 in
theorem plain_any (x : Nat) (w : World) (hx : x < 256) : Calls Tryz.prog 66 #[.int .u8 (x : Int)] w fun e w' => Tell e (Evt.letter x = true) ∧ w' = w := by
  by_cases q0 : 97 ≤ x ∧ x ≤ 122
  · have H : Hid (Evt.letter x = true) := by
      show Evt.letter _ = true
      rw [Evt.letter_iff]
      omega
    have f1 : (97 : Int) ≤ (x : Int) := by omega
    have f2 : (x : Int) ≤ 122 := by omega
    go_enter Tryz.func66, Tryz.ntmps66
    go_wp2_with fail
    go_ret
    exact ⟨tell_yes H.out, rfl⟩
  by_cases q1 : 48 ≤ x ∧ x ≤ 57
  · have H : Hid (Evt.letter x = true) := by
      show Evt.letter _ = true
      rw [Evt.letter_iff]
      omega
    have f1 : ¬ (97 : Int) ≤ (x : Int) := by omega
    have f3 : (48 : Int) ≤ (x : Int) := by omega
    have f4 : (x : Int) ≤ 57 := by omega
    go_enter Tryz.func66, Tryz.ntmps66
    go_wp2_with fail
    go_ret
    exact ⟨tell_yes H.out, rfl⟩
  have H : Hid (¬ Evt.letter x = true) := by
    show ¬ Evt.letter _ = true
    rw [Evt.letter_iff]
    omega
  by_cases q2 : x < 48
  · have f1 : ¬ (97 : Int) ≤ (x : Int) := by omega
    have f3 : ¬ (48 : Int) ≤ (x : Int) := by omega
    go_enter Tryz.func66, Tryz.ntmps66
    go_wp2_with fail
    go_ret
    exact ⟨tell_no H.out, rfl⟩
  have f3 : (48 : Int) ≤ (x : Int) := by omega
  have f4 : ¬ (x : Int) ≤ 57 := by omega
  by_cases q3 : 122 < x
  · have f1 : (97 : Int) ≤ (x : Int) := by omega
    have f2 : ¬ (x : Int) ≤ 122 := by omega
    go_enter Tryz.func66, Tryz.ntmps66
    go_wp2_with fail
    go_ret
    exact ⟨tell_no H.out, rfl⟩
  · have f1 : ¬ (97 : Int) ≤ (x : Int) := by omega
    go_enter Tryz.func66, Tryz.ntmps66
    go_wp2_with fail
    go_ret
    exact ⟨tell_no H.out, rfl⟩

theorem ch_at (s : ByteArray) {k : Nat} (h : k < s.size) : ch s k = s[k].toNat := by
  have h' : k < s.data.size := h
  unfold ch
  have e : s.data.toList[k]? = some s.data[k] := by simp
  rw [List.getD_eq_getElem?_getD, e]
  rfl

set_option maxHeartbeats 400000 in
theorem named_any (s : ByteArray) (w : World) (hs : s.size ≤ 9223372036854775807) :
    Calls Tryz.prog 42 #[.string s] w fun e w' => Tell e (Evt.named (nb s)) ∧ w' = w := by
  by_cases p0 : s.size < 1
  · have HN : Hid (¬ Evt.named (nb s)) := fun q => by
      have := q.2.1
      rw [nb_len] at this
      omega
    have p0' : (s.size : Int) < 1 := by omega
    go_enter Tryz.func42, Tryz.ntmps42
    go_wp2_with fail
    go_ret
    exact ⟨tell_no HN.out, rfl⟩
  have p0' : ¬ (s.size : Int) < 1 := by omega
  by_cases p1 : 10 < s.size
  · have HN : Hid (¬ Evt.named (nb s)) := fun q => by
      have := q.2.2
      rw [nb_len] at this
      omega
    have p1' : (10 : Int) < (s.size : Int) := by omega
    go_enter Tryz.func42, Tryz.ntmps42
    go_wp2_with fail
    go_ret
    exact ⟨tell_no HN.out, rfl⟩
  have p1' : ¬ (10 : Int) < (s.size : Int) := by omega
  go_enter Tryz.func42, Tryz.ntmps42
  go_wp2_with fail
  go_loop [14] (fun x => ∃ k : Nat, k ≤ s.size ∧ x = .int .i64 k ∧ Hid (∀ j, j < k → Evt.letter (ch s j) = true)) (fun x => s.size - (intOf x).toNat)
  case atStart => exact ⟨0, Nat.zero_le _, rfl, fun j hj => absurd hj (Nat.not_lt_zero j)⟩
  case round =>
    obtain ⟨k, hk, rfl, HS⟩ := hrel
    by_cases hk2 : k < s.size
    · have hk3 : (k : Int) < (s.size : Int) := by omega
      have HC : Hid (ch s k = s[k].toNat) := ch_at s hk2
      have HP := plain_any s[k].toNat w (UInt8.toNat_lt _)
      by_cases hL : Evt.letter s[k].toNat = true
      · have HL : Hid (Evt.letter (ch s k) = true) := by
          show Evt.letter _ = true
          rw [HC.out]
          exact hL
        go_wp2_with fail
        refine HP.mono ?_
        rintro e w1 ⟨⟨y, rfl, hy⟩, rfl⟩
        obtain rfl : y = true := hy.2 hL
        clear hy HP hL
        go_wp2_with fail
        refine ⟨⟨k + 1, by omega, by go_num, fun j hj => ?_⟩, by simp [intOf]; omega⟩
        by_cases e : j = k
        · rw [e]; exact HL.out
        · exact HS.out j (by omega)
      · have HN : Hid (¬ Evt.named (nb s)) := not_named hk2 (by rw [HC.out]; exact hL)
        go_wp2_with fail
        refine HP.mono ?_
        rintro e w1 ⟨⟨y, rfl, hy⟩, rfl⟩
        obtain rfl : y = false := by cases y with | false => rfl | true => exact absurd (hy.1 rfl) hL
        clear hy HP hL
        go_wp2_with fail
        go_ret
        exact ⟨tell_no HN.out, rfl⟩
    · obtain rfl : k = s.size := by omega
      have HY : Hid (Evt.named (nb s)) := (named_iff s HS.out).2 ⟨by omega, by omega⟩
      go_wp2_with fail
      go_ret
      exact ⟨tell_yes HY.out, rfl⟩

/-- The most that N may be. -/
def mostV (k : Int) : Int := if k = 2 ∨ k = 3 then 1000000 else 0
set_option maxHeartbeats 400000 in
theorem most_any (k : Int) (w : World) : Calls Tryz.prog 73 #[.int .i64 k] w fun e w' => e = .returned (.tuple #[.int .i64 (mostV k), .bool (decide (1 ≤ k ∧ k ≤ 4))]) ∧ w' = w := by
  by_cases q1 : k = 1
  · subst q1
    go_enter Tryz.func73, Tryz.ntmps73
    go_wp2_with fail
    go_ret2
    exact ⟨rfl, rfl⟩
  by_cases q4 : k = 4
  · subst q4
    go_enter Tryz.func73, Tryz.ntmps73
    go_wp2_with fail
    go_ret2
    exact ⟨rfl, rfl⟩
  by_cases q2 : k = 2
  · subst q2
    go_enter Tryz.func73, Tryz.ntmps73
    go_wp2_with fail
    go_ret2
    exact ⟨rfl, rfl⟩
  by_cases q3 : k = 3
  · subst q3
    go_enter Tryz.func73, Tryz.ntmps73
    go_wp2_with fail
    go_ret2
    exact ⟨rfl, rfl⟩
  have e1 : (k == 1) = false := by rw [beq_eq_false_iff_ne]; exact q1
  have e2 : (k == 2) = false := by rw [beq_eq_false_iff_ne]; exact q2
  have e3 : (k == 3) = false := by rw [beq_eq_false_iff_ne]; exact q3
  have e4 : (k == 4) = false := by rw [beq_eq_false_iff_ne]; exact q4
  have HM : Hid (mostV k = 0) := if_neg (by omega)
  have HD : Hid (decide (1 ≤ k ∧ k ≤ 4) = false) := decide_eq_false (by omega)
  clear q1 q2 q3 q4
  go_enter Tryz.func73, Tryz.ntmps73
  go_wp2_with fail
  go_ret2
  exact ⟨by rw [HM.out, HD.out]; rfl, rfl⟩

set_option maxHeartbeats 1000000 in
theorem wrongE_any (s : ByteArray) (k m : Int) (w : World) (hs : s.size ≤ 9223372036854775807) :
    Calls Tryz.prog 52 #[.agg #[.string s, .int .i64 k, .int .i64 m]] w fun e w' => e = .returned (.int .i64 (Evt.wrongE ⟨nb s, k, m⟩ : Nat)) ∧ Below w.heap.size w w' := by
  have HN := fun w' => named_any s w' hs
  have HM := fun w' => most_any k w'
  have hb0 : Below w.heap.size w (w.alloc (.cells #[.string s, .int .i64 k, .int .i64 m] 32)) := (Below.refl _ _).alloc (Nat.le_refl _) _
  obtain ⟨c0, c1, c2⟩ := varE_new w (.string s) (.int .i64 k) (.int .i64 m)
  by_cases hn0 : Evt.named (nb s)
  case neg =>
    have hn : Hid (¬ Evt.named (nb s)) := hn0
    have H : Hid (Evt.wrongE ⟨nb s, k, m⟩ = 7) := Evt.wrongE_name hn0
    clear hn0
    go_enter Tryz.func52, Tryz.ntmps52
    go_wp2_with fail
    refine (HN _).mono ?_
    rintro e w1 ⟨⟨y, rfl, hy⟩, rfl⟩
    obtain rfl : y = false := by cases y with | false => rfl | true => exact absurd (hy.1 rfl) hn.out
    clear hy HN HM
    go_wp2_with fail
    go_ret
    exact ⟨ret_int (by rw [H.out]; rfl), hb0⟩
  have hn : Hid (Evt.named (nb s)) := hn0
  clear hn0
  by_cases q0 : k < 1 ∨ 4 < k
  · have H : Hid (Evt.wrongE ⟨nb s, k, m⟩ = 1) := Evt.wrongE_kind hn.out q0
    have hd : decide (1 ≤ k ∧ k ≤ 4) = false := decide_eq_false (by omega)
    rw [hd] at HM
    clear hd q0
    go_enter Tryz.func52, Tryz.ntmps52
    go_wp2_with fail
    refine (HN _).mono ?_
    rintro e w1 ⟨⟨y, rfl, hy⟩, rfl⟩
    obtain rfl : y = true := hy.2 hn.out
    clear hy HN
    go_wp2_with fail
    refine (HM _).mono ?_
    rintro e w1 ⟨rfl, rfl⟩
    clear HM
    go_wp2_with fail
    go_ret
    exact ⟨ret_int (by rw [H.out]; rfl), hb0⟩
  have hk : Hid (¬ (k < 1 ∨ 4 < k)) := q0
  have hd : decide (1 ≤ k ∧ k ≤ 4) = true := decide_eq_true (by omega)
  rw [hd] at HM
  clear hd q0
  have HQ : Hid ((m < 0 ∨ 1000000 < m ∨ (0 < m ∧ k ≠ 2 ∧ k ≠ 3)) ↔ (m < 0 ∨ mostV k < m)) := by
    show _ ↔ _
    unfold mostV
    by_cases e : k = 2 ∨ k = 3
    · rw [if_pos e]
      omega
    · rw [if_neg e]
      omega
  generalize mostV k = M at HM HQ
  by_cases q2 : m < 0
  · have H : Hid (Evt.wrongE ⟨nb s, k, m⟩ = 3) := Evt.wrongE_range hn.out hk.out (HQ.out.2 (Or.inl q2))
    go_enter Tryz.func52, Tryz.ntmps52
    go_wp2_with fail
    refine (HN _).mono ?_
    rintro e w1 ⟨⟨y, rfl, hy⟩, rfl⟩
    obtain rfl : y = true := hy.2 hn.out
    clear hy HN
    go_wp2_with fail
    refine (HM _).mono ?_
    rintro e w1 ⟨rfl, rfl⟩
    clear HM
    go_wp2_with fail
    go_ret
    exact ⟨ret_int (by rw [H.out]; rfl), hb0⟩
  by_cases q3 : M < m
  · have H : Hid (Evt.wrongE ⟨nb s, k, m⟩ = 3) := Evt.wrongE_range hn.out hk.out (HQ.out.2 (Or.inr q3))
    go_enter Tryz.func52, Tryz.ntmps52
    go_wp2_with fail
    refine (HN _).mono ?_
    rintro e w1 ⟨⟨y, rfl, hy⟩, rfl⟩
    obtain rfl : y = true := hy.2 hn.out
    clear hy HN
    go_wp2_with fail
    refine (HM _).mono ?_
    rintro e w1 ⟨rfl, rfl⟩
    clear HM
    go_wp2_with fail
    go_ret
    exact ⟨ret_int (by rw [H.out]; rfl), hb0⟩
  · have H : Hid (Evt.wrongE ⟨nb s, k, m⟩ = 0) := Evt.wrongE_ok hn.out hk.out (fun q => by have := HQ.out.1 q; omega)
    go_enter Tryz.func52, Tryz.ntmps52
    go_wp2_with fail
    refine (HN _).mono ?_
    rintro e w1 ⟨⟨y, rfl, hy⟩, rfl⟩
    obtain rfl : y = true := hy.2 hn.out
    clear hy HN
    go_wp2_with fail
    refine (HM _).mono ?_
    rintro e w1 ⟨rfl, rfl⟩
    clear HM
    go_wp2_with fail
    go_ret
    exact ⟨ret_int (by rw [H.out]; rfl), hb0⟩

end Go.Proofs.YtleekmmoanlpfaaGreat
