/-
  The plain form of a reader that goes on once it has failed: what it reads is what is read at once.
-/
import Derived.Test.YtniaffofeeieeadEPure
namespace Go.Proofs.Ytniaffofeeieead.Evt

/-- A reader: the bytes that are left, and whether there were too few. -/
abbrev St := List Nat × Bool
def numS (s : Nat) (st : St) : Nat × St := match num s 0 st.1 with | some (x, r) => (x, (r, st.2)) | none => (0, ([], true))
def takS (n : Nat) (st : St) : List Nat × St := if st.1.length < n then ([], ([], true)) else (st.1.take n, (st.1.drop n, st.2))
def evS (st : St) : Ev × St :=
  (⟨(takS (numS 1 st).1 (numS 1 st).2).1, ((numS 1 (takS (numS 1 st).1 (numS 1 st).2).2).1 : Nat), ((numS 3 (numS 1 (takS (numS 1 st).1 (numS 1 st).2).2).2).1 : Nat)⟩, (numS 3 (numS 1 (takS (numS 1 st).1 (numS 1 st).2).2).2).2)
def evsS : Nat → St → List Ev × St
  | 0, st => ([], st)
  | m + 1, st => ((evS st).1 :: (evsS m (evS st).2).1, (evsS m (evS st).2).2)
def evlS (st : St) : List Ev × St := evsS (numS 1 st).1 (numS 1 st).2
def batS (st : St) : Bat × St := (⟨((numS 3 st).1 : Nat), (evlS (numS 3 st).2).1⟩, (evlS (numS 3 st).2).2)
def batsS : Nat → St → List Bat × St
  | 0, st => ([], st)
  | m + 1, st => ((batS st).1 :: (batsS m (batS st).2).1, (batsS m (batS st).2).2)
def batlS (st : St) : List Bat × St := batsS (numS 1 st).1 (numS 1 st).2

/-! ### The last one is the last -/
theorem evsS_succ : ∀ (m : Nat) (st : St), evsS (m + 1) st = ((evsS m st).1 ++ [(evS (evsS m st).2).1], (evS (evsS m st).2).2)
  | 0, st => rfl
  | m + 1, st => by
    show ((evS st).1 :: (evsS (m + 1) (evS st).2).1, (evsS (m + 1) (evS st).2).2) = _
    rw [evsS_succ m (evS st).2]
    rfl
theorem batsS_succ : ∀ (m : Nat) (st : St), batsS (m + 1) st = ((batsS m st).1 ++ [(batS (batsS m st).2).1], (batS (batsS m st).2).2)
  | 0, st => rfl
  | m + 1, st => by
    show ((batS st).1 :: (batsS (m + 1) (batS st).2).1, (batsS (m + 1) (batS st).2).2) = _
    rw [batsS_succ m (batS st).2]
    rfl
theorem evsS_len : ∀ (m : Nat) (st : St), (evsS m st).1.length = m
  | 0, _ => rfl
  | m + 1, st => by
    show (evsS m (evS st).2).1.length + 1 = m + 1
    rw [evsS_len m]
theorem batsS_len : ∀ (m : Nat) (st : St), (batsS m st).1.length = m
  | 0, _ => rfl
  | m + 1, st => by
    show (batsS m (batS st).2).1.length + 1 = m + 1
    rw [batsS_len m]

/-! ### It is what is read at once, or it has failed -/
/-- What is read at once, or that it has failed. -/
def Fits {α : Type} (o : Option (α × List Nat)) (a : α × St) : Prop := match o with | some (x, r) => a = (x, (r, false)) | none => a.2.2 = true
theorem numS_fits (s : Nat) (r : List Nat) : Fits (num s 0 r) (numS s (r, false)) := by
  unfold numS Fits
  cases num s 0 r with
  | none => rfl
  | some p => rfl
theorem numS_bad (s : Nat) (st : St) (h : st.2 = true) : (numS s st).2.2 = true := by
  unfold numS
  cases num s 0 st.1 with
  | none => rfl
  | some p => exact h
theorem takS_bad (s : Nat) (st : St) (h : st.2 = true) : (takS s st).2.2 = true := by
  unfold takS
  split
  · rfl
  · exact h
theorem evS_bad (st : St) (h : st.2 = true) : (evS st).2.2 = true := numS_bad _ _ (numS_bad _ _ (takS_bad _ _ (numS_bad _ _ h)))
theorem evsS_bad : ∀ (m : Nat) (st : St), st.2 = true → (evsS m st).2.2 = true
  | 0, _, h => h
  | m + 1, st, h => evsS_bad m (evS st).2 (evS_bad st h)
theorem evlS_bad (st : St) (h : st.2 = true) : (evlS st).2.2 = true := evsS_bad _ _ (numS_bad _ _ h)
theorem batS_bad (st : St) (h : st.2 = true) : (batS st).2.2 = true := evlS_bad _ (numS_bad _ _ h)
theorem batsS_bad : ∀ (m : Nat) (st : St), st.2 = true → (batsS m st).2.2 = true
  | 0, _, h => h
  | m + 1, st, h => batsS_bad m (batS st).2 (batS_bad st h)
theorem numS_some {s : Nat} {r r' : List Nat} {x : Nat} (h : num s 0 r = some (x, r')) : numS s (r, false) = (x, (r', false)) := by
  have := numS_fits s r
  rw [h] at this
  exact this
theorem numS_none {s : Nat} {r : List Nat} (h : num s 0 r = none) : (numS s (r, false)).2.2 = true := by
  have := numS_fits s r
  rw [h] at this
  exact this
theorem evS_fits (r : List Nat) : Fits (getE r) (evS (r, false)) := by
  unfold getE
  cases h1 : num 1 0 r with
  | none => exact numS_bad _ _ (numS_bad _ _ (takS_bad _ _ (numS_none h1)))
  | some p =>
    obtain ⟨n, r1⟩ := p
    have e1 := numS_some h1
    show Fits (if r1.length < n then none else _) _
    unfold evS
    rw [e1]
    by_cases h2 : r1.length < n
    · rw [if_pos h2]
      have e2 : (takS n (r1, false)).2.2 = true := by
        unfold takS
        rw [if_pos h2]
      exact numS_bad _ _ (numS_bad _ _ e2)
    · rw [if_neg h2]
      have e2 : takS n (r1, false) = (r1.take n, (r1.drop n, false)) := by
        unfold takS
        rw [if_neg h2]
      show Fits _ ((⟨(takS n (r1, false)).1, _, _⟩ : Ev), (numS 3 (numS 1 (takS n (r1, false)).2).2).2)
      rw [e2]
      cases h3 : num 1 0 (r1.drop n) with
      | none => exact numS_bad _ _ (numS_none h3)
      | some p =>
        obtain ⟨k, r2⟩ := p
        have e3 := numS_some h3
        show Fits _ ((⟨_, ((numS 1 (r1.drop n, false)).1 : Nat), ((numS 3 (numS 1 (r1.drop n, false)).2).1 : Nat)⟩ : Ev), (numS 3 (numS 1 (r1.drop n, false)).2).2)
        rw [e3]
        show Fits (match num 3 0 r2 with | none => none | some (m, r'') => some ((⟨r1.take n, (k : Int), (m : Int)⟩ : Ev), r'')) _
        cases h4 : num 3 0 r2 with
        | none => exact numS_none h4
        | some p =>
          obtain ⟨m, r3⟩ := p
          have e4 := numS_some h4
          show ((⟨r1.take n, (k : Int), ((numS 3 (r2, false)).1 : Nat)⟩ : Ev), (numS 3 (r2, false)).2) = _
          rw [e4]
theorem evsS_fits : ∀ (m : Nat) (r : List Nat), Fits (getEs m r) (evsS m (r, false))
  | 0, r => rfl
  | m + 1, r => by
    show Fits (match getE r with | none => none | some (e, r) => match getEs m r with | none => none | some (l, r) => some (e :: l, r)) _
    have h := evS_fits r
    cases h1 : getE r with
    | none =>
      rw [h1] at h
      exact evsS_bad m _ h
    | some p =>
      obtain ⟨e, r1⟩ := p
      rw [h1] at h
      have h : evS (r, false) = (e, (r1, false)) := h
      show Fits (match getEs m r1 with | none => none | some (l, r) => some (e :: l, r)) ((evS (r, false)).1 :: (evsS m (evS (r, false)).2).1, (evsS m (evS (r, false)).2).2)
      rw [h]
      have k := evsS_fits m r1
      cases h2 : getEs m r1 with
      | none =>
        rw [h2] at k
        exact k
      | some p =>
        obtain ⟨l, r2⟩ := p
        rw [h2] at k
        have k : evsS m (r1, false) = (l, (r2, false)) := k
        show (e :: (evsS m (r1, false)).1, (evsS m (r1, false)).2) = _
        rw [k]
theorem batS_fits (r : List Nat) : Fits (getB r) (batS (r, false)) := by
  unfold getB
  cases h1 : num 3 0 r with
  | none => exact evlS_bad _ (numS_none h1)
  | some p =>
    obtain ⟨c, r1⟩ := p
    have e1 := numS_some h1
    unfold batS
    rw [e1]
    show Fits (match num 1 0 r1 with | none => none | some (m, r) => match getEs m r with | none => none | some (l, r) => some ((⟨c, l⟩ : Bat), r)) _
    cases h2 : num 1 0 r1 with
    | none => exact evsS_bad _ _ (numS_none h2)
    | some p =>
      obtain ⟨m, r2⟩ := p
      have e2 := numS_some h2
      show Fits (match getEs m r2 with | none => none | some (l, r) => some ((⟨c, l⟩ : Bat), r)) ((⟨(c : Int), (evlS (r1, false)).1⟩ : Bat), (evlS (r1, false)).2)
      unfold evlS
      rw [e2]
      have k := evsS_fits m r2
      cases h3 : getEs m r2 with
      | none =>
        rw [h3] at k
        exact k
      | some p =>
        obtain ⟨l, r3⟩ := p
        rw [h3] at k
        have k : evsS m (r2, false) = (l, (r3, false)) := k
        show ((⟨(c : Int), (evsS m (r2, false)).1⟩ : Bat), (evsS m (r2, false)).2) = _
        rw [k]
theorem batsS_fits : ∀ (m : Nat) (r : List Nat), Fits (getBs m r) (batsS m (r, false))
  | 0, r => rfl
  | m + 1, r => by
    show Fits (match getB r with | none => none | some (e, r) => match getBs m r with | none => none | some (l, r) => some (e :: l, r)) _
    have h := batS_fits r
    cases h1 : getB r with
    | none =>
      rw [h1] at h
      exact batsS_bad m _ h
    | some p =>
      obtain ⟨e, r1⟩ := p
      rw [h1] at h
      have h : batS (r, false) = (e, (r1, false)) := h
      show Fits (match getBs m r1 with | none => none | some (l, r) => some (e :: l, r)) ((batS (r, false)).1 :: (batsS m (batS (r, false)).2).1, (batsS m (batS (r, false)).2).2)
      rw [h]
      have k := batsS_fits m r1
      cases h2 : getBs m r1 with
      | none =>
        rw [h2] at k
        exact k
      | some p =>
        obtain ⟨l, r2⟩ := p
        rw [h2] at k
        have k : batsS m (r1, false) = (l, (r2, false)) := k
        show (e :: (batsS m (r1, false)).1, (batsS m (r1, false)).2) = _
        rw [k]
/-- What is told of bytes, by the reader. -/
theorem batlS_bad {r : List Nat} (h : (batlS (r, false)).2.2 = true ∨ (batlS (r, false)).2.1 ≠ []) : parseE r = 2 ∧ parse r = [] := by
  have hg : getL r = none := by
    unfold getL
    unfold batlS at h
    cases h1 : num 1 0 r with
    | none => rfl
    | some p =>
      obtain ⟨m, r1⟩ := p
      rw [numS_some h1] at h
      show (match getBs m r1 with | none => none | some (l, r) => if r = [] then some l else none) = none
      have k := batsS_fits m r1
      cases h2 : getBs m r1 with
      | none => rfl
      | some p =>
        obtain ⟨l, r2⟩ := p
        rw [h2] at k
        have k : batsS m (r1, false) = (l, (r2, false)) := k
        have h : (batsS m (r1, false)).2.2 = true ∨ (batsS m (r1, false)).2.1 ≠ [] := h
        rw [k] at h
        rcases h with h | h
        · cases h
        · exact if_neg h
  unfold parseE parse
  rw [hg]
  exact ⟨rfl, rfl⟩
theorem batlS_good {r : List Nat} (h : (batlS (r, false)).2.2 = false) (h' : (batlS (r, false)).2.1 = []) : getL r = some (batlS (r, false)).1 := by
  unfold getL
  unfold batlS at h h' ⊢
  cases h1 : num 1 0 r with
  | none =>
    rw [batsS_bad _ _ (numS_none h1)] at h
    cases h
  | some p =>
    obtain ⟨m, r1⟩ := p
    rw [numS_some h1] at h h' ⊢
    show (match getBs m r1 with | none => none | some (l, r) => if r = [] then some l else none) = some (batsS m (r1, false)).1
    have h : (batsS m (r1, false)).2.2 = false := h
    have h' : (batsS m (r1, false)).2.1 = [] := h'
    have k := batsS_fits m r1
    cases h2 : getBs m r1 with
    | none =>
      rw [h2] at k
      have k : (batsS m (r1, false)).2.2 = true := k
      rw [k] at h
      cases h
    | some p =>
      obtain ⟨l, r2⟩ := p
      rw [h2] at k
      have k : batsS m (r1, false) = (l, (r2, false)) := k
      rw [k] at h' ⊢
      exact if_pos h'
theorem batlS_parse {r : List Nat} (h : (batlS (r, false)).2.2 = false) (h' : (batlS (r, false)).2.1 = []) : parseE r = (wrongL (batlS (r, false)).1).1 ∧ parse r = if (wrongL (batlS (r, false)).1).1 = 0 then (batlS (r, false)).1 else [] := by
  unfold parseE parse
  rw [batlS_good h h']
  exact ⟨rfl, rfl⟩

/-! ### Bytes stay bytes -/
theorem Bytes.drop {r : List Nat} (h : Bytes r) (n : Nat) : Bytes (r.drop n) := fun x hx => h x (List.mem_of_mem_drop hx)
theorem Bytes.take {r : List Nat} (h : Bytes r) (n : Nat) : Bytes (r.take n) := fun x hx => h x (List.mem_of_mem_take hx)
theorem Bytes.nil : Bytes [] := fun x hx => by cases hx
/-- The number that bytes tell. -/
def val (l : List Nat) : Nat := l.foldl (fun n x => 256 * n + x) 0
theorem num_val : ∀ (s acc : Nat) (r : List Nat), num s acc r = if r.length < s then none else some ((r.take s).foldl (fun n x => 256 * n + x) acc, r.drop s)
  | 0, acc, r => (if_neg (c := r.length < 0) (Nat.not_lt_zero _)).symm
  | s + 1, acc, [] => (if_pos (c := ([] : List Nat).length < s + 1) (Nat.succ_pos s)).symm
  | s + 1, acc, x :: r => by
    show num s (256 * acc + x) r = _
    rw [num_val s]
    by_cases h : r.length < s
    · rw [if_pos h, if_pos (by simpa using h)]
    · rw [if_neg h, if_neg (by simpa using h)]
      rfl
/-- A number is what the bytes tell that are taken. -/
theorem numS_tak (s : Nat) (st : St) : numS s st = (val (takS s st).1, (takS s st).2) := by
  unfold numS takS
  rw [num_val]
  by_cases h : st.1.length < s
  · rw [if_pos h, if_pos h]
    rfl
  · rw [if_neg h, if_neg h]
    rfl
theorem takS_bytes {st : St} (s : Nat) (h : Bytes st.1) : Bytes (takS s st).1 ∧ Bytes (takS s st).2.1 := by
  unfold takS
  split
  · exact ⟨Bytes.nil, Bytes.nil⟩
  · exact ⟨h.take s, h.drop s⟩
theorem takS_len (s : Nat) (st : St) : (takS s st).1.length ≤ s := by
  unfold takS
  split
  · exact Nat.zero_le _
  · simpa using Nat.min_le_left s st.1.length
theorem val_lt : ∀ (l : List Nat) (acc k : Nat), Bytes l → acc < 256 ^ k → l.foldl (fun n x => 256 * n + x) acc < 256 ^ (k + l.length)
  | [], acc, k, _, h => h
  | x :: l, acc, k, hb, h => by
    show l.foldl _ (256 * acc + x) < _
    rw [show k + (x :: l).length = (k + 1) + l.length by simp; omega]
    refine val_lt l _ (k + 1) hb.tail ?_
    have := hb x List.mem_cons_self
    rw [Nat.pow_succ]
    omega
theorem numS_lt {st : St} (s : Nat) (h : Bytes st.1) : (numS s st).1 < 256 ^ s := by
  rw [numS_tak]
  have h1 := val_lt (takS s st).1 0 0 (takS_bytes s h).1 (by decide)
  have h2 := takS_len s st
  refine Nat.lt_of_lt_of_le h1 (Nat.pow_le_pow_right (by decide) (by omega))

end Go.Proofs.Ytniaffofeeieead.Evt
