/-
  Texts of the proof, joined: VPure.
-/
import Derived.Test.YtmcaejooaaahdaaGreatZ01
namespace Go.Proofs.YtmcaejooaaahdaaGreat.Vw
open Evt

/-- What a stream's events come to. -/
structure Acc where
  name : List Nat
  sum : Int
  cnt : Int
  opn : Bool

/-! ### Names, one ahead of another -/
def lt : List Nat → List Nat → Bool
  | _, [] => false
  | [], _ :: _ => true
  | a :: r, b :: s => decide (a < b) || (decide (a = b) && lt r s)
theorem lt_cons {a b : Nat} {r s : List Nat} : lt (a :: r) (b :: s) = true ↔ a < b ∨ (a = b ∧ lt r s = true) := by
  show (decide (a < b) || (decide (a = b) && lt r s)) = true ↔ _
  simp
theorem lt_irrefl : ∀ a, lt a a = false
  | [] => rfl
  | a :: r => by
    show (decide (a < a) || (decide (a = a) && lt r r)) = false
    rw [lt_irrefl r]
    simp
theorem lt_trans : ∀ {a b c : List Nat}, lt a b = true → lt b c = true → lt a c = true
  | [], [], _, h, _ => by cases h
  | _ :: _, [], _, h, _ => by cases h
  | _, _ :: _, [], _, h => by cases h
  | [], _ :: _, _ :: _, _, _ => rfl
  | a :: r, b :: s, c :: t, h, k => by
    rw [lt_cons] at h k ⊢
    rcases h with h | ⟨rfl, h⟩
    · rcases k with k | ⟨rfl, _⟩
      · exact Or.inl (Nat.lt_trans h k)
      · exact Or.inl h
    · rcases k with k | ⟨rfl, k⟩
      · exact Or.inl k
      · exact Or.inr ⟨rfl, lt_trans h k⟩
theorem lt_tri : ∀ a b : List Nat, lt a b = true ∨ a = b ∨ lt b a = true
  | [], [] => Or.inr (Or.inl rfl)
  | [], _ :: _ => Or.inl rfl
  | _ :: _, [] => Or.inr (Or.inr rfl)
  | a :: r, b :: s => by
    rw [lt_cons, lt_cons]
    rcases Nat.lt_trichotomy a b with h | rfl | h
    · exact Or.inl (Or.inl h)
    · rcases lt_tri r s with h | rfl | h
      · exact Or.inl (Or.inr ⟨rfl, h⟩)
      · exact Or.inr (Or.inl rfl)
      · exact Or.inr (Or.inr (Or.inr ⟨rfl, h⟩))
    · exact Or.inr (Or.inr (Or.inl h))
theorem lt_ne {a b : List Nat} (h : lt a b = true) : a ≠ b := fun e => by
  rw [e, lt_irrefl] at h
  cases h
theorem lt_anti {a b : List Nat} (h : lt a b = true) : lt b a = false := by
  cases q : lt b a with
  | false => rfl
  | true =>
    have := lt_trans h q
    rw [lt_irrefl] at this
    cases this
theorem lt_of_not {a b : List Nat} (h : lt a b = false) (hn : a ≠ b) : lt b a = true := by
  rcases lt_tri a b with q | q | q
  · rw [h] at q
    cases q
  · exact absurd q hn
  · exact q

/-! ### What is wrong with a view -/
def wrongA (u : Int) (a : Acc) : Nat := if ¬ named a.name then 7 else if a.cnt < 1 ∨ u < a.cnt ∨ 1000000 * a.cnt < a.sum ∨ a.sum < -(1000000 * a.cnt) then 3 else 0
theorem wrongA_name {u : Int} {a : Acc} (h : ¬ named a.name) : wrongA u a = 7 := if_pos h
theorem wrongA_range {u : Int} {a : Acc} (h : named a.name) (h2 : a.cnt < 1 ∨ u < a.cnt ∨ 1000000 * a.cnt < a.sum ∨ a.sum < -(1000000 * a.cnt)) : wrongA u a = 3 := by
  unfold wrongA
  rw [if_neg (fun k => k h), if_pos h2]
theorem wrongA_ok {u : Int} {a : Acc} (h : named a.name) (h2 : ¬ (a.cnt < 1 ∨ u < a.cnt ∨ 1000000 * a.cnt < a.sum ∨ a.sum < -(1000000 * a.cnt))) : wrongA u a = 0 := by
  unfold wrongA
  rw [if_neg (fun k => k h), if_neg h2]
theorem wrongA_inv {u : Int} {a : Acc} (h : wrongA u a = 0) : named a.name ∧ 1 ≤ a.cnt ∧ a.cnt ≤ u ∧ a.sum ≤ 1000000 * a.cnt ∧ -(1000000 * a.cnt) ≤ a.sum := by
  by_cases h1 : named a.name
  · by_cases h2 : a.cnt < 1 ∨ u < a.cnt ∨ 1000000 * a.cnt < a.sum ∨ a.sum < -(1000000 * a.cnt)
    · rw [wrongA_range h1 h2] at h
      cases h
    · exact ⟨h1, by omega, by omega, by omega, by omega⟩
  · rw [wrongA_name h1] at h
    cases h

def rises : Option (List Nat) → List Nat → Bool
  | none, _ => true
  | some q, n => lt q n
/-- From account i on, behind one of name p, with s events so far. -/
def wrongL (u : Int) : Nat → Option (List Nat) → Int → List Acc → Nat × Nat
  | i, _, s, [] => if s = u then (0, 0) else (8, i)
  | i, p, s, a :: r => if wrongA u a = 0 then (if rises p a.name = true then (if s + a.cnt ≤ u then wrongL u (i + 1) (some a.name) (s + a.cnt) r else (8, i)) else (2, i)) else (wrongA u a, i)
theorem wrongL_acc {u : Int} {i : Nat} {p : Option (List Nat)} {s : Int} {a : Acc} {r : List Acc} (h : wrongA u a ≠ 0) : wrongL u i p s (a :: r) = (wrongA u a, i) := by rw [wrongL, if_neg h]
theorem wrongL_form {u : Int} {i : Nat} {p : Option (List Nat)} {s : Int} {a : Acc} {r : List Acc} (h : wrongA u a = 0) (h2 : rises p a.name = false) : wrongL u i p s (a :: r) = (2, i) := by rw [wrongL, if_pos h, if_neg (by rw [h2]; decide)]
theorem wrongL_fit {u : Int} {i : Nat} {p : Option (List Nat)} {s : Int} {a : Acc} {r : List Acc} (h : wrongA u a = 0) (h2 : rises p a.name = true) (h3 : ¬ s + a.cnt ≤ u) : wrongL u i p s (a :: r) = (8, i) := by rw [wrongL, if_pos h, if_pos h2, if_neg h3]
theorem wrongL_next {u : Int} {i : Nat} {p : Option (List Nat)} {s : Int} {a : Acc} {r : List Acc} (h : wrongA u a = 0) (h2 : rises p a.name = true) (h3 : s + a.cnt ≤ u) : wrongL u i p s (a :: r) = wrongL u (i + 1) (some a.name) (s + a.cnt) r := by rw [wrongL, if_pos h, if_pos h2, if_pos h3]
def wrongV (u : Int) (l : List Acc) : Nat × Nat := if u < 0 ∨ 150 < u then (3, 0) else wrongL u 0 none 0 l
theorem wrongV_range {u : Int} {l : List Acc} (h : u < 0 ∨ 150 < u) : wrongV u l = (3, 0) := if_pos h
theorem wrongV_else {u : Int} {l : List Acc} (h : ¬ (u < 0 ∨ 150 < u)) : wrongV u l = wrongL u 0 none 0 l := if_neg h

def total : List Acc → Int
  | [] => 0
  | a :: r => a.cnt + total r
def Rise : Option (List Nat) → List Acc → Prop
  | _, [] => True
  | p, a :: r => rises p a.name = true ∧ Rise (some a.name) r
abbrev Sorted (l : List Acc) : Prop := l.Pairwise (fun a b => lt a.name b.name = true)
theorem rise_of : ∀ {p : Option (List Nat)} {l : List Acc}, (∀ a, a ∈ l → rises p a.name = true) → Sorted l → Rise p l
  | _, [], _, _ => trivial
  | _, a :: _, h, hs => ⟨h a List.mem_cons_self, rise_of (fun b hb => (List.pairwise_cons.1 hs).1 b hb) (List.pairwise_cons.1 hs).2⟩
theorem of_rise : ∀ {p : Option (List Nat)} {l : List Acc}, Rise p l → (∀ a, a ∈ l → rises p a.name = true) ∧ Sorted l
  | _, [], _ => ⟨fun _ ha => (by cases ha), List.Pairwise.nil⟩
  | p, a :: r, h => by
    obtain ⟨h1, h2⟩ := of_rise h.2
    refine ⟨fun b hb => ?_, List.pairwise_cons.2 ⟨fun b hb => h1 b hb, h2⟩⟩
    rcases List.mem_cons.1 hb with rfl | hb
    · exact h.1
    · cases p with
      | none => rfl
      | some q => exact lt_trans h.1 (h1 b hb)
theorem total_nonneg : ∀ {l : List Acc} {u : Int}, (∀ a, a ∈ l → wrongA u a = 0) → 0 ≤ total l
  | [], _, _ => Int.le_refl 0
  | a :: r, u, h => by
    have h1 := (wrongA_inv (h a List.mem_cons_self)).2.1
    have h2 := total_nonneg (l := r) (fun b hb => h b (List.mem_cons_of_mem _ hb))
    show 0 ≤ a.cnt + total r
    omega
theorem total_len : ∀ {l : List Acc} {u : Int}, (∀ a, a ∈ l → wrongA u a = 0) → (l.length : Int) ≤ total l
  | [], _, _ => Int.le_refl 0
  | a :: r, u, h => by
    have h1 := (wrongA_inv (h a List.mem_cons_self)).2.1
    have h2 := total_len (l := r) (fun b hb => h b (List.mem_cons_of_mem _ hb))
    show ((r.length + 1 : Nat) : Int) ≤ a.cnt + total r
    omega
theorem wrongL_ok : ∀ {l : List Acc} {u : Int} {i : Nat} {p : Option (List Nat)} {s : Int}, (wrongL u i p s l).1 = 0 → (∀ a, a ∈ l → wrongA u a = 0) ∧ Rise p l ∧ s + total l = u
  | [], u, i, p, s, h => by
    refine ⟨fun _ ha => (by cases ha), trivial, ?_⟩
    show s + 0 = u
    by_cases e : s = u
    · omega
    · rw [wrongL, if_neg e] at h
      cases h
  | a :: r, u, i, p, s, h => by
    by_cases h1 : wrongA u a = 0
    · by_cases h2 : rises p a.name = true
      · by_cases h3 : s + a.cnt ≤ u
        · rw [wrongL_next h1 h2 h3] at h
          obtain ⟨k1, k2, k3⟩ := wrongL_ok h
          refine ⟨fun b hb => ?_, ⟨h2, k2⟩, ?_⟩
          · rcases List.mem_cons.1 hb with rfl | hb
            · exact h1
            · exact k1 b hb
          · show s + (a.cnt + total r) = u
            omega
        · rw [wrongL_fit h1 h2 h3] at h
          cases h
      · rw [wrongL_form h1 (by simpa using h2)] at h
        cases h
    · rw [wrongL_acc h1] at h
      exact absurd h h1
theorem wrongL_of : ∀ {l : List Acc} {u : Int} {i : Nat} {p : Option (List Nat)} {s : Int}, (∀ a, a ∈ l → wrongA u a = 0) → Rise p l → s + total l = u → wrongL u i p s l = (0, 0)
  | [], u, i, p, s, _, _, h => by
    have h : s + 0 = u := h
    rw [wrongL, if_pos (by omega)]
  | a :: r, u, i, p, s, h1, h2, h3 => by
    have h3 : s + (a.cnt + total r) = u := h3
    have hr : ∀ b, b ∈ r → wrongA u b = 0 := fun b hb => h1 b (List.mem_cons_of_mem _ hb)
    have hn := total_nonneg hr
    rw [wrongL_next (h1 a List.mem_cons_self) h2.1 (by omega)]
    exact wrongL_of hr h2.2 (by omega)
/-- A right view. -/
structure Right (u : Int) (l : List Acc) : Prop where
  lo : 0 ≤ u
  hi : u ≤ 150
  acc : ∀ a, a ∈ l → wrongA u a = 0
  srt : Sorted l
  tot : total l = u
theorem right_of {u : Int} {l : List Acc} (h : (wrongV u l).1 = 0) : Right u l := by
  by_cases q : u < 0 ∨ 150 < u
  · rw [wrongV_range q] at h
    cases h
  · rw [wrongV_else q] at h
    obtain ⟨h1, h2, h3⟩ := wrongL_ok h
    exact ⟨by omega, by omega, h1, (of_rise h2).2, by omega⟩
theorem Right.ok {u : Int} {l : List Acc} (h : Right u l) : wrongV u l = (0, 0) := by
  have h1 := h.lo
  have h2 := h.hi
  rw [wrongV_else (by omega)]
  exact wrongL_of h.acc (rise_of (fun _ _ => rfl) h.srt) (by have := h.tot; omega)
theorem Right.len {u : Int} {l : List Acc} (h : Right u l) : l.length ≤ 150 := by
  have h1 := total_len h.acc
  have h2 := h.tot
  have h3 := h.hi
  omega
theorem right_nil : Right 0 [] := ⟨Int.le_refl 0, by omega, fun _ ha => (by cases ha), List.Pairwise.nil, rfl⟩
/-- The name ahead of account k. -/
def prev (l : List Acc) : Nat → Option (List Nat)
  | 0 => none
  | k + 1 => (l[k]?).map (·.name)
theorem prev_next {l : List Acc} {k : Nat} {a : Acc} (h : l[k]? = some a) : prev l (k + 1) = some a.name := by
  show (l[k]?).map (·.name) = _
  rw [h]
  rfl
theorem drop_at {l : List Acc} {k : Nat} {a : Acc} (h : l[k]? = some a) : l.drop k = a :: l.drop (k + 1) := by
  obtain ⟨hk, rfl⟩ := List.getElem?_eq_some_iff.1 h
  exact List.drop_eq_getElem_cons hk

/-! ### What comes of an event -/
def fresh (n : List Nat) : Acc := ⟨n, 0, 0, false⟩
def get : List Acc → List Nat → Acc
  | [], n => fresh n
  | a :: r, n => if a.name = n then a else get r n
def may (a : Acc) (e : Ev) : Bool := if e.kind = 1 then !a.opn else if e.kind = 2 ∨ e.kind = 4 then a.opn else if e.kind = 3 then a.opn && decide (e.num ≤ a.sum) else false
def chg (a : Acc) (e : Ev) : Acc := ⟨a.name, if e.kind = 2 then a.sum + e.num else if e.kind = 3 then a.sum - e.num else a.sum, a.cnt + 1, if e.kind = 1 then true else if e.kind = 4 then false else a.opn⟩
def put : List Acc → Ev → List Acc
  | [], e => [chg (fresh e.name) e]
  | a :: r, e => if lt a.name e.name = true then a :: put r e else if a.name = e.name then chg a e :: r else chg (fresh e.name) e :: a :: r
def apply (u : Int) (l : List Acc) (e : Ev) : Nat × Int × List Acc :=
  if (wrongV u l).1 = 0 then (if wrongE e = 0 then (if u = 150 then (5, 0, []) else if may (get l e.name) e = true then (0, u + 1, put l e) else (8, 0, [])) else (wrongE e, 0, [])) else ((wrongV u l).1, 0, [])
theorem apply_view {u : Int} {l : List Acc} {e : Ev} (h : (wrongV u l).1 ≠ 0) : apply u l e = ((wrongV u l).1, 0, []) := if_neg h
theorem apply_event {u : Int} {l : List Acc} {e : Ev} (h : (wrongV u l).1 = 0) (h2 : wrongE e ≠ 0) : apply u l e = (wrongE e, 0, []) := by unfold apply; rw [if_pos h, if_neg h2]
theorem apply_many {u : Int} {l : List Acc} {e : Ev} (h : (wrongV u l).1 = 0) (h2 : wrongE e = 0) (h3 : u = 150) : apply u l e = (5, 0, []) := by unfold apply; rw [if_pos h, if_pos h2, if_pos h3]
theorem apply_fit {u : Int} {l : List Acc} {e : Ev} (h : (wrongV u l).1 = 0) (h2 : wrongE e = 0) (h3 : u ≠ 150) (h4 : may (get l e.name) e = false) : apply u l e = (8, 0, []) := by unfold apply; rw [if_pos h, if_pos h2, if_neg h3, if_neg (by rw [h4]; decide)]
theorem apply_ok {u : Int} {l : List Acc} {e : Ev} (h : (wrongV u l).1 = 0) (h2 : wrongE e = 0) (h3 : u ≠ 150) (h4 : may (get l e.name) e = true) : apply u l e = (0, u + 1, put l e) := by unfold apply; rw [if_pos h, if_pos h2, if_neg h3, if_pos h4]
theorem apply_inv {u : Int} {l : List Acc} {e : Ev} (h : (apply u l e).1 = 0) : Right u l ∧ wrongE e = 0 ∧ u ≠ 150 ∧ may (get l e.name) e = true ∧ apply u l e = (0, u + 1, put l e) := by
  by_cases h1 : (wrongV u l).1 = 0
  · by_cases h2 : wrongE e = 0
    · by_cases h3 : u = 150
      · rw [apply_many h1 h2 h3] at h
        cases h
      · cases h4 : may (get l e.name) e with
        | false =>
          rw [apply_fit h1 h2 h3 h4] at h
          cases h
        | true => exact ⟨right_of h1, h2, h3, rfl, apply_ok h1 h2 h3 h4⟩
    · rw [apply_event h1 h2] at h
      exact absurd h h2
  · rw [apply_view h1] at h
    exact absurd h h1

theorem get_name : ∀ (l : List Acc) (n : List Nat), (get l n).name = n
  | [], _ => rfl
  | a :: r, n => by
    rw [get]
    by_cases h : a.name = n
    · rw [if_pos h]
      exact h
    · rw [if_neg h]
      exact get_name r n
theorem get_none : ∀ {l : List Acc} {n : List Nat}, (∀ a, a ∈ l → a.name ≠ n) → get l n = fresh n
  | [], _, _ => rfl
  | a :: r, n, h => by
    rw [get, if_neg (h a List.mem_cons_self)]
    exact get_none (fun b hb => h b (List.mem_cons_of_mem _ hb))
theorem get_mem : ∀ (l : List Acc) (n : List Nat), get l n ∈ l ∨ get l n = fresh n
  | [], _ => Or.inr rfl
  | a :: r, n => by
    rw [get]
    by_cases h : a.name = n
    · rw [if_pos h]
      exact Or.inl List.mem_cons_self
    · rw [if_neg h]
      rcases get_mem r n with q | q
      · exact Or.inl (List.mem_cons_of_mem _ q)
      · exact Or.inr q
/-- The account of e's stream is changed, all others are as they were. -/
theorem put_mem : ∀ {l : List Acc} {e : Ev}, Sorted l → ∀ a, a ∈ put l e → a ∈ l ∨ a = chg (get l e.name) e
  | [], e, _, a, ha => Or.inr (List.mem_singleton.1 ha)
  | x :: r, e, hs, a, ha => by
    have hs' := List.pairwise_cons.1 hs
    rw [put] at ha
    by_cases h1 : lt x.name e.name = true
    · rw [if_pos h1] at ha
      rw [get, if_neg (lt_ne h1)]
      rcases List.mem_cons.1 ha with rfl | ha
      · exact Or.inl List.mem_cons_self
      · rcases put_mem hs'.2 a ha with q | q
        · exact Or.inl (List.mem_cons_of_mem _ q)
        · exact Or.inr q
    · rw [if_neg h1] at ha
      by_cases h2 : x.name = e.name
      · rw [if_pos h2] at ha
        rw [get, if_pos h2]
        rcases List.mem_cons.1 ha with rfl | ha
        · exact Or.inr rfl
        · exact Or.inl (List.mem_cons_of_mem _ ha)
      · rw [if_neg h2] at ha
        have h3 := lt_of_not (by simpa using h1) h2
        rw [get_none (n := e.name) (l := x :: r) (fun b hb q => by
          rcases List.mem_cons.1 hb with rfl | hb
          · exact h2 q
          · have := lt_trans h3 (hs'.1 b hb)
            exact lt_ne this q.symm)]
        rcases List.mem_cons.1 ha with rfl | ha
        · exact Or.inr rfl
        · exact Or.inl ha
theorem put_low : ∀ {l : List Acc} {e : Ev} {n : List Nat}, (∀ a, a ∈ l → lt n a.name = true) → lt n e.name = true → ∀ a, a ∈ put l e → lt n a.name = true
  | [], e, n, _, h, a, ha => by
    rw [List.mem_singleton.1 ha]
    exact h
  | x :: r, e, n, hl, h, a, ha => by
    rw [put] at ha
    by_cases h1 : lt x.name e.name = true
    · rw [if_pos h1] at ha
      rcases List.mem_cons.1 ha with rfl | ha
      · exact hl a List.mem_cons_self
      · exact put_low (fun b hb => hl b (List.mem_cons_of_mem _ hb)) h a ha
    · rw [if_neg h1] at ha
      by_cases h2 : x.name = e.name
      · rw [if_pos h2] at ha
        rcases List.mem_cons.1 ha with rfl | ha
        · exact hl x List.mem_cons_self
        · exact hl a (List.mem_cons_of_mem _ ha)
      · rw [if_neg h2] at ha
        rcases List.mem_cons.1 ha with rfl | ha
        · exact h
        · exact hl a ha
theorem put_sorted : ∀ {l : List Acc} {e : Ev}, Sorted l → Sorted (put l e)
  | [], e, _ => List.pairwise_singleton _ _
  | x :: r, e, hs => by
    have hs' := List.pairwise_cons.1 hs
    rw [put]
    by_cases h1 : lt x.name e.name = true
    · rw [if_pos h1]
      exact List.pairwise_cons.2 ⟨put_low hs'.1 h1, put_sorted hs'.2⟩
    · rw [if_neg h1]
      by_cases h2 : x.name = e.name
      · rw [if_pos h2]
        exact List.pairwise_cons.2 ⟨fun b hb => hs'.1 b hb, hs'.2⟩
      · rw [if_neg h2]
        have h3 := lt_of_not (by simpa using h1) h2
        refine List.pairwise_cons.2 ⟨fun b hb => ?_, hs⟩
        rcases List.mem_cons.1 hb with rfl | hb
        · exact h3
        · exact lt_trans h3 (hs'.1 b hb)
theorem put_total : ∀ (l : List Acc) (e : Ev), total (put l e) = total l + 1
  | [], e => rfl
  | x :: r, e => by
    rw [put]
    by_cases h1 : lt x.name e.name = true
    · rw [if_pos h1]
      show x.cnt + total (put r e) = x.cnt + total r + 1
      rw [put_total r e]
      omega
    · rw [if_neg h1]
      by_cases h2 : x.name = e.name
      · rw [if_pos h2]
        show x.cnt + 1 + total r = x.cnt + total r + 1
        omega
      · rw [if_neg h2]
        show 0 + 1 + (x.cnt + total r) = x.cnt + total r + 1
        omega
theorem wrongA_more {u : Int} {a : Acc} (h : wrongA u a = 0) : wrongA (u + 1) a = 0 := by
  obtain ⟨h1, h2, h3, h4, h5⟩ := wrongA_inv h
  exact wrongA_ok h1 (by omega)
theorem chg_right {u : Int} {a : Acc} {e : Ev} (hu : 0 ≤ u) (hn : named a.name) (h : wrongA u a = 0 ∨ a = fresh a.name) (he : wrongE e = 0) : wrongA (u + 1) (chg a e) = 0 := by
  obtain ⟨_, _, _, k1, k2⟩ := wrongE_inv he
  have hb : 0 ≤ a.cnt ∧ a.cnt ≤ u ∧ a.sum ≤ 1000000 * a.cnt ∧ -(1000000 * a.cnt) ≤ a.sum := by
    rcases h with h | h
    · obtain ⟨_, h2, h3, h4, h5⟩ := wrongA_inv h
      exact ⟨by omega, h3, h4, h5⟩
    · have e1 : a.cnt = 0 := by rw [h]; rfl
      have e2 : a.sum = 0 := by rw [h]; rfl
      exact ⟨by omega, by omega, by omega, by omega⟩
  refine wrongA_ok hn ?_
  show ¬ (a.cnt + 1 < 1 ∨ u + 1 < a.cnt + 1 ∨ 1000000 * (a.cnt + 1) < (if e.kind = 2 then a.sum + e.num else if e.kind = 3 then a.sum - e.num else a.sum) ∨ (if e.kind = 2 then a.sum + e.num else if e.kind = 3 then a.sum - e.num else a.sum) < -(1000000 * (a.cnt + 1)))
  by_cases q : e.kind = 2
  · rw [if_pos q]
    omega
  · rw [if_neg q]
    by_cases q2 : e.kind = 3
    · rw [if_pos q2]
      omega
    · rw [if_neg q2]
      omega
theorem right_put {u : Int} {l : List Acc} {e : Ev} (h : Right u l) (he : wrongE e = 0) (hu : u ≠ 150) : Right (u + 1) (put l e) := by
  have h1 := h.lo
  have h2 := h.hi
  refine ⟨by omega, by omega, fun a ha => ?_, put_sorted h.srt, by rw [put_total, h.tot]⟩
  rcases put_mem h.srt a ha with q | rfl
  · exact wrongA_more (h.acc a q)
  · refine chg_right h1 (by rw [get_name]; exact (wrongE_inv he).1) ?_ he
    rcases get_mem l e.name with q | q
    · exact Or.inl (h.acc _ q)
    · refine Or.inr ?_
      rw [get_name]
      exact q
theorem put_sums {l : List Acc} {e : Ev} (hs : Sorted l) (he : wrongE e = 0) (hm : may (get l e.name) e = true) (h : ∀ a, a ∈ l → 0 ≤ a.sum) : ∀ a, a ∈ put l e → 0 ≤ a.sum := by
  intro a ha
  rcases put_mem hs a ha with q | rfl
  · exact h a q
  · have h0 : 0 ≤ (get l e.name).sum := by
      rcases get_mem l e.name with q | q
      · exact h _ q
      · rw [q]
        exact Int.le_refl 0
    obtain ⟨_, _, _, k1, k2⟩ := wrongE_inv he
    generalize get l e.name = x at hm h0
    show 0 ≤ (if e.kind = 2 then x.sum + e.num else if e.kind = 3 then x.sum - e.num else x.sum)
    by_cases q : e.kind = 2
    · rw [if_pos q]
      omega
    · rw [if_neg q]
      by_cases q2 : e.kind = 3
      · rw [if_pos q2]
        unfold may at hm
        rw [if_neg (by omega), if_neg (by omega), if_pos q2] at hm
        simp at hm
        omega
      · rw [if_neg q2]
        exact h0
/-! ### Where it is put -/
/-- Below i all names are less, from i on none is. -/
def Cut (l : List Acc) (n : List Nat) (i : Nat) : Prop := i ≤ l.length ∧ (∀ j a, j < i → l[j]? = some a → lt a.name n = true) ∧ ∀ j a, i ≤ j → l[j]? = some a → lt a.name n = false
theorem Cut.tail {x : Acc} {r : List Acc} {n : List Nat} {i : Nat} (h : Cut (x :: r) n (i + 1)) : Cut r n i :=
  ⟨by have := h.1; simp at this; omega, fun j a hj ha => h.2.1 (j + 1) a (by omega) (by simpa using ha), fun j a hj ha => h.2.2 (j + 1) a (by omega) (by simpa using ha)⟩
theorem put_there : ∀ {l : List Acc} {e : Ev} {i : Nat} {a : Acc}, Cut l e.name i → l[i]? = some a → a.name = e.name → put l e = l.set i (chg a e)
  | [], e, i, a, _, h, _ => by cases h
  | x :: r, e, 0, a, hc, h, hn => by
    cases h
    rw [put, if_neg (by rw [hc.2.2 0 x (Nat.le_refl _) rfl]; decide), if_pos hn]
    rfl
  | x :: r, e, i + 1, a, hc, h, hn => by
    rw [put, if_pos (hc.2.1 0 x (by omega) rfl), put_there hc.tail (by simpa using h) hn]
    rfl
theorem put_new : ∀ {l : List Acc} {e : Ev} {i : Nat}, Cut l e.name i → (∀ a, l[i]? = some a → a.name ≠ e.name) → put l e = l.take i ++ chg (fresh e.name) e :: l.drop i
  | [], e, i, hc, _ => by simp [put]
  | x :: r, e, 0, hc, h => by
    rw [put, if_neg (by rw [hc.2.2 0 x (Nat.le_refl _) rfl]; decide), if_neg (h x rfl)]
    rfl
  | x :: r, e, i + 1, hc, h => by
    rw [put, if_pos (hc.2.1 0 x (by omega) rfl), put_new hc.tail (fun a ha => h a (by simpa using ha))]
    rfl
/-- Of an account that rises past a name none behind is less. -/
theorem sorted_le {l : List Acc} (hs : Sorted l) {j k : Nat} {a b : Acc} (hj : l[j]? = some a) (hk : l[k]? = some b) (h : j ≤ k) {n : List Nat} (hb : lt b.name n = true) : lt a.name n = true := by
  rcases Nat.lt_or_ge j k with q | q
  · obtain ⟨h1, rfl⟩ := List.getElem?_eq_some_iff.1 hj
    obtain ⟨h2, rfl⟩ := List.getElem?_eq_some_iff.1 hk
    exact lt_trans (List.pairwise_iff_getElem.1 hs j k h1 h2 q) hb
  · obtain rfl : j = k := by omega
    rw [hj] at hk
    cases hk
    exact hb
/-- As the document puts it: what is left to be told of the accounts. -/
def rest (n : List Nat) (a : Acc) : Bool → List Acc → List Acc
  | d, [] => if d = true then [] else [a]
  | d, x :: r => (if d = false ∧ lt x.name n = false then [a] else []) ++ ((if x.name = n then [] else [x]) ++ rest n a (d || !lt x.name n) r)
theorem rest_done : ∀ {l : List Acc} {n : List Nat} {a : Acc}, (∀ x, x ∈ l → x.name ≠ n) → rest n a true l = l
  | [], _, _, _ => rfl
  | x :: r, n, a, h => by
    rw [rest, if_neg (fun q => by cases q.1), if_neg (h x List.mem_cons_self), Bool.true_or, rest_done (fun y hy => h y (List.mem_cons_of_mem _ hy))]
    rfl
theorem rest_put : ∀ {l : List Acc} {e : Ev}, Sorted l → rest e.name (chg (get l e.name) e) false l = put l e
  | [], e, _ => rfl
  | x :: r, e, hs => by
    have hs' := List.pairwise_cons.1 hs
    rw [rest, put, get]
    by_cases h1 : lt x.name e.name = true
    · rw [if_neg (fun q => by rw [h1] at q; cases q.2), if_neg (lt_ne h1), if_neg (lt_ne h1), if_pos h1, h1]
      show x :: rest e.name _ false r = _
      rw [rest_put hs'.2]
    · have h1' : lt x.name e.name = false := by simpa using h1
      rw [if_pos ⟨rfl, h1'⟩, if_neg h1, h1']
      by_cases h2 : x.name = e.name
      · rw [if_pos h2, if_pos h2, if_pos h2]
        show chg x e :: rest e.name (chg x e) true r = _
        rw [rest_done (fun y hy q => by
          have := hs'.1 y hy
          exact lt_ne this (h2.trans q.symm))]
      · have h3 := lt_of_not h1' h2
        have hn : ∀ y, y ∈ r → y.name ≠ e.name := fun y hy q => lt_ne (lt_trans h3 (hs'.1 y hy)) q.symm
        rw [if_neg h2, if_neg h2, if_neg h2, get_none hn]
        show chg (fresh e.name) e :: x :: rest e.name _ true r = _
        rw [rest_done hn]

/-! ### Events, one after the other -/
def foldL : Int → List Acc → Nat → List Ev → (Nat × Nat) × Int × List Acc
  | u, l, _, [] => ((0, 0), u, l)
  | u, l, i, e :: r => if (apply u l e).1 = 0 then foldL (apply u l e).2.1 (apply u l e).2.2 (i + 1) r else (((apply u l e).1, i), 0, [])
theorem foldL_next {u : Int} {l : List Acc} {i : Nat} {e : Ev} {r : List Ev} (h : (apply u l e).1 = 0) : foldL u l i (e :: r) = foldL (apply u l e).2.1 (apply u l e).2.2 (i + 1) r := by rw [foldL, if_pos h]
theorem foldL_bad {u : Int} {l : List Acc} {i : Nat} {e : Ev} {r : List Ev} (h : (apply u l e).1 ≠ 0) : foldL u l i (e :: r) = (((apply u l e).1, i), 0, []) := by rw [foldL, if_neg h]
def fold (u : Int) (l : List Acc) (es : List Ev) : (Nat × Nat) × Int × List Acc := if (wrongV u l).1 = 0 then foldL u l 0 es else (((wrongV u l).1, 0), 0, [])
theorem fold_bad {u : Int} {l : List Acc} {es : List Ev} (h : (wrongV u l).1 ≠ 0) : fold u l es = (((wrongV u l).1, 0), 0, []) := if_neg h
theorem fold_else {u : Int} {l : List Acc} {es : List Ev} (h : (wrongV u l).1 = 0) : fold u l es = foldL u l 0 es := if_pos h
theorem fold_right {u : Int} {l : List Acc} {es : List Ev} (h : (fold u l es).1.1 = 0) : Right u l := by
  by_cases q : (wrongV u l).1 = 0
  · exact right_of q
  · rw [fold_bad q] at h
    exact absurd h q
theorem foldL_keeps : ∀ {es : List Ev} {u : Int} {l : List Acc} {i : Nat}, Right u l → (foldL u l i es).1.1 = 0 → Right (foldL u l i es).2.1 (foldL u l i es).2.2 ∧ (foldL u l i es).2.1 = u + es.length ∧ ((∀ a, a ∈ l → 0 ≤ a.sum) → ∀ a, a ∈ (foldL u l i es).2.2 → 0 ≤ a.sum)
  | [], u, l, i, hr, _ => ⟨hr, by show u = u + (0 : Nat); omega, fun h => h⟩
  | e :: r, u, l, i, hr, h => by
    by_cases q : (apply u l e).1 = 0
    · rw [foldL_next q] at h ⊢
      obtain ⟨_, h2, h3, h4, h5⟩ := apply_inv q
      rw [h5] at h ⊢
      obtain ⟨k1, k2, k3⟩ := foldL_keeps (right_put hr h2 h3) h
      refine ⟨k1, ?_, fun hs => k3 (put_sums hr.srt h2 h4 hs)⟩
      rw [k2, List.length_cons]
      omega
    · rw [foldL_bad q] at h
      exact absurd h q
theorem foldL_at : ∀ {es : List Ev} {u : Int} {l : List Acc} {i : Nat} (j : Nat), (foldL u l i es).1.1 = 0 → foldL u l j es = ((0, 0), (foldL u l i es).2)
  | [], _, _, _, _, _ => rfl
  | e :: r, u, l, i, j, h => by
    by_cases q : (apply u l e).1 = 0
    · rw [foldL_next q] at h ⊢
      rw [foldL_next q]
      exact foldL_at (j + 1) h
    · rw [foldL_bad q] at h
      exact absurd h q
theorem fold_keeps {u : Int} {l : List Acc} {es : List Ev} (h : (fold u l es).1.1 = 0) : Right (fold u l es).2.1 (fold u l es).2.2 ∧ (fold u l es).2.1 = u + es.length ∧ ((∀ a, a ∈ l → 0 ≤ a.sum) → ∀ a, a ∈ (fold u l es).2.2 → 0 ≤ a.sum) := by
  have hr := fold_right h
  have hw : (wrongV u l).1 = 0 := by rw [hr.ok]
  rw [fold_else hw] at h ⊢
  exact foldL_keeps hr h

end Go.Proofs.YtmcaejooaaahdaaGreat.Vw
