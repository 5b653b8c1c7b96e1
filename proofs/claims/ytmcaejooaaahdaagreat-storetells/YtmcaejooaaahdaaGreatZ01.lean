/-
  Texts of the proof, joined: EPure.
-/

/-
  The plain form of events as bytes: what is written, what is read. Nothing of the program is named here.
-/
namespace Go.Proofs.YtmcaejooaaahdaaGreat.Evt

/-- An event: its stream's bytes, its kind, its number. -/
structure Ev where
  name : List Nat
  kind : Int
  num : Int
/-- A batch. -/
structure Bat where
  cmd : Int
  evs : List Ev

/-! ### What is wrong -/
def letter (c : Nat) : Bool := decide ((97 ≤ c ∧ c ≤ 122) ∨ (48 ≤ c ∧ c ≤ 57))
theorem letter_iff (c : Nat) : letter c = true ↔ (97 ≤ c ∧ c ≤ 122) ∨ (48 ≤ c ∧ c ≤ 57) := decide_eq_true_iff
abbrev named (s : List Nat) : Prop := s.all letter = true ∧ 1 ≤ s.length ∧ s.length ≤ 10
def wrongE (e : Ev) : Nat := if ¬ named e.name then 7 else if e.kind < 1 ∨ 4 < e.kind then 1 else if e.num < 0 ∨ 1000000 < e.num ∨ (0 < e.num ∧ e.kind ≠ 2 ∧ e.kind ≠ 3) then 3 else 0
theorem wrongE_name {e : Ev} (h : ¬ named e.name) : wrongE e = 7 := if_pos h
theorem wrongE_kind {e : Ev} (h : named e.name) (h2 : e.kind < 1 ∨ 4 < e.kind) : wrongE e = 1 := by unfold wrongE; rw [if_neg (fun k => k h), if_pos h2]
theorem wrongE_range {e : Ev} (h : named e.name) (h2 : ¬ (e.kind < 1 ∨ 4 < e.kind)) (h3 : e.num < 0 ∨ 1000000 < e.num ∨ (0 < e.num ∧ e.kind ≠ 2 ∧ e.kind ≠ 3)) : wrongE e = 3 := by unfold wrongE; rw [if_neg (fun k => k h), if_neg h2, if_pos h3]
theorem wrongE_ok {e : Ev} (h : named e.name) (h2 : ¬ (e.kind < 1 ∨ 4 < e.kind)) (h3 : ¬ (e.num < 0 ∨ 1000000 < e.num ∨ (0 < e.num ∧ e.kind ≠ 2 ∧ e.kind ≠ 3))) : wrongE e = 0 := by unfold wrongE; rw [if_neg (fun k => k h), if_neg h2, if_neg h3]
theorem wrongE_inv {e : Ev} (h : wrongE e = 0) : named e.name ∧ 1 ≤ e.kind ∧ e.kind ≤ 4 ∧ 0 ≤ e.num ∧ e.num ≤ 1000000 := by
  by_cases h1 : named e.name
  · by_cases h2 : e.kind < 1 ∨ 4 < e.kind
    · rw [wrongE_kind h1 h2] at h
      cases h
    · by_cases h3 : e.num < 0 ∨ 1000000 < e.num ∨ (0 < e.num ∧ e.kind ≠ 2 ∧ e.kind ≠ 3)
      · rw [wrongE_range h1 h2 h3] at h
        cases h
      · exact ⟨h1, by omega, by omega, by omega, by omega⟩
  · rw [wrongE_name h1] at h
    cases h

/-- The first event with which something is wrong, counted from i on. -/
def firstE : List Ev → Nat → Nat × Nat
  | [], _ => (0, 0)
  | e :: r, i => if wrongE e = 0 then firstE r (i + 1) else (wrongE e, i)
theorem firstE_at : ∀ (l : List Ev) (i k : Nat), (∀ j, j < k → ∃ e, l[j]? = some e ∧ wrongE e = 0) → firstE l i = firstE (l.drop k) (i + k)
  | l, i, 0, _ => rfl
  | [], i, k + 1, h => by
    obtain ⟨e, he, _⟩ := h 0 (Nat.succ_pos k)
    cases he
  | x :: l, i, k + 1, h => by
    obtain ⟨e, he, hw⟩ := h 0 (Nat.succ_pos k)
    cases he
    show (if wrongE x = 0 then firstE l (i + 1) else _) = firstE (l.drop k) (i + (k + 1))
    rw [if_pos hw, show i + (k + 1) = i + 1 + k by omega]
    exact firstE_at l (i + 1) k (fun j hj => by simpa using h (j + 1) (by omega))
theorem firstE_none (l : List Ev) (i : Nat) (h : ∀ e, e ∈ l → wrongE e = 0) : firstE l i = (0, 0) := by
  rw [firstE_at l i l.length (fun j hj => ⟨l[j], List.getElem?_eq_getElem hj, h _ (List.getElem_mem hj)⟩), List.drop_length]
  rfl
theorem firstE_some (l : List Ev) (k : Nat) (e : Ev) (he : l[k]? = some e) (hw : wrongE e ≠ 0) (h : ∀ j, j < k → ∃ e, l[j]? = some e ∧ wrongE e = 0) : firstE l 0 = (wrongE e, k) := by
  rw [firstE_at l 0 k h, Nat.zero_add]
  obtain ⟨hk, rfl⟩ := List.getElem?_eq_some_iff.1 he
  rw [List.drop_eq_getElem_cons hk]
  exact if_neg hw
theorem firstE_ok : ∀ {l : List Ev} {i : Nat}, (firstE l i).1 = 0 → ∀ e, e ∈ l → wrongE e = 0
  | [], _, _, e, he => by cases he
  | x :: l, i, h, e, he => by
    have h : (if wrongE x = 0 then firstE l (i + 1) else (wrongE x, i)).1 = 0 := h
    by_cases hx : wrongE x = 0
    · rw [if_pos hx] at h
      rcases List.mem_cons.1 he with rfl | he
      · exact hx
      · exact firstE_ok h e he
    · rw [if_neg hx] at h
      exact absurd h hx

def wrongB (b : Bat) : Nat × Nat := if b.cmd < 1 ∨ 1000000 < b.cmd then (3, 0) else if b.evs.length = 0 ∨ 10 < b.evs.length then (5, 0) else firstE b.evs 0
theorem wrongB_range {b : Bat} (h : b.cmd < 1 ∨ 1000000 < b.cmd) : wrongB b = (3, 0) := if_pos h
theorem wrongB_many {b : Bat} (h : ¬ (b.cmd < 1 ∨ 1000000 < b.cmd)) (h2 : b.evs.length = 0 ∨ 10 < b.evs.length) : wrongB b = (5, 0) := by unfold wrongB; rw [if_neg h, if_pos h2]
theorem wrongB_else {b : Bat} (h : ¬ (b.cmd < 1 ∨ 1000000 < b.cmd)) (h2 : ¬ (b.evs.length = 0 ∨ 10 < b.evs.length)) : wrongB b = firstE b.evs 0 := by unfold wrongB; rw [if_neg h, if_neg h2]
theorem wrongB_inv {b : Bat} (h : (wrongB b).1 = 0) : 1 ≤ b.cmd ∧ b.cmd ≤ 1000000 ∧ 1 ≤ b.evs.length ∧ b.evs.length ≤ 10 ∧ ∀ e, e ∈ b.evs → wrongE e = 0 := by
  by_cases h1 : b.cmd < 1 ∨ 1000000 < b.cmd
  · rw [wrongB_range h1] at h
    cases h
  · by_cases h2 : b.evs.length = 0 ∨ 10 < b.evs.length
    · rw [wrongB_many h1 h2] at h
      cases h
    · rw [wrongB_else h1 h2] at h
      exact ⟨by omega, by omega, by omega, by omega, firstE_ok h⟩

/-- The first batch with which something is wrong, counted from i on. -/
def firstB : List Bat → Nat → Nat × Nat
  | [], _ => (0, 0)
  | b :: r, i => if (wrongB b).1 = 0 then firstB r (i + 1) else ((wrongB b).1, i)
theorem firstB_at : ∀ (l : List Bat) (i k : Nat), (∀ j, j < k → ∃ e, l[j]? = some e ∧ (wrongB e).1 = 0) → firstB l i = firstB (l.drop k) (i + k)
  | l, i, 0, _ => rfl
  | [], i, k + 1, h => by
    obtain ⟨e, he, _⟩ := h 0 (Nat.succ_pos k)
    cases he
  | x :: l, i, k + 1, h => by
    obtain ⟨e, he, hw⟩ := h 0 (Nat.succ_pos k)
    cases he
    show (if (wrongB x).1 = 0 then firstB l (i + 1) else _) = firstB (l.drop k) (i + (k + 1))
    rw [if_pos hw, show i + (k + 1) = i + 1 + k by omega]
    exact firstB_at l (i + 1) k (fun j hj => by simpa using h (j + 1) (by omega))
theorem firstB_none (l : List Bat) (i : Nat) (h : ∀ e, e ∈ l → (wrongB e).1 = 0) : firstB l i = (0, 0) := by
  rw [firstB_at l i l.length (fun j hj => ⟨l[j], List.getElem?_eq_getElem hj, h _ (List.getElem_mem hj)⟩), List.drop_length]
  rfl
theorem firstB_some (l : List Bat) (k : Nat) (e : Bat) (he : l[k]? = some e) (hw : (wrongB e).1 ≠ 0) (h : ∀ j, j < k → ∃ e, l[j]? = some e ∧ (wrongB e).1 = 0) : firstB l 0 = ((wrongB e).1, k) := by
  rw [firstB_at l 0 k h, Nat.zero_add]
  obtain ⟨hk, rfl⟩ := List.getElem?_eq_some_iff.1 he
  rw [List.drop_eq_getElem_cons hk]
  exact if_neg hw
theorem firstB_ok : ∀ {l : List Bat} {i : Nat}, (firstB l i).1 = 0 → ∀ e, e ∈ l → (wrongB e).1 = 0
  | [], _, _, e, he => by cases he
  | x :: l, i, h, e, he => by
    have h : (if (wrongB x).1 = 0 then firstB l (i + 1) else ((wrongB x).1, i)).1 = 0 := h
    by_cases hx : (wrongB x).1 = 0
    · rw [if_pos hx] at h
      rcases List.mem_cons.1 he with rfl | he
      · exact hx
      · exact firstB_ok h e he
    · rw [if_neg hx] at h
      exact absurd h hx
/-- What Bytes tells. -/
def wrongL (l : List Bat) : Nat × Nat := if 150 < l.length then (5, 0) else firstB l 0
theorem wrongL_inv {l : List Bat} (h : (wrongL l).1 = 0) : l.length ≤ 150 ∧ ∀ b, b ∈ l → (wrongB b).1 = 0 := by
  unfold wrongL at h
  split at h
  · cases h
  · exact ⟨by omega, firstB_ok h⟩

/-! ### What is written -/
def three (n : Nat) : List Nat := [n / 65536, n / 256 % 256, n % 256]
def encE (e : Ev) : List Nat := e.name.length :: e.name ++ (e.kind.toNat :: three e.num.toNat)
def encB (b : Bat) : List Nat := three b.cmd.toNat ++ (b.evs.length :: b.evs.flatMap encE)
def encL (l : List Bat) : List Nat := l.length :: l.flatMap encB
/-! ### What is read -/
/-- A number of k bytes, the high ones first. -/
def num : Nat → Nat → List Nat → Option (Nat × List Nat)
  | 0, acc, r => some (acc, r)
  | _ + 1, _, [] => none
  | k + 1, acc, x :: r => num k (256 * acc + x) r
def getE (r : List Nat) : Option (Ev × List Nat) :=
  match num 1 0 r with
  | none => none
  | some (n, r) => if r.length < n then none else
    match num 1 0 (r.drop n) with
    | none => none
    | some (k, r') => match num 3 0 r' with
      | none => none
      | some (m, r'') => some (⟨r.take n, k, m⟩, r'')
def getEs : Nat → List Nat → Option (List Ev × List Nat)
  | 0, r => some ([], r)
  | m + 1, r => match getE r with
    | none => none
    | some (e, r) => match getEs m r with
      | none => none
      | some (l, r) => some (e :: l, r)
def getB (r : List Nat) : Option (Bat × List Nat) :=
  match num 3 0 r with
  | none => none
  | some (c, r) => match num 1 0 r with
    | none => none
    | some (m, r) => match getEs m r with
      | none => none
      | some (l, r) => some (⟨c, l⟩, r)
def getBs : Nat → List Nat → Option (List Bat × List Nat)
  | 0, r => some ([], r)
  | m + 1, r => match getB r with
    | none => none
    | some (e, r) => match getBs m r with
      | none => none
      | some (l, r) => some (e :: l, r)
def getL (r : List Nat) : Option (List Bat) :=
  match num 1 0 r with
  | none => none
  | some (m, r) => match getBs m r with
    | none => none
    | some (l, r) => if r = [] then some l else none
/-- What is told of bytes. -/
def parseE (r : List Nat) : Nat := match getL r with | none => 2 | some l => (wrongL l).1
def parse (r : List Nat) : List Bat := match getL r with | none => [] | some l => if (wrongL l).1 = 0 then l else []

/-! ### What is written is read -/
theorem num_one (x : Nat) (r : List Nat) : num 1 0 (x :: r) = some (x, r) := by
  show some (256 * 0 + x, r) = _
  rw [Nat.mul_zero, Nat.zero_add]
theorem num_three (n : Nat) (r : List Nat) : num 3 0 (three n ++ r) = some (n, r) := by
  show some (256 * (256 * (256 * 0 + n / 65536) + n / 256 % 256) + n % 256, r) = _
  rw [show 256 * (256 * (256 * 0 + n / 65536) + n / 256 % 256) + n % 256 = n by omega]
theorem getE_enc {e : Ev} (h : wrongE e = 0) (r : List Nat) : getE (encE e ++ r) = some (e, r) := by
  obtain ⟨_, h2, h3, h4, h5⟩ := wrongE_inv h
  unfold getE encE
  rw [List.cons_append, List.cons_append, num_one]
  show (if (e.name ++ (e.kind.toNat :: three e.num.toNat) ++ r).length < e.name.length then none else _) = _
  rw [if_neg (by simp), List.append_assoc, List.drop_left, List.take_left, List.cons_append, num_one]
  show (match num 3 0 (three e.num.toNat ++ r) with | none => none | some (m, r'') => some ((⟨e.name, (e.kind.toNat : Int), (m : Int)⟩ : Ev), r'')) = _
  rw [num_three _]
  show some ((⟨e.name, ((e.kind.toNat : Nat) : Int), ((e.num.toNat : Nat) : Int)⟩ : Ev), r) = _
  rw [Int.toNat_of_nonneg (by omega), Int.toNat_of_nonneg h4]
theorem getEs_enc : ∀ {l : List Ev}, (∀ e, e ∈ l → wrongE e = 0) → ∀ r, getEs l.length (l.flatMap encE ++ r) = some (l, r)
  | [], _, _ => rfl
  | e :: l, h, r => by
    show (match getE ((e :: l).flatMap encE ++ r) with | none => none | some (e, r) => match getEs l.length r with | none => none | some (l, r) => some (e :: l, r)) = _
    rw [List.flatMap_cons, List.append_assoc, getE_enc (h e List.mem_cons_self)]
    show (match getEs l.length (l.flatMap encE ++ r) with | none => none | some (l, r) => some (e :: l, r)) = _
    rw [getEs_enc (fun x hx => h x (List.mem_cons_of_mem _ hx))]
theorem getB_enc {b : Bat} (h : (wrongB b).1 = 0) (r : List Nat) : getB (encB b ++ r) = some (b, r) := by
  obtain ⟨h1, h2, h3, h4, h5⟩ := wrongB_inv h
  unfold getB encB
  rw [List.append_assoc, num_three _]
  show (match num 1 0 ((b.evs.length :: b.evs.flatMap encE) ++ r) with | none => none | some (m, r) => match getEs m r with | none => none | some (l, r) => some ((⟨((b.cmd.toNat : Nat) : Int), l⟩ : Bat), r)) = _
  rw [List.cons_append, num_one]
  show (match getEs b.evs.length (b.evs.flatMap encE ++ r) with | none => none | some (l, r) => some ((⟨((b.cmd.toNat : Nat) : Int), l⟩ : Bat), r)) = _
  rw [getEs_enc h5, Int.toNat_of_nonneg (by omega)]
theorem getBs_enc : ∀ {l : List Bat}, (∀ e, e ∈ l → (wrongB e).1 = 0) → ∀ r, getBs l.length (l.flatMap encB ++ r) = some (l, r)
  | [], _, _ => rfl
  | e :: l, h, r => by
    show (match getB ((e :: l).flatMap encB ++ r) with | none => none | some (e, r) => match getBs l.length r with | none => none | some (l, r) => some (e :: l, r)) = _
    rw [List.flatMap_cons, List.append_assoc, getB_enc (h e List.mem_cons_self)]
    show (match getBs l.length (l.flatMap encB ++ r) with | none => none | some (l, r) => some (e :: l, r)) = _
    rw [getBs_enc (fun x hx => h x (List.mem_cons_of_mem _ hx))]
theorem getL_enc {l : List Bat} (h : (wrongL l).1 = 0) : getL (encL l) = some l := by
  obtain ⟨h1, h2⟩ := wrongL_inv h
  unfold getL encL
  rw [num_one]
  show (match getBs l.length (l.flatMap encB) with | none => none | some (l, r) => if r = [] then some l else none) = _
  have := getBs_enc h2 []
  rw [List.append_nil] at this
  rw [this]
  exact if_pos rfl
theorem parse_enc {l : List Bat} (h : (wrongL l).1 = 0) : parseE (encL l) = 0 ∧ parse (encL l) = l := by
  unfold parseE parse
  rw [getL_enc h]
  exact ⟨h, if_pos h⟩

/-! ### What is read was so written -/
def Bytes (r : List Nat) : Prop := ∀ x, x ∈ r → x < 256
theorem Bytes.tail {x : Nat} {r : List Nat} (h : Bytes (x :: r)) : Bytes r := fun y hy => h y (List.mem_cons_of_mem _ hy)
theorem Bytes.right {a b : List Nat} (h : Bytes (a ++ b)) : Bytes b := fun x hx => h x (List.mem_append_right _ hx)
/-! ### One behind the other -/
end Go.Proofs.YtmcaejooaaahdaaGreat.Evt
