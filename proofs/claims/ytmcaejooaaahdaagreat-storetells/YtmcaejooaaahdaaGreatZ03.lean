/-
  Texts of the proof, joined: HPure, HDisk, HHurt.
-/
import Derived.Test.YtmcaejooaaahdaaGreatZ02
namespace Go.Proofs.YtmcaejooaaahdaaGreat.Sto
open Evt (Ev Bat)

/-- A disk: what it has of which segment. -/
structure Disk where
  gone : Bool
  bl : List (Int × List Nat)
structure St where
  disks : List Disk
  segs : Nat
  tail : List Bat
  seen : List Int
  u : Int
  acc : List Vw.Acc
/-- Data and spare shards, batches a segment. -/
structure Cfg where
  d : Nat
  s : Nat
  b : Nat
structure Do where
  kind : Int
  n : Int
  seg : Int
  pos : Int
  turn : Nat
  bat : Bat
  name : List Nat
  ver : Int
structure Ans where
  err : Nat
  n : Int
  evs : List Ev
  vu : Int
  vl : List Vw.Acc
def no (e : Nat) : Ans := ⟨e, 0, [], 0, []⟩
def told (n : Int) : Ans := ⟨0, n, [], 0, []⟩
/-- What chapter 6 tells: Lay, Read, Bad, Mend. -/
structure Six where
  lay : List Nat → Nat → Cfg → Nat × List (List Nat)
  read : List (List Nat) → Nat → Cfg → Nat × List Nat
  bad : List (List Nat) → Nat → List Nat
  mend : List (List Nat) → Nat → Cfg → Nat × List (List Nat)

/-! ### Blocks -/
def pickB (k : Int) : List (Int × List Nat) → List Nat → List Nat
  | [], r => r
  | h :: t, r => pickB k t (if h.1 = k then h.2 else r)
def blocks (ds : List Disk) (k : Int) : List (List Nat) := ds.map fun d => if d.gone then [] else pickB k d.bl []
def ins (k : Int) (x : List Nat) : Bool → List (Int × List Nat) → List (Int × List Nat)
  | f, [] => if f then [] else [(k, x)]
  | f, h :: t => (if k ≤ h.1 ∧ f = false then [(k, x)] else []) ++ ((if h.1 = k then [] else [h]) ++ ins k x (f || decide (k ≤ h.1)) t)
def write (k : Int) (l : List (List Nat)) : Nat → List Disk → List Disk
  | _, [] => []
  | i, d :: r => (if d.gone then d else ⟨false, ins k (l.getD i []) false d.bl⟩) :: write k l (i + 1) r

/-! ### All events -/
def evsOf (l : List Bat) : List Ev := l.flatMap (·.evs)
def allS (X : Six) (c : Cfg) (ds : List Disk) : Nat → Nat → List Ev → Nat × List Ev
  | 0, _, out => (0, out)
  | m + 1, k, out =>
    if (X.read (blocks ds k) k c).1 ≠ 0 then ((X.read (blocks ds k) k c).1, [])
    else if Evt.parseE (X.read (blocks ds k) k c).2 ≠ 0 then (Evt.parseE (X.read (blocks ds k) k c).2, [])
    else allS X c ds m (k + 1) (out ++ evsOf (Evt.parse (X.read (blocks ds k) k c).2))
def all (X : Six) (c : Cfg) (s : St) : Nat × List Ev :=
  if (allS X c s.disks s.segs 0 []).1 ≠ 0 then ((allS X c s.disks s.segs 0 []).1, []) else (0, (allS X c s.disks s.segs 0 []).2 ++ evsOf s.tail)

/-! ### What is put in -/
/-- Where a command comes among those that were done. -/
def below (c : Int) (l : List Int) : Nat := (l.filter fun x => decide (x < c)).length
/-- A batch that may come: behind Tail, or on disks. -/
def laid (X : Six) (c : Cfg) (s : St) (b : Bat) (v : Int × List Vw.Acc) : Nat × St :=
  let seen := s.seen.take (below b.cmd s.seen) ++ b.cmd :: s.seen.drop (below b.cmd s.seen)
  if (s.tail ++ [b]).length < c.b then (0, ⟨s.disks, s.segs, s.tail ++ [b], seen, v.1, v.2⟩)
  else if (Evt.wrongL (s.tail ++ [b])).1 ≠ 0 then ((Evt.wrongL (s.tail ++ [b])).1, s)
  else if (X.lay (Evt.encL (s.tail ++ [b])) s.segs c).1 ≠ 0 then ((X.lay (Evt.encL (s.tail ++ [b])) s.segs c).1, s)
  else (0, ⟨write s.segs (X.lay (Evt.encL (s.tail ++ [b])) s.segs c).2 0 s.disks, s.segs + 1, [], seen, v.1, v.2⟩)
def put (X : Six) (c : Cfg) (s : St) (d : Do) : St × Ans :=
  if (Evt.wrongB d.bat).1 ≠ 0 then (s, no (Evt.wrongB d.bat).1)
  else if d.bat.cmd ∈ s.seen then (s, told s.u)
  else if 0 ≤ d.ver ∧ d.ver ≠ (Vw.get s.acc d.name).cnt then (s, no 11)
  else if (Vw.fold s.u s.acc d.bat.evs).1.1 ≠ 0 then (s, no (Vw.fold s.u s.acc d.bat.evs).1.1)
  else if (laid X c s d.bat (Vw.fold s.u s.acc d.bat.evs).2).1 ≠ 0 then (s, no (laid X c s d.bat (Vw.fold s.u s.acc d.bat.evs).2).1)
  else ((laid X c s d.bat (Vw.fold s.u s.acc d.bat.evs).2).2, told (Vw.fold s.u s.acc d.bat.evs).2.1)

/-! ### What else is done -/
def looks (X : Six) (c : Cfg) (s : St) (d : Do) : Ans :=
  if (all X c s).1 ≠ 0 then no (all X c s).1
  else if d.kind = 4 then ⟨(Vw.fold 0 [] (all X c s).2).1.1, (Vw.fold 0 [] (all X c s).2).2.1, [], (Vw.fold 0 [] (all X c s).2).2.1, (Vw.fold 0 [] (all X c s).2).2.2⟩
  else if d.kind = 3 then (if d.n < 0 ∨ ((all X c s).2.length : Int) < d.n then no 3 else ⟨0, (all X c s).2.length, (all X c s).2.drop d.n.toNat, 0, []⟩)
  else if ¬ Evt.named d.name then no 7
  else ⟨0, ((all X c s).2.filter fun e => decide (e.name = d.name)).length, (all X c s).2.filter fun e => decide (e.name = d.name), 0, []⟩
/-- The first block of a segment, a byte of it turned. -/
def spoil (k : Int) (p : Nat) (y : Nat) : List (Int × List Nat) → List (Int × List Nat)
  | [] => []
  | h :: t => if h.1 = k then (k, h.2.set p (h.2.getD p 0 ^^^ y)) :: t else h :: spoil k p y t
def harm (s : St) (d : Do) : St × Ans :=
  match s.disks[d.n.toNat]? with
  | none => (s, no 6)
  | some x =>
    if d.n < 0 then (s, no 6)
    else if d.kind = 5 ∧ x.gone = true then (s, no 8)
    else if d.kind = 5 ∨ d.kind = 6 then ({ s with disks := s.disks.set d.n.toNat ⟨decide (d.kind = 5), []⟩ }, told 0)
    else match x.bl.find? (fun h => decide (h.1 = d.seg)) with
      | none => (s, no 6)
      | some h => if d.pos < 0 ∨ (h.2.length : Int) ≤ d.pos then (s, no 3) else ({ s with disks := s.disks.set d.n.toNat ⟨x.gone, spoil d.seg d.pos.toNat d.turn x.bl⟩ }, told 0)
/-- How many of these lie on disks that are there. -/
def there (ds : List Disk) (l : List Nat) : Nat := (l.filter fun i => match ds[i]? with | some d => !d.gone | none => false).length
def scrub (X : Six) (c : Cfg) : Nat → Nat → List Disk → Nat → Nat → List Disk × Nat × Nat
  | 0, _, ds, e, n => (ds, e, n)
  | m + 1, k, ds, e, n =>
    if X.bad (blocks ds k) k = [] then scrub X c m (k + 1) ds e n
    else if (X.mend (blocks ds k) k c).1 ≠ 0 then scrub X c m (k + 1) ds (if e = 0 then (X.mend (blocks ds k) k c).1 else e) n
    else scrub X c m (k + 1) (write k (X.mend (blocks ds k) k c).2 0 ds) e (n + there ds (X.bad (blocks ds k) k))
def health (X : Six) (ds : List Disk) : Nat → Nat → Nat → Nat
  | 0, _, n => n
  | m + 1, k, n => health X ds m (k + 1) (n + (X.bad (blocks ds k) k).length)
def step (X : Six) (c : Cfg) (s : St) (d : Do) : St × Ans :=
  if d.kind = 1 then put X c s d
  else if d.kind = 2 ∨ d.kind = 3 ∨ d.kind = 4 then (s, looks X c s d)
  else if d.kind = 5 ∨ d.kind = 6 ∨ d.kind = 7 then harm s d
  else if d.kind = 8 then ({ s with disks := (scrub X c s.segs 0 s.disks 0 0).1 }, ⟨(scrub X c s.segs 0 s.disks 0 0).2.1, (scrub X c s.segs 0 s.disks 0 0).2.2, [], 0, []⟩)
  else if d.kind = 9 then (s, told (health X s.disks s.segs 0 0))
  else (s, no 1)
def steps (X : Six) (c : Cfg) : St → List Do → St × List Ans
  | s, [] => (s, [])
  | s, d :: r => ((steps X c (step X c s d).1 r).1, (step X c s d).2 :: (steps X c (step X c s d).1 r).2)
def start (c : Cfg) : St := ⟨List.replicate (c.d + c.s) ⟨false, []⟩, 0, [], [], 0, []⟩
theorem steps_append (X : Six) (c : Cfg) : ∀ (a b : List Do) (s : St), steps X c s (a ++ b) = ((steps X c (steps X c s a).1 b).1, (steps X c s a).2 ++ (steps X c (steps X c s a).1 b).2)
  | [], _, _ => rfl
  | d :: a, b, s => by
    rw [List.cons_append, steps, steps_append X c a b, steps]
    rfl
theorem steps_length (X : Six) (c : Cfg) : ∀ (l : List Do) (s : St), (steps X c s l).2.length = l.length
  | [], _ => rfl
  | d :: r, s => by
    rw [steps]
    show (steps X c (step X c s d).1 r).2.length + 1 = r.length + 1
    rw [steps_length X c r]
/-- What comes of the thing at i: of the store behind those ahead of it. -/
theorem steps_at {X : Six} {c : Cfg} : ∀ {l : List Do} {s : St} {i : Nat} {d : Do}, l[i]? = some d → (steps X c s l).2[i]? = some (step X c (steps X c s (l.take i)).1 d).2
  | [], _, _, _, h => by cases h
  | x :: r, s, 0, d, h => by
    have h : some x = some d := h
    cases h
    rfl
  | x :: r, s, i + 1, d, h => by
    have h : r[i]? = some d := h
    show (steps X c (step X c s x).1 r).2[i]? = some (step X c (steps X c (step X c s x).1 (r.take i)).1 d).2
    exact steps_at h
theorem steps_next {X : Six} {c : Cfg} : ∀ {l : List Do} {s : St} {i : Nat} {d : Do}, l[i]? = some d → (steps X c s (l.take (i + 1))).1 = (step X c (steps X c s (l.take i)).1 d).1
  | [], _, _, _, h => by cases h
  | x :: r, s, 0, d, h => by
    have h : some x = some d := h
    cases h
    rfl
  | x :: r, s, i + 1, d, h => by
    have h : r[i]? = some d := h
    show (steps X c (step X c s x).1 (r.take (i + 1))).1 = (step X c (steps X c (step X c s x).1 (r.take i)).1 d).1
    exact steps_next h

/-! ### What hangs on no disk -/
/-- Nothing but disks has turned. -/
structure Same (s t : St) : Prop where
  seen : t.seen = s.seen
  u : t.u = s.u
  acc : t.acc = s.acc
  tail : t.tail = s.tail
  segs : t.segs = s.segs
theorem Same.refl (s : St) : Same s s := ⟨rfl, rfl, rfl, rfl, rfl⟩
theorem harm_same (s : St) (d : Do) : Same s (harm s d).1 := by
  unfold harm
  split
  · exact Same.refl s
  · split
    · exact Same.refl s
    · split
      · exact Same.refl s
      · split
        · exact ⟨rfl, rfl, rfl, rfl, rfl⟩
        · split
          · exact Same.refl s
          · split
            · exact Same.refl s
            · exact ⟨rfl, rfl, rfl, rfl, rfl⟩
theorem step_same {X : Six} {c : Cfg} {s : St} {d : Do} (h : d.kind ≠ 1) : Same s (step X c s d).1 := by
  unfold step
  rw [if_neg h]
  split
  · exact Same.refl s
  · split
    · exact harm_same s d
    · split
      · exact ⟨rfl, rfl, rfl, rfl, rfl⟩
      · split
        · exact Same.refl s
        · exact Same.refl s
theorem step_put {X : Six} {c : Cfg} {s : St} {d : Do} (h : d.kind = 1) : step X c s d = put X c s d := if_pos h
theorem laid_ok {X : Six} {c : Cfg} {s : St} {b : Bat} {v : Int × List Vw.Acc} (h : (laid X c s b v).1 = 0) :
    (laid X c s b v).2.seen = s.seen.take (below b.cmd s.seen) ++ b.cmd :: s.seen.drop (below b.cmd s.seen) ∧ (laid X c s b v).2.u = v.1 ∧ (laid X c s b v).2.acc = v.2 := by
  unfold laid at h ⊢
  dsimp only at h ⊢
  split
  · exact ⟨rfl, rfl, rfl⟩
  · rename_i h1
    rw [if_neg h1] at h
    split
    · rename_i h2
      rw [if_pos h2] at h
      exact absurd h h2
    · rename_i h2
      rw [if_neg h2] at h
      split
      · rename_i h3
        rw [if_pos h3] at h
        exact absurd h h3
      · exact ⟨rfl, rfl, rfl⟩
/-- What comes of a batch: refused, done already, or its events come. -/
theorem put_ways (X : Six) (c : Cfg) (s : St) (d : Do) :
    ((put X c s d).1 = s ∧ (put X c s d).2.err ≠ 0) ∨
    ((put X c s d).1 = s ∧ (put X c s d).2 = told s.u ∧ d.bat.cmd ∈ s.seen) ∨
    (d.bat.cmd ∉ s.seen ∧ (Vw.fold s.u s.acc d.bat.evs).1.1 = 0 ∧ (put X c s d).2 = told (Vw.fold s.u s.acc d.bat.evs).2.1 ∧ (put X c s d).1.u = (Vw.fold s.u s.acc d.bat.evs).2.1 ∧ (put X c s d).1.acc = (Vw.fold s.u s.acc d.bat.evs).2.2 ∧
      (put X c s d).1.seen = s.seen.take (below d.bat.cmd s.seen) ++ d.bat.cmd :: s.seen.drop (below d.bat.cmd s.seen) ∧ (0 ≤ d.ver → d.ver = (Vw.get s.acc d.name).cnt)) := by
  unfold put
  by_cases h1 : (Evt.wrongB d.bat).1 ≠ 0
  · rw [if_pos h1]
    exact Or.inl ⟨rfl, h1⟩
  rw [if_neg h1]
  by_cases h2 : d.bat.cmd ∈ s.seen
  · rw [if_pos h2]
    exact Or.inr (Or.inl ⟨rfl, rfl, h2⟩)
  rw [if_neg h2]
  by_cases h3 : 0 ≤ d.ver ∧ d.ver ≠ (Vw.get s.acc d.name).cnt
  · rw [if_pos h3]
    exact Or.inl ⟨rfl, by show (11 : Nat) ≠ 0; decide⟩
  rw [if_neg h3]
  by_cases h4 : (Vw.fold s.u s.acc d.bat.evs).1.1 ≠ 0
  · rw [if_pos h4]
    exact Or.inl ⟨rfl, h4⟩
  rw [if_neg h4]
  by_cases h5 : (laid X c s d.bat (Vw.fold s.u s.acc d.bat.evs).2).1 ≠ 0
  · rw [if_pos h5]
    exact Or.inl ⟨rfl, h5⟩
  rw [if_neg h5]
  obtain ⟨q1, q2, q3⟩ := laid_ok (Decidable.not_not.1 h5)
  exact Or.inr (Or.inr ⟨h2, Decidable.not_not.1 h4, rfl, q2, q3, q1, fun h => Decidable.not_not.1 fun q => h3 ⟨h, q⟩⟩)

/-! ### What was put in -/
/-- The events of those that were put in, each command once; the commands that were had. -/
def toldOf : List (Do × Ans) → List Int → List Ev
  | [], _ => []
  | (d, a) :: r, had => if d.kind = 1 ∧ a.err = 0 ∧ d.bat.cmd ∉ had then d.bat.evs ++ toldOf r (d.bat.cmd :: had) else toldOf r had
theorem fold_more {u : Int} {l : List Vw.Acc} {a b : List Ev} (h : (Vw.fold u l a).1.1 = 0) (h2 : (Vw.fold (Vw.fold u l a).2.1 (Vw.fold u l a).2.2 b).1.1 = 0) :
    (Vw.fold u l (a ++ b)).1.1 = 0 ∧ (Vw.fold u l (a ++ b)).2 = (Vw.fold (Vw.fold u l a).2.1 (Vw.fold u l a).2.2 b).2 := by
  have hr := Vw.fold_right h
  have hw : (Vw.wrongV u l).1 = 0 := by rw [hr.ok]
  have hr2 := Vw.fold_right h2
  have hw2 : (Vw.wrongV (Vw.fold u l a).2.1 (Vw.fold u l a).2.2).1 = 0 := by rw [hr2.ok]
  rw [Vw.fold_else hw2] at h2 ⊢
  rw [Vw.fold_else hw] at h h2 ⊢
  rw [Vw.fold_else hw]
  have key : ∀ (a : List Ev) (u : Int) (l : List Vw.Acc) (i : Nat), (Vw.foldL u l i a).1.1 = 0 → Vw.foldL u l i (a ++ b) = Vw.foldL (Vw.foldL u l i a).2.1 (Vw.foldL u l i a).2.2 (i + a.length) b := by
    intro a
    induction a with
    | nil => intro u l i _; rfl
    | cons e a ih =>
      intro u l i h
      rw [List.cons_append]
      by_cases q : (Vw.apply u l e).1 = 0
      · rw [Vw.foldL_next q] at h
        rw [Vw.foldL_next q, Vw.foldL_next q, ih _ _ _ h, List.length_cons, show i + 1 + a.length = i + (a.length + 1) by omega]
      · rw [Vw.foldL_bad q] at h
        exact absurd h q
  rw [key a u l 0 h, Vw.foldL_at (0 + a.length) h2]
  exact ⟨rfl, rfl⟩
/-! ### Said twice is done once -/
theorem mem_seen {x c : Int} {l : List Int} (h : x ∈ l ∨ x = c) : x ∈ l.take (below c l) ++ c :: l.drop (below c l) := by
  rw [List.mem_append, List.mem_cons]
  rcases h with h | h
  · rw [← List.take_append_drop (below c l) l, List.mem_append] at h
    rcases h with h | h
    · exact Or.inl h
    · exact Or.inr (Or.inr h)
  · exact Or.inr (Or.inl h)
theorem seen_mem {x c : Int} {l : List Int} (h : x ∈ l.take (below c l) ++ c :: l.drop (below c l)) : x ∈ l ∨ x = c := by
  rw [List.mem_append, List.mem_cons] at h
  rcases h with h | h | h
  · exact Or.inl (List.mem_of_mem_take h)
  · exact Or.inr h
  · exact Or.inl (List.mem_of_mem_drop h)
/-! ### Who comes second is told so -/
end Go.Proofs.YtmcaejooaaahdaaGreat.Sto

namespace Go.Proofs.YtmcaejooaaahdaaGreat.Sto

/-- Segments rise. -/
abbrev Up (l : List (Int × List Nat)) : Prop := l.Pairwise fun a b => a.1 < b.1
theorem pickB_none {k : Int} : ∀ {l : List (Int × List Nat)} {r : List Nat}, (∀ h, h ∈ l → h.1 ≠ k) → pickB k l r = r
  | [], _, _ => rfl
  | h :: t, r, q => by
    rw [pickB, if_neg (q h (List.mem_cons_self ..))]
    exact pickB_none fun x hx => q x (List.mem_cons_of_mem _ hx)
theorem pickB_up {k : Int} : ∀ {l : List (Int × List Nat)} {h : Int × List Nat} {r : List Nat}, Up l → h ∈ l → h.1 = k → pickB k l r = h.2
  | x :: t, h, r, hu, hm, hk => by
    rw [pickB]
    obtain ⟨h1, h2⟩ := List.pairwise_cons.1 hu
    rcases List.mem_cons.1 hm with rfl | hm
    · rw [if_pos hk]
      exact pickB_none fun y hy => by
        have := h1 y hy
        omega
    · exact pickB_up h2 hm hk
theorem ins_done {k : Int} {x : List Nat} : ∀ {l : List (Int × List Nat)}, (∀ h, h ∈ l → h.1 ≠ k) → ins k x true l = l
  | [], _ => rfl
  | h :: t, q => by
    rw [ins, if_neg (fun z => by cases z.2), if_neg (q h (List.mem_cons_self ..)), Bool.true_or, ins_done fun y hy => q y (List.mem_cons_of_mem _ hy)]
    rfl
/-- Those below, the block, those above. -/
theorem ins_up {k : Int} {x : List Nat} : ∀ {l : List (Int × List Nat)}, Up l → ins k x false l = (l.filter fun h => decide (h.1 < k)) ++ (k, x) :: l.filter fun h => decide (k < h.1)
  | [], _ => rfl
  | h :: t, hu => by
    obtain ⟨h1, h2⟩ := List.pairwise_cons.1 hu
    rw [ins]
    by_cases q : h.1 < k
    · rw [if_neg (fun z => by have := z.1; omega), if_neg (show ¬ h.1 = k by omega), show (false || decide (k ≤ h.1)) = false by simp; omega, ins_up h2]
      simp [q, show ¬ k < h.1 by omega]
    · have hd : (false || decide (k ≤ h.1)) = true := by simp; omega
      have ht : ∀ y, y ∈ t → y.1 ≠ k := fun y hy => by
        have := h1 y hy
        omega
      have hf : (h :: t).filter (fun h => decide (h.1 < k)) = [] := by
        rw [List.filter_eq_nil_iff]
        intro y hy
        rcases List.mem_cons.1 hy with rfl | hy
        · simpa using Int.not_lt.1 q
        · have := h1 y hy
          simp
          omega
      have hg : t.filter (fun h => decide (k < h.1)) = t := by
        rw [List.filter_eq_self]
        intro y hy
        have := h1 y hy
        simp
        omega
      rw [if_pos ⟨by omega, rfl⟩, hd, ins_done ht, hf]
      by_cases e : h.1 = k
      · rw [if_pos e]
        simp [show ¬ k < h.1 by omega, hg]
      · rw [if_neg e]
        simp [show k < h.1 by omega, hg]
theorem ins_sorted {k : Int} {x : List Nat} {l : List (Int × List Nat)} (hu : Up l) : Up (ins k x false l) := by
  rw [ins_up hu]
  refine List.pairwise_append.2 ⟨hu.filter _, List.pairwise_cons.2 ⟨fun y hy => ?_, hu.filter _⟩, fun a ha b hb => ?_⟩
  · simpa using (List.mem_filter.1 hy).2
  · have h1 : a.1 < k := by simpa using (List.mem_filter.1 ha).2
    rcases List.mem_cons.1 hb with rfl | hb
    · exact h1
    · have h2 : k < b.1 := by simpa using (List.mem_filter.1 hb).2
      omega
theorem ins_mem {k : Int} {x : List Nat} {l : List (Int × List Nat)} (hu : Up l) {h : Int × List Nat} (hm : h ∈ ins k x false l) : h = (k, x) ∨ (h ∈ l ∧ h.1 ≠ k) := by
  rw [ins_up hu] at hm
  rcases List.mem_append.1 hm with q | q
  · obtain ⟨q1, q2⟩ := List.mem_filter.1 q
    have q2 : h.1 < k := by simpa using q2
    exact Or.inr ⟨q1, by omega⟩
  · rcases List.mem_cons.1 q with rfl | q
    · exact Or.inl rfl
    · obtain ⟨q1, q2⟩ := List.mem_filter.1 q
      have q2 : k < h.1 := by simpa using q2
      exact Or.inr ⟨q1, by omega⟩
theorem pick_ins {k : Int} {x : List Nat} {l : List (Int × List Nat)} (hu : Up l) (r : List Nat) : pickB k (ins k x false l) r = x :=
  pickB_up (h := (k, x)) (ins_sorted hu) (by rw [ins_up hu]; simp) rfl
theorem mem_ins {k : Int} {x : List Nat} {l : List (Int × List Nat)} (hu : Up l) {h : Int × List Nat} (hm : h ∈ l) (hk : h.1 ≠ k) : h ∈ ins k x false l := by
  rw [ins_up hu, List.mem_append, List.mem_cons, List.mem_filter, List.mem_filter]
  by_cases q : h.1 < k
  · exact Or.inl ⟨hm, by simpa using q⟩
  · exact Or.inr (Or.inr ⟨hm, by simp; omega⟩)
theorem pick_other {k j : Int} {x : List Nat} {l : List (Int × List Nat)} (hu : Up l) (hj : j ≠ k) : pickB j (ins k x false l) [] = pickB j l [] := by
  by_cases q : ∃ h, h ∈ l ∧ h.1 = j
  · obtain ⟨h, hm, hk⟩ := q
    rw [pickB_up hu hm hk, pickB_up (ins_sorted hu) (mem_ins hu hm (by omega)) hk]
  · rw [pickB_none (l := l) fun h hm e => q ⟨h, hm, e⟩, pickB_none fun h hm e => by
      rcases ins_mem hu hm with rfl | ⟨q1, _⟩
      · exact hj e.symm
      · exact q ⟨h, q1, e⟩]

/-! ### A byte is turned -/
theorem find_pick {k : Int} {l : List (Int × List Nat)} {h : Int × List Nat} (hu : Up l) (hf : l.find? (fun h => decide (h.1 = k)) = some h) : pickB k l [] = h.2 ∧ h.1 = k := by
  have h1 : h.1 = k := by simpa using List.find?_some hf
  exact ⟨pickB_up hu (List.mem_of_find?_eq_some hf) h1, h1⟩
theorem spoil_keys (k : Int) (p y : Nat) : ∀ l : List (Int × List Nat), (spoil k p y l).map (·.1) = l.map (·.1)
  | [] => rfl
  | h :: t => by
    rw [spoil]
    by_cases q : h.1 = k
    · rw [if_pos q, List.map_cons, List.map_cons, q]
    · rw [if_neg q, List.map_cons, List.map_cons, spoil_keys k p y t]
theorem up_keys {l : List (Int × List Nat)} : Up l ↔ (l.map (·.1)).Pairwise (· < ·) := by rw [List.pairwise_map]
theorem spoil_up {k : Int} {p y : Nat} {l : List (Int × List Nat)} (hu : Up l) : Up (spoil k p y l) := by
  rw [up_keys, spoil_keys, ← up_keys]
  exact hu
theorem pick_spoil {k : Int} {p y : Nat} : ∀ {l : List (Int × List Nat)} {h : Int × List Nat}, Up l → h ∈ l → h.1 = k → pickB k (spoil k p y l) [] = h.2.set p (h.2.getD p 0 ^^^ y)
  | x :: t, h, hu, hm, hk => by
    obtain ⟨h1, h2⟩ := List.pairwise_cons.1 hu
    rw [spoil]
    rcases List.mem_cons.1 hm with rfl | hm
    · rw [if_pos hk, pickB, if_pos rfl]
      exact pickB_none fun z hz => by
        have := h1 z hz
        omega
    · have hx := h1 h hm
      rw [if_neg (by omega), pickB, if_neg (by omega)]
      exact pick_spoil h2 hm hk
theorem pick_spared {k j : Int} {p y : Nat} (hj : j ≠ k) : ∀ (l : List (Int × List Nat)) (r : List Nat), pickB j (spoil k p y l) r = pickB j l r
  | [], _ => rfl
  | h :: t, r => by
    rw [spoil]
    by_cases q : h.1 = k
    · rw [if_pos q, pickB, pickB, if_neg (show ¬ k = j by omega), if_neg (show ¬ h.1 = j by omega)]
    · rw [if_neg q, pickB, pickB, pick_spared hj t]

/-! ### Disks -/
theorem write_length (k : Int) (l : List (List Nat)) : ∀ (ds : List Disk) (i : Nat), (write k l i ds).length = ds.length
  | [], _ => rfl
  | d :: r, i => by
    rw [write, List.length_cons, write_length k l r, List.length_cons]
theorem write_at (k : Int) (l : List (List Nat)) : ∀ (ds : List Disk) (i j : Nat), (write k l i ds)[j]? = (ds[j]?).map fun d => if d.gone then d else ⟨false, ins k (l.getD (i + j) []) false d.bl⟩
  | [], _, _ => rfl
  | d :: r, i, 0 => rfl
  | d :: r, i, j + 1 => by
    rw [write, List.getElem?_cons_succ, List.getElem?_cons_succ, write_at k l r, show i + 1 + j = i + (j + 1) by omega]

end Go.Proofs.YtmcaejooaaahdaaGreat.Sto

namespace Go.Proofs.YtmcaejooaaahdaaGreat.Sto
open Evt (Ev Bat)

/-- One byte is another one. -/
def Turned (a b : List Nat) : Prop := ∃ p y, p < b.length ∧ 1 ≤ y ∧ y < 256 ∧ a = b.set p (b.getD p 0 ^^^ y)
def Hurt (a b : List Nat) : Prop := a = [] ∨ a = b ∨ Turned a b
/-- Blocks of a segment that was laid, some of them hurt. -/
structure Hurts (X : Six) (c : Cfg) (bs : List (List Nat)) (r : List Nat) (k : Nat) (L : List (List Nat)) : Prop where
  lay : X.lay r k c = (0, L)
  byt : Evt.Bytes r
  len : bs.length = c.d + c.s
  hurt : ∀ i, i < c.d + c.s → Hurt (bs.getD i []) (L.getD i [])
/-- What chapter 6 promises of such blocks. -/
structure Good (X : Six) (c : Cfg) : Prop where
  bad : ∀ {bs r k L}, Hurts X c bs r k L → X.bad bs k = (List.range (c.d + c.s)).filter fun i => decide (bs.getD i [] ≠ L.getD i [])
  kept : ∀ {bs r k L}, Hurts X c bs r k L → (X.bad bs k).length ≤ c.s → X.read bs k c = (0, r) ∧ X.mend bs k c = (0, L)
  lost : ∀ {bs r k L}, Hurts X c bs r k L → c.s < (X.bad bs k).length → (X.read bs k c).1 = 10 ∧ (X.mend bs k c).1 = 10
  full : ∀ {r k L}, X.lay r k c = (0, L) → ∀ i, i < c.d + c.s → L.getD i [] ≠ []

/-- What holds of a store whatever was done: BL, the batches of each segment; had, the blocks of which a byte was turned. -/
structure Inv (X : Six) (c : Cfg) (s : St) (BL : List (List Bat)) (had : List (Int × Int)) : Prop where
  len : BL.length = s.segs
  dl : s.disks.length = c.d + c.s
  up : ∀ (i : Nat) (d : Disk), s.disks[i]? = some d → Up d.bl ∧ (∀ h, h ∈ d.bl → 0 ≤ h.1 ∧ h.1 < s.segs) ∧ (d.gone = true → d.bl = [])
  ok : ∀ (k : Nat) l, BL[k]? = some l → (Evt.wrongL l).1 = 0 ∧ Evt.Bytes (Evt.encL l) ∧ ∃ L, X.lay (Evt.encL l) k c = (0, L) ∧ ∀ (i : Nat) (d : Disk), s.disks[i]? = some d → pickB k d.bl [] = [] ∨ pickB k d.bl [] = L.getD i [] ∨ (((i : Int), (k : Int)) ∈ had ∧ Turned (pickB k d.bl []) (L.getD i []))
theorem Inv.hurts {X : Six} {c : Cfg} {s : St} {BL : List (List Bat)} {had : List (Int × Int)} (h : Inv X c s BL had) {k : Nat} {l : List Bat} (hk : BL[k]? = some l) : ∃ L, Hurts X c (blocks s.disks k) (Evt.encL l) k L := by
  obtain ⟨_, hb, L, h1, h2⟩ := h.ok k l hk
  refine ⟨L, h1, hb, by rw [blocks, List.length_map, h.dl], fun i hi => ?_⟩
  obtain ⟨d, hd⟩ : ∃ d, s.disks[i]? = some d := ⟨s.disks[i]'(by rw [h.dl]; exact hi), List.getElem?_eq_getElem _⟩
  have e : (blocks s.disks k).getD i [] = if d.gone then [] else pickB k d.bl [] := by
    rw [List.getD_eq_getElem?_getD, blocks, List.getElem?_map, hd]
    rfl
  rw [e]
  by_cases q : d.gone = true
  · rw [if_pos q]
    exact Or.inl rfl
  · rw [if_neg q]
    rcases h2 i d hd with z | z | z
    · exact Or.inl z
    · exact Or.inr (Or.inl z)
    · exact Or.inr (Or.inr z.2)
theorem evsOf_append (a b : List Bat) : evsOf (a ++ b) = evsOf a ++ evsOf b := by
  unfold evsOf
  rw [List.flatMap_append]
/-! ### It holds -/
theorem Inv.more {X : Six} {c : Cfg} {s : St} {BL : List (List Bat)} {had had' : List (Int × Int)} (h : Inv X c s BL had) (hh : ∀ x, x ∈ had → x ∈ had') : Inv X c s BL had' :=
  ⟨h.len, h.dl, h.up, fun k l hk => by
    obtain ⟨h1, h2, L, h3, h4⟩ := h.ok k l hk
    refine ⟨h1, h2, L, h3, fun i d hd => ?_⟩
    rcases h4 i d hd with z | z | z
    · exact Or.inl z
    · exact Or.inr (Or.inl z)
    · exact Or.inr (Or.inr ⟨hh _ z.1, z.2⟩)⟩
/-- One disk is another one. -/
theorem Inv.disk {X : Six} {c : Cfg} {s : St} {BL : List (List Bat)} {had : List (Int × Int)} (h : Inv X c s BL had) (n : Nat) (x : Disk) (hu : Up x.bl ∧ (∀ h, h ∈ x.bl → 0 ≤ h.1 ∧ h.1 < s.segs) ∧ (x.gone = true → x.bl = []))
    (hx : ∀ (k : Nat) l L, BL[k]? = some l → X.lay (Evt.encL l) k c = (0, L) → pickB k x.bl [] = [] ∨ pickB k x.bl [] = L.getD n [] ∨ (((n : Int), (k : Int)) ∈ had ∧ Turned (pickB k x.bl []) (L.getD n []))) :
    Inv X c { s with disks := s.disks.set n x } BL had := by
  have hat : ∀ (i : Nat) (d : Disk), (s.disks.set n x)[i]? = some d → (i = n ∧ d = x) ∨ (i ≠ n ∧ s.disks[i]? = some d) := fun i d hd => by
    by_cases e : i = n
    · subst e
      rw [List.getElem?_set_self'] at hd
      obtain ⟨_, _, rfl⟩ := Option.map_eq_some_iff.1 hd
      exact Or.inl ⟨rfl, rfl⟩
    · rw [List.getElem?_set_ne (fun z => e z.symm)] at hd
      exact Or.inr ⟨e, hd⟩
  refine ⟨h.len, by show (s.disks.set n x).length = _; rw [List.length_set, h.dl], fun i d hd => ?_, fun k l hk => ?_⟩
  · rcases hat i d hd with ⟨_, rfl⟩ | ⟨_, hd⟩
    · exact hu
    · exact h.up i d hd
  · obtain ⟨h1, h2, L, h3, h4⟩ := h.ok k l hk
    refine ⟨h1, h2, L, h3, fun i d hd => ?_⟩
    rcases hat i d hd with ⟨rfl, rfl⟩ | ⟨_, hd⟩
    · exact hx k l L hk h3
    · exact h4 i d hd
/-- A segment is written again. -/
theorem Inv.again {X : Six} {c : Cfg} {s : St} {BL : List (List Bat)} {had : List (Int × Int)} (h : Inv X c s BL had) {k : Nat} {l : List Bat} {L : List (List Nat)} (hk : BL[k]? = some l) (hL : X.lay (Evt.encL l) k c = (0, L)) :
    Inv X c { s with disks := write k L 0 s.disks } BL had := by
  have hlt : k < s.segs := by
    rw [← h.len]
    exact (List.getElem?_eq_some_iff.1 hk).1
  have hat : ∀ (i : Nat) (d : Disk), (write k L 0 s.disks)[i]? = some d → ∃ e, s.disks[i]? = some e ∧ ((e.gone = true ∧ d = e) ∨ (e.gone = false ∧ d = ⟨false, ins k (L.getD i []) false e.bl⟩)) := fun i d hd => by
    rw [write_at] at hd
    obtain ⟨e, he, rfl⟩ := Option.map_eq_some_iff.1 hd
    refine ⟨e, he, ?_⟩
    by_cases q : e.gone = true
    · exact Or.inl ⟨q, by rw [if_pos q]⟩
    · exact Or.inr ⟨by simpa using q, by rw [if_neg q, Nat.zero_add]⟩
  refine ⟨h.len, by show (write k L 0 s.disks).length = _; rw [write_length, h.dl], fun i d hd => ?_, fun j l' hj => ?_⟩
  · obtain ⟨e, he, ⟨_, rfl⟩ | ⟨_, rfl⟩⟩ := hat i d hd
    · exact h.up i d he
    · obtain ⟨u1, u2, _⟩ := h.up i e he
      refine ⟨ins_sorted u1, fun x hx => ?_, fun z => by cases z⟩
      rcases ins_mem u1 hx with rfl | ⟨q, _⟩
      · show 0 ≤ (k : Int) ∧ (k : Int) < (s.segs : Int)
        omega
      · exact u2 x q
  · obtain ⟨h1, h2, L', h3, h4⟩ := h.ok j l' hj
    refine ⟨h1, h2, L', h3, fun i d hd => ?_⟩
    obtain ⟨e, he, ⟨_, rfl⟩ | ⟨_, rfl⟩⟩ := hat i d hd
    · exact h4 i d he
    · obtain ⟨u1, _, _⟩ := h.up i e he
      by_cases q : j = k
      · subst q
        rw [hk] at hj
        cases hj
        rw [hL] at h3
        have h3 : L = L' := (Prod.mk.inj h3).2
        subst h3
        exact Or.inr (Or.inl (pick_ins u1 []))
      · rw [pick_other u1 (by omega)]
        exact h4 i e he
/-- One segment more. -/
theorem Inv.next {X : Six} {c : Cfg} {s : St} {BL : List (List Bat)} {had : List (Int × Int)} (h : Inv X c s BL had) {l : List Bat} {L : List (List Nat)} (hw : (Evt.wrongL l).1 = 0) (hb : Evt.Bytes (Evt.encL l)) (hL : X.lay (Evt.encL l) s.segs c = (0, L)) (seen : List Int) (u : Int) (acc : List Vw.Acc) :
    Inv X c ⟨write s.segs L 0 s.disks, s.segs + 1, [], seen, u, acc⟩ (BL ++ [l]) had := by
  have hat : ∀ (i : Nat) (d : Disk), (write s.segs L 0 s.disks)[i]? = some d → ∃ e, s.disks[i]? = some e ∧ ((e.gone = true ∧ d = e) ∨ (e.gone = false ∧ d = ⟨false, ins s.segs (L.getD i []) false e.bl⟩)) := fun i d hd => by
    rw [write_at] at hd
    obtain ⟨e, he, rfl⟩ := Option.map_eq_some_iff.1 hd
    refine ⟨e, he, ?_⟩
    by_cases q : e.gone = true
    · exact Or.inl ⟨q, by rw [if_pos q]⟩
    · exact Or.inr ⟨by simpa using q, by rw [if_neg q, Nat.zero_add]⟩
  refine ⟨by show (BL ++ [l]).length = s.segs + 1; rw [List.length_append, h.len]; rfl, by show (write s.segs L 0 s.disks).length = _; rw [write_length, h.dl], fun i d hd => ?_, fun j l' hj => ?_⟩
  · obtain ⟨e, he, ⟨_, rfl⟩ | ⟨_, rfl⟩⟩ := hat i d hd
    · obtain ⟨u1, u2, u3⟩ := h.up i d he
      exact ⟨u1, fun x hx => by
        have := u2 x hx
        show 0 ≤ x.1 ∧ x.1 < ((s.segs + 1 : Nat) : Int)
        omega, u3⟩
    · obtain ⟨u1, u2, _⟩ := h.up i e he
      refine ⟨ins_sorted u1, fun x hx => ?_, fun z => by cases z⟩
      show 0 ≤ x.1 ∧ x.1 < ((s.segs + 1 : Nat) : Int)
      rcases ins_mem u1 hx with rfl | ⟨q, _⟩
      · show 0 ≤ (s.segs : Int) ∧ (s.segs : Int) < ((s.segs + 1 : Nat) : Int)
        omega
      · have := u2 x q
        omega
  · by_cases q : j < BL.length
    · rw [List.getElem?_append_left q] at hj
      obtain ⟨h1, h2, L', h3, h4⟩ := h.ok j l' hj
      refine ⟨h1, h2, L', h3, fun i d hd => ?_⟩
      obtain ⟨e, he, ⟨_, rfl⟩ | ⟨_, rfl⟩⟩ := hat i d hd
      · exact h4 i d he
      · obtain ⟨u1, _, _⟩ := h.up i e he
        have := h.len
        rw [pick_other u1 (by omega)]
        exact h4 i e he
    · have hj0 : j = BL.length := by
        have := (List.getElem?_eq_some_iff.1 hj).1
        rw [List.length_append, List.length_singleton] at this
        omega
      subst hj0
      rw [List.getElem?_append_right (Nat.le_refl _), Nat.sub_self] at hj
      have hj : some l = some l' := hj
      cases hj
      rw [← h.len] at hL
      refine ⟨hw, hb, L, hL, fun i d hd => ?_⟩
      obtain ⟨e, he, ⟨q1, rfl⟩ | ⟨_, rfl⟩⟩ := hat i d hd
      · left
        rw [(h.up i d he).2.2 q1]
        rfl
      · obtain ⟨u1, _, _⟩ := h.up i e he
        right
        left
        rw [h.len]
        exact pick_ins u1 []

/-! ### Disks that were not hurt -/
/-- Of disks that were not hurt all blocks are as they were laid. -/
def Whole (X : Six) (c : Cfg) (s : St) (BL : List (List Bat)) (H : List Nat) : Prop :=
  ∀ (i : Nat) (d : Disk), s.disks[i]? = some d → i ∉ H → d.gone = false ∧ ∀ (k : Nat) l L, BL[k]? = some l → X.lay (Evt.encL l) k c = (0, L) → pickB k d.bl [] = L.getD i []
theorem whole_next {X : Six} {c : Cfg} {s : St} {BL : List (List Bat)} {had : List (Int × Int)} {H : List Nat} (h : Inv X c s BL had) (hw : Whole X c s BL H) {l : List Bat} {L : List (List Nat)} (hL : X.lay (Evt.encL l) s.segs c = (0, L)) (seen : List Int) (u : Int) (acc : List Vw.Acc) :
    Whole X c ⟨write s.segs L 0 s.disks, s.segs + 1, [], seen, u, acc⟩ (BL ++ [l]) H := fun i d hd hn => by
  have hd : (write s.segs L 0 s.disks)[i]? = some d := hd
  rw [write_at] at hd
  obtain ⟨e, he, rfl⟩ := Option.map_eq_some_iff.1 hd
  obtain ⟨g, hp⟩ := hw i e he hn
  obtain ⟨u1, _, _⟩ := h.up i e he
  rw [if_neg (by rw [g]; decide), Nat.zero_add]
  refine ⟨rfl, fun k l' L' hk hL' => ?_⟩
  show pickB k (ins s.segs (L.getD i []) false e.bl) [] = _
  have hlen := h.len
  by_cases q : k < BL.length
  · rw [List.getElem?_append_left q] at hk
    rw [pick_other u1 (by omega)]
    exact hp k l' L' hk hL'
  · have hk0 : k = BL.length := by
      have := (List.getElem?_eq_some_iff.1 hk).1
      rw [List.length_append, List.length_singleton] at this
      omega
    subst hk0
    rw [List.getElem?_append_right (Nat.le_refl _), Nat.sub_self] at hk
    have hk : some l = some l' := hk
    cases hk
    rw [hlen] at hL' ⊢
    have e2 : L = L' := (Prod.mk.inj (hL.symm.trans hL')).2
    subst e2
    exact pick_ins u1 []

end Go.Proofs.YtmcaejooaaahdaaGreat.Sto
