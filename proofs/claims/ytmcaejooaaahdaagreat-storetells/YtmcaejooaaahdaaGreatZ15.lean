/-
  Texts of the proof, joined: EList, HSix, ESt, Own.
-/
import Derived.Test.YtmcaejooaaahdaaGreatZ14
import Derived.Test.YtmcaejooaaahdaaGreatZ03
import Derived.Test.YtmcaejooaaahdaaGreatZ13
import Derived.Test.YtmcaejooaaahdaaGreatZ01
import Derived.Laws.OwnMore
namespace Go.Proofs.YtmcaejooaaahdaaGreat
open Go.RowKit

/-- The first N of g. -/
def bl (g : Nat → Nat) (N : Nat) : List Nat := (List.range N).map g
theorem bl_len (g : Nat → Nat) (N : Nat) : (bl g N).length = N := by simp [bl]
theorem bl_get (g : Nat → Nat) {N i : Nat} (h : i < N) : (bl g N)[i]? = some (g i) := by simp [bl, h]
theorem bl_bytes {g : Nat → Nat} (hg : Bd g) (N : Nat) : Evt.Bytes (bl g N) := fun x hx => by
  obtain ⟨k, _, rfl⟩ := List.mem_map.1 hx
  exact hg k
theorem drop_cons (g : Nat → Nat) {N A : Nat} (h : A < N) : (bl g N).drop A = g A :: (bl g N).drop (A + 1) := by
  have hl : A < (bl g N).length := by rw [bl_len]; exact h
  rw [List.drop_eq_getElem_cons hl]
  congr 1
  have := bl_get g h
  rw [List.getElem?_eq_getElem hl, Option.some.injEq] at this
  exact this
theorem drop_none (g : Nat → Nat) {N A : Nat} (h : N ≤ A) : (bl g N).drop A = [] := List.drop_eq_nil_of_le (by rw [bl_len]; exact h)
theorem num1_yes (g : Nat → Nat) {N A : Nat} (h : A + 1 ≤ N) : Evt.num 1 0 ((bl g N).drop A) = some (numV g A 1, (bl g N).drop (A + 1)) := by
  rw [drop_cons g (by omega), Evt.num_one]
  show _ = some (256 * 0 + g A, _)
  rw [Nat.mul_zero, Nat.zero_add]
theorem num1_no (g : Nat → Nat) {N A : Nat} (h : N < A + 1) : Evt.num 1 0 ((bl g N).drop A) = none := by
  rw [drop_none g (by omega)]
  rfl
theorem num3_yes (g : Nat → Nat) {N A : Nat} (h : A + 3 ≤ N) : Evt.num 3 0 ((bl g N).drop A) = some (numV g A 3, (bl g N).drop (A + 3)) := by
  rw [drop_cons g (by omega), drop_cons g (show A + 1 < N by omega), drop_cons g (show A + 1 + 1 < N by omega)]
  rfl
theorem num3_no (g : Nat → Nat) {N A : Nat} (h : N < A + 3) : Evt.num 3 0 ((bl g N).drop A) = none := by
  by_cases h1 : A < N
  · rw [drop_cons g h1]
    by_cases h2 : A + 1 < N
    · rw [drop_cons g h2, drop_none g (by omega)]
      rfl
    · rw [drop_none g (by omega)]
      rfl
  · rw [drop_none g (by omega)]
    rfl
/-- The stream's bytes of the event at A. -/
def nameAt (g : Nat → Nat) (A : Nat) : List Nat := bl (fun k => g (A + 1 + k)) (g A)
theorem name_take (g : Nat → Nat) {N A n : Nat} (h : A + n ≤ N) : ((bl g N).drop A).take n = bl (fun k => g (A + k)) n := by
  apply List.ext_getElem?
  intro i
  rw [List.getElem?_take]
  by_cases hi : i < n
  · rw [if_pos hi, List.getElem?_drop, bl_get g (by omega), bl_get _ hi]
  · rw [if_neg hi, List.getElem?_eq_none (by rw [bl_len]; omega)]
theorem nb_strB {f : Nat → Nat} (hf : Bd f) (n : Nat) : nb (strB f n) = bl f n := by
  unfold nb bl
  rw [← ByteArray.toList_eq]
  unfold strB
  rw [str_list, List.map_map]
  apply List.map_congr_left
  intro k _
  have := hf k
  show (UInt8.ofNat (f k)).toNat = f k
  rw [UInt8.toNat_ofNat']
  omega

/-- What is told of an event at A. -/
theorem getE_some {g : Nat → Nat} {N A : Nat} (h : A + 5 + g A ≤ N) : Evt.getE ((bl g N).drop A) = some (⟨nameAt g A, (g (A + 1 + g A) : Nat), (numV g (A + 2 + g A) 3 : Nat)⟩, (bl g N).drop (A + 5 + g A)) := by
  unfold Evt.getE
  rw [num1_yes g (by omega)]
  have e1 : numV g A 1 = g A := by
    show 256 * 0 + g (A + 0) = _
    rw [Nat.mul_zero, Nat.zero_add, Nat.add_zero]
  rw [e1]
  show (if ((bl g N).drop (A + 1)).length < g A then none else _) = _
  rw [if_neg (by rw [List.length_drop, bl_len]; omega), List.drop_drop, num1_yes g (by omega)]
  have e2 : numV g (A + 1 + g A) 1 = g (A + 1 + g A) := by
    show 256 * 0 + g (A + 1 + g A + 0) = _
    rw [Nat.mul_zero, Nat.zero_add, Nat.add_zero]
  rw [e2]
  show (match Evt.num 3 0 ((bl g N).drop (A + 1 + g A + 1)) with | none => none | some (m, r'') => some ((⟨((bl g N).drop (A + 1)).take (g A), ((g (A + 1 + g A) : Nat) : Int), (m : Int)⟩ : Evt.Ev), r'')) = _
  rw [show A + 1 + g A + 1 = A + 2 + g A by omega, num3_yes g (by omega), name_take g (by omega), show A + 2 + g A + 3 = A + 5 + g A by omega]
  rfl
theorem getE_none {g : Nat → Nat} {N A : Nat} (h : N < A + 5 + g A ∨ N ≤ A) : Evt.getE ((bl g N).drop A) = none := by
  unfold Evt.getE
  by_cases h1 : A + 1 ≤ N
  · rw [num1_yes g h1]
    have e1 : numV g A 1 = g A := by
      show 256 * 0 + g (A + 0) = _
      rw [Nat.mul_zero, Nat.zero_add, Nat.add_zero]
    rw [e1]
    show (if ((bl g N).drop (A + 1)).length < g A then none else match Evt.num 1 0 (((bl g N).drop (A + 1)).drop (g A)) with | none => none | some (k, r') => match Evt.num 3 0 r' with | none => none | some (m, r'') => some ((⟨((bl g N).drop (A + 1)).take (g A), (k : Int), (m : Int)⟩ : Evt.Ev), r'')) = none
    by_cases h2 : ((bl g N).drop (A + 1)).length < g A
    · rw [if_pos h2]
    · rw [if_neg h2, List.drop_drop]
      rw [List.length_drop, bl_len] at h2
      by_cases h3 : A + 1 + g A + 1 ≤ N
      · rw [num1_yes g h3]
        show (match Evt.num 3 0 ((bl g N).drop (A + 1 + g A + 1)) with | none => none | some (m, r'') => some ((⟨((bl g N).drop (A + 1)).take (g A), ((numV g (A + 1 + g A) 1 : Nat) : Int), (m : Int)⟩ : Evt.Ev), r'')) = none
        rw [num3_no g (by omega)]
      · rw [num1_no g (by omega)]
  · rw [num1_no g (by omega)]

end Go.Proofs.YtmcaejooaaahdaaGreat

namespace Go.Proofs.YtmcaejooaaahdaaGreat.Gf

/-- A matrix can be undone, or is not whole. -/
theorem und_or_sing {n : Nat} {m : Nat → Nat → Nat} (hm : Bd2 m) : (∃ r, Bd2 r ∧ Und n m r) ∨ Sing n m := by
  have key : ∀ k, k ≤ n → (∃ W, Elim n m (fun j => j < k) W) ∨ Sing n m := by
    intro k
    induction k with
    | zero => exact fun _ => Or.inl ⟨_, Elim.start hm fun j => Nat.not_lt_zero j⟩
    | succ k ih =>
      intro hk
      rcases ih (by omega) with ⟨W, hW⟩ | hs
      · by_cases q : ∃ p, p < n ∧ ¬ p < k ∧ W p k ≠ 0
        · obtain ⟨p, p1, p2, p3⟩ := q
          exact Or.inl ⟨_, hW.step (D' := fun j => j < k + 1) (show k < n by omega) p1 (Nat.lt_irrefl k) p2 p3 fun j hj => by omega⟩
        · exact Or.inr (hW.fails (show k < n by omega) (Nat.lt_irrefl k) fun i hi hn => Classical.byContradiction fun z => q ⟨i, hi, hn, z⟩)
      · exact Or.inr hs
  rcases key n (Nat.le_refl n) with ⟨W, hW⟩ | hs
  · exact Or.inl ⟨_, fun i j => hW.bd i (n + j), hW.done hm fun j hj => hj⟩
  · exact Or.inr hs

end Go.Proofs.YtmcaejooaaahdaaGreat.Gf
namespace Go.Proofs.YtmcaejooaaahdaaGreat.Sto
open Evt (Ev Bat)

/-- How long each list is, and its bytes. -/
def lenF (bs : List (List Nat)) (i : Nat) : Nat := (bs.getD i []).length
def valF (bs : List (List Nat)) (i k : Nat) : Nat := (bs.getD i []).getD k 0
/-- What Lay tells. -/
def layX (r : List Nat) (k : Nat) (c : Cfg) : Nat × List (List Nat) :=
  if Seg.layE r.length k c.d c.s = 0 then (0, (List.range (c.d + c.s)).map fun i => bl (Seg.blk (fun j => r.getD j 0) r.length k c.d i) (Seg.layN r.length c.d + 11)) else (Seg.layE r.length k c.d c.s, [])
/-- Chapter 6. -/
structure SixOk (X : Six) : Prop where
  lay : ∀ r k c, X.lay r k c = layX r k c
  bad : ∀ bs k, X.bad bs k = Seg.badL k (lenF bs) (valF bs) bs.length
  err : ∀ bs k c, (X.read bs k c).1 = readE k c.d bs.length (lenF bs) (valF bs)
  told : ∀ bs k c, (X.read bs k c).1 = 0 → ∀ r, Gf.Bd2 r → Gf.Und c.d (fun p => Gf.rowF c.d (thr (Seg.rl k (lenF bs) (valF bs)) bs.length p)) r →
    (X.read bs k c).2 = bl (readF c.d bs.length (Seg.rl k (lenF bs) (valF bs)) (Seg.rf (valF bs)) r) (Seg.rz (valF bs) (thr (Seg.rl k (lenF bs) (valF bs)) bs.length 0))
  none : ∀ bs k c, (X.read bs k c).1 ≠ 0 → (X.read bs k c).2 = []
  mend : ∀ bs k c, X.mend bs k c = if (X.read bs k c).1 ≠ 0 then ((X.read bs k c).1, []) else layX (X.read bs k c).2 k c

theorem readF_uniq {n N : Nat} {L : Nat → Nat} {f r r' : Nat → Nat → Nat} (hr : Gf.Bd2 r) (hr' : Gf.Bd2 r') (h : Gf.Und n (fun p => Gf.rowF n (thr L N p)) r) (h' : Gf.Und n (fun p => Gf.rowF n (thr L N p)) r') (k : Nat) : readF n N L f r k = readF n N L f r' k := by
  unfold readF
  refine Gf.mm_congr (fun _ _ => rfl) (fun p hp => Gf.mm_congr (fun q hq => ?_) (fun _ _ => rfl))
  exact h.uniq (fun p => Gf.rowF_bd n _) hr hr' h' p q hp hq
/-- There is such a chapter 6. -/
theorem six : ∃ X : Six, SixOk X := by
  have h : ∀ x : List (List Nat) × Nat × Cfg, ∃ y : Nat × List Nat, y.1 = readE x.2.1 x.2.2.d x.1.length (lenF x.1) (valF x.1) ∧
      (y.1 = 0 → ∀ r, Gf.Bd2 r → Gf.Und x.2.2.d (fun p => Gf.rowF x.2.2.d (thr (Seg.rl x.2.1 (lenF x.1) (valF x.1)) x.1.length p)) r → y.2 = bl (readF x.2.2.d x.1.length (Seg.rl x.2.1 (lenF x.1) (valF x.1)) (Seg.rf (valF x.1)) r) (Seg.rz (valF x.1) (thr (Seg.rl x.2.1 (lenF x.1) (valF x.1)) x.1.length 0))) ∧ (y.1 ≠ 0 → y.2 = []) := fun x => by
    by_cases q : readE x.2.1 x.2.2.d x.1.length (lenF x.1) (valF x.1) = 0 ∧ ∃ r, Gf.Bd2 r ∧ Gf.Und x.2.2.d (fun p => Gf.rowF x.2.2.d (thr (Seg.rl x.2.1 (lenF x.1) (valF x.1)) x.1.length p)) r
    · obtain ⟨q0, r, r1, r2⟩ := q
      refine ⟨(0, bl (readF x.2.2.d x.1.length (Seg.rl x.2.1 (lenF x.1) (valF x.1)) (Seg.rf (valF x.1)) r) (Seg.rz (valF x.1) (thr (Seg.rl x.2.1 (lenF x.1) (valF x.1)) x.1.length 0))), q0.symm, fun _ r' h1 h2 => ?_, fun z => absurd rfl z⟩
      exact congrArg (fun f => bl f _) (funext fun k => readF_uniq (f := Seg.rf (valF x.1)) r1 h1 r2 h2 k)
    · exact ⟨(readE x.2.1 x.2.2.d x.1.length (lenF x.1) (valF x.1), []), rfl, fun z r h1 h2 => absurd ⟨z, r, h1, h2⟩ q, fun _ => rfl⟩
  obtain ⟨f, hf⟩ := Classical.skolem.1 h
  exact ⟨⟨layX, fun bs k c => f (bs, k, c), fun bs k => Seg.badL k (lenF bs) (valF bs) bs.length, fun bs k c => if (f (bs, k, c)).1 ≠ 0 then ((f (bs, k, c)).1, []) else layX (f (bs, k, c)).2 k c⟩,
    fun _ _ _ => rfl, fun _ _ => rfl, fun bs k c => (hf (bs, k, c)).1, fun bs k c => (hf (bs, k, c)).2.1, fun bs k c => (hf (bs, k, c)).2.2, fun _ _ _ => rfl⟩

/-! ### Lists and functions -/
theorem bl_length (g : Nat → Nat) (n : Nat) : (bl g n).length = n := by
  unfold bl
  rw [List.length_map, List.length_range]
theorem bl_get (g : Nat → Nat) {n k : Nat} (h : k < n) : (bl g n)[k]? = some (g k) := by
  unfold bl
  rw [List.getElem?_map, List.getElem?_range h]
  rfl
theorem bl_at (g : Nat → Nat) {n k : Nat} (h : k < n) : (bl g n).getD k 0 = g k := by
  rw [List.getD_eq_getElem?_getD, bl_get g h]
  rfl
theorem bl_self (r : List Nat) : bl (fun j => r.getD j 0) r.length = r := by
  apply List.ext_getElem?
  intro i
  by_cases hi : i < r.length
  · rw [bl_get _ hi, List.getD_eq_getElem?_getD, List.getElem?_eq_getElem hi]
    rfl
  · rw [List.getElem?_eq_none (by rw [bl_length]; omega), List.getElem?_eq_none (by omega)]
theorem layE_inv {L seg d s : Nat} (h : Seg.layE L seg d s = 0) : 1 ≤ d ∧ d ≤ 8 ∧ s ≤ 4 ∧ seg ≤ 39 ∧ L ≤ 400 * d := by
  unfold Seg.layE at h
  by_cases q1 : (d : Int) < 1 ∨ 8 < (d : Int) ∨ (s : Int) < 0 ∨ 4 < (s : Int)
  · rw [if_pos q1] at h
    cases h
  rw [if_neg q1] at h
  by_cases q2 : (seg : Int) < 0 ∨ 39 < (seg : Int)
  · rw [if_pos q2] at h
    cases h
  rw [if_neg q2] at h
  by_cases q3 : 400 * (d : Int) < (L : Int)
  · rw [if_pos q3] at h
    cases h
  omega
/-- What was laid, block by block. -/
theorem layX_inv {r : List Nat} {k : Nat} {c : Cfg} {L : List (List Nat)} (h : layX r k c = (0, L)) : (1 ≤ c.d ∧ c.d ≤ 8 ∧ c.s ≤ 4 ∧ k ≤ 39 ∧ r.length ≤ 400 * c.d) ∧ L.length = c.d + c.s ∧ ∀ i, i < c.d + c.s → L.getD i [] = bl (Seg.blk (fun j => r.getD j 0) r.length k c.d i) (Seg.layN r.length c.d + 11) := by
  unfold layX at h
  by_cases q : Seg.layE r.length k c.d c.s = 0
  · rw [if_pos q] at h
    have h := (Prod.mk.inj h).2
    subst h
    refine ⟨layE_inv q, by rw [List.length_map, List.length_range], fun i hi => ?_⟩
    rw [List.getD_eq_getElem?_getD, List.getElem?_map, List.getElem?_range hi]
    rfl
  · rw [if_neg q] at h
    exact absurd (Prod.mk.inj h).1 q
theorem getD_bytes {r : List Nat} (h : Evt.Bytes r) (k : Nat) : r.getD k 0 < 256 := by
  by_cases hk : k < r.length
  · rw [List.getD_eq_getElem?_getD, List.getElem?_eq_getElem hk]
    exact h _ (List.getElem_mem hk)
  · rw [List.getD_eq_getElem?_getD, List.getElem?_eq_none (by omega)]
    decide

/-! ### Blocks that were hurt -/
section
variable {X : Six} {c : Cfg} {bs : List (List Nat)} {r : List Nat} {k : Nat} {L : List (List Nat)}
end

end Go.Proofs.YtmcaejooaaahdaaGreat.Sto

namespace Go.Proofs.YtmcaejooaaahdaaGreat.Evt

/-- A reader: the bytes that are left, and whether there were too few. -/
abbrev St := List Nat × Bool
def numS (s : Nat) (st : St) : Nat × St := match num s 0 st.1 with | some (x, r) => (x, (r, st.2)) | none => (0, ([], true))
def takS (n : Nat) (st : St) : List Nat × St := if st.1.length < n then ([], ([], true)) else (st.1.take n, (st.1.drop n, st.2))
def evS (st : St) : Ev × St :=
  (⟨(takS (numS 1 st).1 (numS 1 st).2).1, ((numS 1 (takS (numS 1 st).1 (numS 1 st).2).2).1 : Nat), ((numS 3 (numS 1 (takS (numS 1 st).1 (numS 1 st).2).2).2).1 : Nat)⟩, (numS 3 (numS 1 (takS (numS 1 st).1 (numS 1 st).2).2).2).2)
def evsS : Nat → St → List Ev × St
  | 0, st => ([], st)
  | m + 1, st => ((evS st).1 :: (evsS m (evS st).2).1, (evsS m (evS st).2).2)
def evlS (st : St) : List Ev × St := evsS (numS 1 st).1 (numS 1 st).2
def batS (st : St) : Bat × St := (⟨((numS 3 st).1 : Nat), (evlS (numS 3 st).2).1⟩, (evlS (numS 3 st).2).2)
def batsS : Nat → St → List Bat × St
  | 0, st => ([], st)
  | m + 1, st => ((batS st).1 :: (batsS m (batS st).2).1, (batsS m (batS st).2).2)
def batlS (st : St) : List Bat × St := batsS (numS 1 st).1 (numS 1 st).2

/-! ### The last one is the last -/
theorem evsS_succ : ∀ (m : Nat) (st : St), evsS (m + 1) st = ((evsS m st).1 ++ [(evS (evsS m st).2).1], (evS (evsS m st).2).2)
  | 0, st => rfl
  | m + 1, st => by
    show ((evS st).1 :: (evsS (m + 1) (evS st).2).1, (evsS (m + 1) (evS st).2).2) = _
    rw [evsS_succ m (evS st).2]
    rfl
theorem batsS_succ : ∀ (m : Nat) (st : St), batsS (m + 1) st = ((batsS m st).1 ++ [(batS (batsS m st).2).1], (batS (batsS m st).2).2)
  | 0, st => rfl
  | m + 1, st => by
    show ((batS st).1 :: (batsS (m + 1) (batS st).2).1, (batsS (m + 1) (batS st).2).2) = _
    rw [batsS_succ m (batS st).2]
    rfl
theorem batsS_len : ∀ (m : Nat) (st : St), (batsS m st).1.length = m
  | 0, _ => rfl
  | m + 1, st => by
    show (batsS m (batS st).2).1.length + 1 = m + 1
    rw [batsS_len m]

/-! ### It is what is read at once, or it has failed -/
/-- What is read at once, or that it has failed. -/
def Fits {α : Type} (o : Option (α × List Nat)) (a : α × St) : Prop := match o with | some (x, r) => a = (x, (r, false)) | none => a.2.2 = true
theorem numS_fits (s : Nat) (r : List Nat) : Fits (num s 0 r) (numS s (r, false)) := by
  unfold numS Fits
  cases num s 0 r with
  | none => rfl
  | some p => rfl
theorem numS_bad (s : Nat) (st : St) (h : st.2 = true) : (numS s st).2.2 = true := by
  unfold numS
  cases num s 0 st.1 with
  | none => rfl
  | some p => exact h
theorem takS_bad (s : Nat) (st : St) (h : st.2 = true) : (takS s st).2.2 = true := by
  unfold takS
  split
  · rfl
  · exact h
theorem evS_bad (st : St) (h : st.2 = true) : (evS st).2.2 = true := numS_bad _ _ (numS_bad _ _ (takS_bad _ _ (numS_bad _ _ h)))
theorem evsS_bad : ∀ (m : Nat) (st : St), st.2 = true → (evsS m st).2.2 = true
  | 0, _, h => h
  | m + 1, st, h => evsS_bad m (evS st).2 (evS_bad st h)
theorem evlS_bad (st : St) (h : st.2 = true) : (evlS st).2.2 = true := evsS_bad _ _ (numS_bad _ _ h)
theorem batS_bad (st : St) (h : st.2 = true) : (batS st).2.2 = true := evlS_bad _ (numS_bad _ _ h)
theorem batsS_bad : ∀ (m : Nat) (st : St), st.2 = true → (batsS m st).2.2 = true
  | 0, _, h => h
  | m + 1, st, h => batsS_bad m (batS st).2 (batS_bad st h)
theorem numS_some {s : Nat} {r r' : List Nat} {x : Nat} (h : num s 0 r = some (x, r')) : numS s (r, false) = (x, (r', false)) := by
  have := numS_fits s r
  rw [h] at this
  exact this
theorem numS_none {s : Nat} {r : List Nat} (h : num s 0 r = none) : (numS s (r, false)).2.2 = true := by
  have := numS_fits s r
  rw [h] at this
  exact this
theorem evS_fits (r : List Nat) : Fits (getE r) (evS (r, false)) := by
  unfold getE
  cases h1 : num 1 0 r with
  | none => exact numS_bad _ _ (numS_bad _ _ (takS_bad _ _ (numS_none h1)))
  | some p =>
    obtain ⟨n, r1⟩ := p
    have e1 := numS_some h1
    show Fits (if r1.length < n then none else _) _
    unfold evS
    rw [e1]
    by_cases h2 : r1.length < n
    · rw [if_pos h2]
      have e2 : (takS n (r1, false)).2.2 = true := by
        unfold takS
        rw [if_pos h2]
      exact numS_bad _ _ (numS_bad _ _ e2)
    · rw [if_neg h2]
      have e2 : takS n (r1, false) = (r1.take n, (r1.drop n, false)) := by
        unfold takS
        rw [if_neg h2]
      show Fits _ ((⟨(takS n (r1, false)).1, _, _⟩ : Ev), (numS 3 (numS 1 (takS n (r1, false)).2).2).2)
      rw [e2]
      cases h3 : num 1 0 (r1.drop n) with
      | none => exact numS_bad _ _ (numS_none h3)
      | some p =>
        obtain ⟨k, r2⟩ := p
        have e3 := numS_some h3
        show Fits _ ((⟨_, ((numS 1 (r1.drop n, false)).1 : Nat), ((numS 3 (numS 1 (r1.drop n, false)).2).1 : Nat)⟩ : Ev), (numS 3 (numS 1 (r1.drop n, false)).2).2)
        rw [e3]
        show Fits (match num 3 0 r2 with | none => none | some (m, r'') => some ((⟨r1.take n, (k : Int), (m : Int)⟩ : Ev), r'')) _
        cases h4 : num 3 0 r2 with
        | none => exact numS_none h4
        | some p =>
          obtain ⟨m, r3⟩ := p
          have e4 := numS_some h4
          show ((⟨r1.take n, (k : Int), ((numS 3 (r2, false)).1 : Nat)⟩ : Ev), (numS 3 (r2, false)).2) = _
          rw [e4]
theorem evsS_fits : ∀ (m : Nat) (r : List Nat), Fits (getEs m r) (evsS m (r, false))
  | 0, r => rfl
  | m + 1, r => by
    show Fits (match getE r with | none => none | some (e, r) => match getEs m r with | none => none | some (l, r) => some (e :: l, r)) _
    have h := evS_fits r
    cases h1 : getE r with
    | none =>
      rw [h1] at h
      exact evsS_bad m _ h
    | some p =>
      obtain ⟨e, r1⟩ := p
      rw [h1] at h
      have h : evS (r, false) = (e, (r1, false)) := h
      show Fits (match getEs m r1 with | none => none | some (l, r) => some (e :: l, r)) ((evS (r, false)).1 :: (evsS m (evS (r, false)).2).1, (evsS m (evS (r, false)).2).2)
      rw [h]
      have k := evsS_fits m r1
      cases h2 : getEs m r1 with
      | none =>
        rw [h2] at k
        exact k
      | some p =>
        obtain ⟨l, r2⟩ := p
        rw [h2] at k
        have k : evsS m (r1, false) = (l, (r2, false)) := k
        show (e :: (evsS m (r1, false)).1, (evsS m (r1, false)).2) = _
        rw [k]
theorem batS_fits (r : List Nat) : Fits (getB r) (batS (r, false)) := by
  unfold getB
  cases h1 : num 3 0 r with
  | none => exact evlS_bad _ (numS_none h1)
  | some p =>
    obtain ⟨c, r1⟩ := p
    have e1 := numS_some h1
    unfold batS
    rw [e1]
    show Fits (match num 1 0 r1 with | none => none | some (m, r) => match getEs m r with | none => none | some (l, r) => some ((⟨c, l⟩ : Bat), r)) _
    cases h2 : num 1 0 r1 with
    | none => exact evsS_bad _ _ (numS_none h2)
    | some p =>
      obtain ⟨m, r2⟩ := p
      have e2 := numS_some h2
      show Fits (match getEs m r2 with | none => none | some (l, r) => some ((⟨c, l⟩ : Bat), r)) ((⟨(c : Int), (evlS (r1, false)).1⟩ : Bat), (evlS (r1, false)).2)
      unfold evlS
      rw [e2]
      have k := evsS_fits m r2
      cases h3 : getEs m r2 with
      | none =>
        rw [h3] at k
        exact k
      | some p =>
        obtain ⟨l, r3⟩ := p
        rw [h3] at k
        have k : evsS m (r2, false) = (l, (r3, false)) := k
        show ((⟨(c : Int), (evsS m (r2, false)).1⟩ : Bat), (evsS m (r2, false)).2) = _
        rw [k]
theorem batsS_fits : ∀ (m : Nat) (r : List Nat), Fits (getBs m r) (batsS m (r, false))
  | 0, r => rfl
  | m + 1, r => by
    show Fits (match getB r with | none => none | some (e, r) => match getBs m r with | none => none | some (l, r) => some (e :: l, r)) _
    have h := batS_fits r
    cases h1 : getB r with
    | none =>
      rw [h1] at h
      exact batsS_bad m _ h
    | some p =>
      obtain ⟨e, r1⟩ := p
      rw [h1] at h
      have h : batS (r, false) = (e, (r1, false)) := h
      show Fits (match getBs m r1 with | none => none | some (l, r) => some (e :: l, r)) ((batS (r, false)).1 :: (batsS m (batS (r, false)).2).1, (batsS m (batS (r, false)).2).2)
      rw [h]
      have k := batsS_fits m r1
      cases h2 : getBs m r1 with
      | none =>
        rw [h2] at k
        exact k
      | some p =>
        obtain ⟨l, r2⟩ := p
        rw [h2] at k
        have k : batsS m (r1, false) = (l, (r2, false)) := k
        show (e :: (batsS m (r1, false)).1, (batsS m (r1, false)).2) = _
        rw [k]
/-- What is told of bytes, by the reader. -/
theorem batlS_bad {r : List Nat} (h : (batlS (r, false)).2.2 = true ∨ (batlS (r, false)).2.1 ≠ []) : parseE r = 2 ∧ parse r = [] := by
  have hg : getL r = none := by
    unfold getL
    unfold batlS at h
    cases h1 : num 1 0 r with
    | none => rfl
    | some p =>
      obtain ⟨m, r1⟩ := p
      rw [numS_some h1] at h
      show (match getBs m r1 with | none => none | some (l, r) => if r = [] then some l else none) = none
      have k := batsS_fits m r1
      cases h2 : getBs m r1 with
      | none => rfl
      | some p =>
        obtain ⟨l, r2⟩ := p
        rw [h2] at k
        have k : batsS m (r1, false) = (l, (r2, false)) := k
        have h : (batsS m (r1, false)).2.2 = true ∨ (batsS m (r1, false)).2.1 ≠ [] := h
        rw [k] at h
        rcases h with h | h
        · cases h
        · exact if_neg h
  unfold parseE parse
  rw [hg]
  exact ⟨rfl, rfl⟩
theorem batlS_good {r : List Nat} (h : (batlS (r, false)).2.2 = false) (h' : (batlS (r, false)).2.1 = []) : getL r = some (batlS (r, false)).1 := by
  unfold getL
  unfold batlS at h h' ⊢
  cases h1 : num 1 0 r with
  | none =>
    rw [batsS_bad _ _ (numS_none h1)] at h
    cases h
  | some p =>
    obtain ⟨m, r1⟩ := p
    rw [numS_some h1] at h h' ⊢
    show (match getBs m r1 with | none => none | some (l, r) => if r = [] then some l else none) = some (batsS m (r1, false)).1
    have h : (batsS m (r1, false)).2.2 = false := h
    have h' : (batsS m (r1, false)).2.1 = [] := h'
    have k := batsS_fits m r1
    cases h2 : getBs m r1 with
    | none =>
      rw [h2] at k
      have k : (batsS m (r1, false)).2.2 = true := k
      rw [k] at h
      cases h
    | some p =>
      obtain ⟨l, r2⟩ := p
      rw [h2] at k
      have k : batsS m (r1, false) = (l, (r2, false)) := k
      rw [k] at h' ⊢
      exact if_pos h'
theorem batlS_parse {r : List Nat} (h : (batlS (r, false)).2.2 = false) (h' : (batlS (r, false)).2.1 = []) : parseE r = (wrongL (batlS (r, false)).1).1 ∧ parse r = if (wrongL (batlS (r, false)).1).1 = 0 then (batlS (r, false)).1 else [] := by
  unfold parseE parse
  rw [batlS_good h h']
  exact ⟨rfl, rfl⟩

/-! ### Bytes stay bytes -/
theorem Bytes.drop {r : List Nat} (h : Bytes r) (n : Nat) : Bytes (r.drop n) := fun x hx => h x (List.mem_of_mem_drop hx)
theorem Bytes.take {r : List Nat} (h : Bytes r) (n : Nat) : Bytes (r.take n) := fun x hx => h x (List.mem_of_mem_take hx)
theorem Bytes.nil : Bytes [] := fun x hx => by cases hx
/-- The number that bytes tell. -/
def val (l : List Nat) : Nat := l.foldl (fun n x => 256 * n + x) 0
theorem num_val : ∀ (s acc : Nat) (r : List Nat), num s acc r = if r.length < s then none else some ((r.take s).foldl (fun n x => 256 * n + x) acc, r.drop s)
  | 0, acc, r => (if_neg (c := r.length < 0) (Nat.not_lt_zero _)).symm
  | s + 1, acc, [] => (if_pos (c := ([] : List Nat).length < s + 1) (Nat.succ_pos s)).symm
  | s + 1, acc, x :: r => by
    show num s (256 * acc + x) r = _
    rw [num_val s]
    by_cases h : r.length < s
    · rw [if_pos h, if_pos (by simpa using h)]
    · rw [if_neg h, if_neg (by simpa using h)]
      rfl
/-- A number is what the bytes tell that are taken. -/
theorem numS_tak (s : Nat) (st : St) : numS s st = (val (takS s st).1, (takS s st).2) := by
  unfold numS takS
  rw [num_val]
  by_cases h : st.1.length < s
  · rw [if_pos h, if_pos h]
    rfl
  · rw [if_neg h, if_neg h]
    rfl
theorem takS_bytes {st : St} (s : Nat) (h : Bytes st.1) : Bytes (takS s st).1 ∧ Bytes (takS s st).2.1 := by
  unfold takS
  split
  · exact ⟨Bytes.nil, Bytes.nil⟩
  · exact ⟨h.take s, h.drop s⟩
theorem takS_len (s : Nat) (st : St) : (takS s st).1.length ≤ s := by
  unfold takS
  split
  · exact Nat.zero_le _
  · simpa using Nat.min_le_left s st.1.length
theorem val_lt : ∀ (l : List Nat) (acc k : Nat), Bytes l → acc < 256 ^ k → l.foldl (fun n x => 256 * n + x) acc < 256 ^ (k + l.length)
  | [], acc, k, _, h => h
  | x :: l, acc, k, hb, h => by
    show l.foldl _ (256 * acc + x) < _
    rw [show k + (x :: l).length = (k + 1) + l.length by simp; omega]
    refine val_lt l _ (k + 1) hb.tail ?_
    have := hb x List.mem_cons_self
    rw [Nat.pow_succ]
    omega
theorem numS_lt {st : St} (s : Nat) (h : Bytes st.1) : (numS s st).1 < 256 ^ s := by
  rw [numS_tak]
  have h1 := val_lt (takS s st).1 0 0 (takS_bytes s h).1 (by decide)
  have h2 := takS_len s st
  refine Nat.lt_of_lt_of_le h1 (Nat.pow_le_pow_right (by decide) (by omega))

end Go.Proofs.YtmcaejooaaahdaaGreat.Evt

namespace Go.Proofs.YtmcaejooaaahdaaGreat
open Go.RowKit

theorem owns_off {S : Nat → Prop} {w w' : World} {N : Nat} {t : TypeId} {s : Nat} {v : Value} {n : Nat} {xs : List Value} (h : w.ownsRow N t s v n xs) (ho : Off S w w') (hS : ∀ g, v.ownBlock = some g → ¬ S g) : w'.ownsRow N t s v n xs := by
  have hlt := h.lt
  obtain ⟨hl, h⟩ := h
  refine ⟨hl, h.imp id ?_⟩
  rintro ⟨g, cap, cur, rfl, hN, hg, hr⟩
  refine ⟨g, cap, cur, rfl, hN, ?_, hr⟩
  rw [ho.block g (hlt g rfl).2 (hS g rfl)]
  exact hg
theorem owns_heap {w : World} {N : Nat} {t : TypeId} {s : Nat} {v : Value} {n g : Nat} {xs : List Value} (h : w.ownsRow N t s v n xs) (hg : v.ownBlock = some g) : ∃ cur, w.heap[g]? = some (.cells cur t (0, 0)) := by
  rcases h.2 with ⟨rfl, _⟩ | ⟨g', cap, cur, rfl, _, h1, _⟩
  · simp [Value.ownBlock] at hg
  · simp [Value.ownBlock] at hg
    subst hg
    exact ⟨cur, h1⟩
/-- Rows of two types lie in two blocks. -/
theorem owns_ne {w : World} {N N' : Nat} {t t' : TypeId} {s s' : Nat} {v v' : Value} {n n' : Nat} {xs xs' : List Value} (h : w.ownsRow N t s v n xs) (h' : w.ownsRow N' t' s' v' n' xs') (ht : t ≠ t') : ∀ g, v.ownBlock = some g → ¬ v'.ownBlock = some g := fun g hg hg' => by
  obtain ⟨c, e1⟩ := owns_heap h hg
  obtain ⟨c', e2⟩ := owns_heap h' hg'
  rw [e1] at e2
  cases e2
  exact ht rfl
theorem EBuf.off {S : Nat → Prop} {w w' : World} {N : Nat} {v : Value} {es : List EvC} (h : EBuf w N v es) (ho : Off S w w') (hS : ∀ g, v.ownBlock = some g → ¬ S g) : EBuf w' N v es := ⟨owns_off h.1 ho hS, h.2⟩
theorem off_of_grown {w w' : World} {row : Option Nat} (h : w.grownBy w' row) : Off (fun k => row = some k) w w' := ⟨h.os, h.tape, h.output, h.size, fun k hk hn => h.block k hk (fun e => hn e.symm)⟩
theorem VarF.off {S : Nat → Prop} {w w' : World} {p : Nat} {a b : Value} (h : VarF w p a b) (ho : Off S w w') (hS : ¬ S p) : VarF w' p a b := by
  have hp : p < w.heap.size := World.block_lt_of_cell? _ _ h.c0
  have hb := ho.block p hp hS
  exact ⟨(World.cell?_of_block (w := w) (a := ⟨p, 0, none⟩) hb).trans h.c0, (World.cell?_of_block (w := w) (a := ⟨p, 1, none⟩) hb).trans h.c1, fun i => (World.frozen?_of_block (w := w) (a := ⟨p, i, none⟩) hb).trans (h.fr i)⟩

/-- The three cells of an event's variable, that may be written. -/
structure VarG (w : World) (p : Nat) (a b c : Value) : Prop where
  c0 : w.cell? ⟨p, 0, none⟩ = some a
  c1 : w.cell? ⟨p, 1, none⟩ = some b
  c2 : w.cell? ⟨p, 2, none⟩ = some c
  fr : ∀ i, w.frozen? ⟨p, i, none⟩ = false
theorem varG_new (w : World) (t : TypeId) (a b c : Value) : VarG (w.alloc (.cells #[a, b, c] t)) w.heap.size a b c := by
  have hr := World.rowIs_alloc w #[a, b, c] t (fun k => #[a, b, c].getD k a) (fun i hi => by simp only [Array.getElem?_eq_getElem hi, Array.getD, hi, dif_pos]; rfl)
  exact ⟨hr.cell (i := 0) (by simp), hr.cell (i := 1) (by simp), hr.cell (i := 2) (by simp), fun i => hr.frozen i⟩
theorem VarG.off {S : Nat → Prop} {w w' : World} {p : Nat} {a b c : Value} (h : VarG w p a b c) (ho : Off S w w') (hS : ¬ S p) : VarG w' p a b c := by
  have hp : p < w.heap.size := World.block_lt_of_cell? _ _ h.c0
  have hb := ho.block p hp hS
  exact ⟨(World.cell?_of_block (w := w) (a := ⟨p, 0, none⟩) hb).trans h.c0, (World.cell?_of_block (w := w) (a := ⟨p, 1, none⟩) hb).trans h.c1, (World.cell?_of_block (w := w) (a := ⟨p, 2, none⟩) hb).trans h.c2, fun i => (World.frozen?_of_block (w := w) (a := ⟨p, i, none⟩) hb).trans (h.fr i)⟩
theorem VarG.set0 {w : World} {p : Nat} {a b c : Value} (h : VarG w p a b c) (x : Value) : VarG (w.setCell ⟨p, 0, none⟩ x) p x b c := by
  have c0 := h.c0
  have c1 := h.c1
  have c2 := h.c2
  exact ⟨by go_simp, by go_simp, by go_simp, fun i => by have := h.fr i; go_simp⟩
theorem VarG.set1 {w : World} {p : Nat} {a b c : Value} (h : VarG w p a b c) (x : Value) : VarG (w.setCell ⟨p, 1, none⟩ x) p a x c := by
  have c0 := h.c0
  have c1 := h.c1
  have c2 := h.c2
  exact ⟨by go_simp, by go_simp, by go_simp, fun i => by have := h.fr i; go_simp⟩
theorem VarG.set2 {w : World} {p : Nat} {a b c : Value} (h : VarG w p a b c) (x : Value) : VarG (w.setCell ⟨p, 2, none⟩ x) p a b x := by
  have c0 := h.c0
  have c1 := h.c1
  have c2 := h.c2
  exact ⟨by go_simp, by go_simp, by go_simp, fun i => by have := h.fr i; go_simp⟩
theorem VarF.set1 {w : World} {p : Nat} {a b : Value} (h : VarF w p a b) (x : Value) : VarF (w.setCell ⟨p, 1, none⟩ x) p a x := by
  have c0 := h.c0
  have c1 := h.c1
  exact ⟨by go_simp, by go_simp, fun i => by have := h.fr i; go_simp⟩
/-- What lies beyond the old blocks is no matter. -/
theorem Off.past {S T : Nat → Prop} {a b c : World} (h : Off S a b) (k : Off T b c) (hT : ∀ y, T y → y < a.heap.size → S y) : Off S a c :=
  ⟨k.os.trans h.os, k.tape.trans h.tape, k.output.trans h.output, Nat.le_trans h.size k.size, fun i hi hs => (k.block i (Nat.lt_of_lt_of_le hi h.size) (fun q => hs (hT i q hi))).trans (h.block i hi hs)⟩
theorem off_set (w : World) (a : Addr) (x : Value) : Off (fun k => k = a.block) w (w.setCell a x) := (Off.refl (fun k => k = a.block) w).set (p := a) rfl x

/-- One of them is another one. -/
def upd {α : Type} (Q : Nat → α) (k : Nat) (e : α) (i : Nat) : α := if i = k then e else Q i
theorem upd_at {α : Type} (Q : Nat → α) (k : Nat) (e : α) : upd Q k e k = e := if_pos rfl
theorem upd_ne {α : Type} (Q : Nat → α) {k i : Nat} (e : α) (h : i ≠ k) : upd Q k e i = Q i := if_neg h
theorem addr_ne {g a b : Nat} (h : a ≠ b) : (⟨g, a, none⟩ : Addr) ≠ ⟨g, b, none⟩ := fun e => by
  cases e
  exact h rfl
theorem owns_frozen {w : World} {N : Nat} {t : TypeId} {s : Nat} {v : Value} {n g : Nat} {xs : List Value} (h : w.ownsRow N t s v n xs) (hg : v.ownBlock = some g) (i : Nat) : w.frozen? ⟨g, i, none⟩ = false := by
  obtain ⟨cur, e⟩ := owns_heap h hg
  have hr : w.rowIs g t cur.size (fun j => cur.getD j (.slice none 0 0)) := ⟨cur, e, rfl, fun i hi => by simp [hi]⟩
  exact hr.frozen i
theorem made_at (z : Array Value) (n j : Nat) (hj : j < n) (u : Value) (hu : z[j % z.size]! = u) : (madeCells z n).toList[j]? = some u := by
  simp [madeCells, hj, hu]

end Go.Proofs.YtmcaejooaaahdaaGreat
