/-
  Texts of the proof, joined: KMoreQ, KShape, KLoseP, KPut.
-/
import Derived.Test.YtleekmmoanlpfaaGreatZ47
import Derived.Test.YtleekmmoanlpfaaGreatZ13
import Derived.Test.YtleekmmoanlpfaaGreatZ46
namespace Go.Proofs.YtleekmmoanlpfaaGreat

section
variable {X : Sto.Six} {c : Sto.Cfg}
theorem putS_gone {s : Sto.St} {n : Nat} {es : List Evt.Ev} (h : PutS X c s n es) (i : Nat) : isGone s i = false := by
  obtain ⟨BL, _, _, hw⟩ := h.ok
  unfold isGone
  split
  · rename_i x hx
    exact (hw i x hx (List.not_mem_nil)).1
  · rfl
theorem putS_dl {s : Sto.St} {n : Nat} {es : List Evt.Ev} (h : PutS X c s n es) : s.disks.length = c.d + c.s := by
  obtain ⟨BL, hi, _⟩ := h.ok
  exact hi.dl
theorem stp_all (s : Sto.St) : Sto.step X c s dAll = (s, Sto.looks X c s dAll) := by
  unfold Sto.step
  rw [if_neg (show ¬ (3 : Int) = 1 by decide), if_pos (Or.inr (Or.inl rfl))]
theorem stp_scrub (s : Sto.St) : Sto.step X c s dScrub = ({ s with disks := (Sto.scrub X c s.segs 0 s.disks 0 0).1 }, ⟨(Sto.scrub X c s.segs 0 s.disks 0 0).2.1, (Sto.scrub X c s.segs 0 s.disks 0 0).2.2, [], 0, []⟩) := by
  unfold Sto.step
  rw [if_neg (show ¬ (8 : Int) = 1 by decide), if_neg (show ¬ ((8 : Int) = 2 ∨ (8 : Int) = 3 ∨ (8 : Int) = 4) by decide), if_neg (show ¬ ((8 : Int) = 5 ∨ (8 : Int) = 6 ∨ (8 : Int) = 7) by decide), if_pos rfl]
theorem looks_all {s : Sto.St} {es : List Evt.Ev} (h : Sto.all X c s = (0, es)) : Sto.looks X c s dAll = ⟨0, (es.length : Int), es, 0, []⟩ := by
  unfold Sto.looks
  rw [h, if_neg (fun z => z rfl), if_neg (show ¬ (3 : Int) = 4 by decide), if_pos rfl, if_neg (fun z => by have z : (0 : Int) < 0 ∨ (es.length : Int) < 0 := z; omega)]
  rfl
/-- Too many are gone, and something is on disks. -/
theorem more_lost (hX : Sto.SixOk X) {s : Sto.St} {BL : List (List Evt.Bat)} (h : Sto.Inv X c s BL []) (h1 : 1 ≤ s.segs) (hg : c.s < cnt (isGone s) (c.d + c.s)) : (Sto.step X c s dAll).2.err = 10 ∧ (Sto.step X c s dScrub).2.err = 10 := by
  have hgd : Sto.Good X c := Sto.six_good hX
  obtain ⟨l, hl⟩ : ∃ l, BL[0]? = some l := ⟨BL[0]'(by rw [h.len]; exact h1), List.getElem?_eq_getElem _⟩
  obtain ⟨L, hh⟩ := h.hurts hl
  have hb : c.s < (X.bad (Sto.blocks s.disks (0 : Nat)) 0).length := by
    have e : Sto.gcnt c s.disks = cnt (isGone s) (c.d + c.s) := Sto.cnt_range _ _
    have := Sto.gcnt_bad hX (segs := s.segs) ⟨h.dl, h.up⟩ 0
    omega
  obtain ⟨q1, q2⟩ := hgd.lost hh hb
  obtain ⟨m, hm⟩ : ∃ m, s.segs = m + 1 := ⟨s.segs - 1, by omega⟩
  refine ⟨?_, ?_⟩
  · rw [stp_all]
    refine Sto.looks_lost ?_
    unfold Sto.all
    have e : (Sto.allS X c s.disks s.segs 0 []).1 = 10 := by
      rw [hm, Sto.allS, if_pos (by rw [q1]; decide)]
      exact q1
    rw [e, if_pos (by decide)]
  · rw [stp_scrub]
    show (Sto.scrub X c s.segs 0 s.disks 0 0).2.1 = 10
    rw [hm, Sto.scrub, if_neg (fun z => by rw [z] at hb; exact absurd hb (Nat.not_lt_zero _)), if_pos (by rw [q2]; decide), if_pos rfl, q2]
    exact Sto.scrub_err X c _ _ _ _ _ (by decide)
def moreL (c : Sto.Cfg) (f : Nat) (k : Nat) : List Sto.Do := putsA (fun _ => 5) 1 ++ loses (c.d + c.s) f k
theorem moreL_len (c : Sto.Cfg) (f k : Nat) : (moreL c f k).length = k + 2 := by
  rw [moreL, List.length_append, loses_len, putsA_len]
  omega
theorem two_more (s : Sto.St) (l : List Sto.Do) (d e : Sto.Do) : (Sto.steps X c s (l ++ [d, e])).2[l.length]? = some (Sto.step X c (Sto.steps X c s l).1 d).2 ∧ (Sto.steps X c s (l ++ [d, e])).2[l.length + 1]? = some (Sto.step X c (Sto.step X c (Sto.steps X c s l).1 d).1 e).2 := by
  have hl := Sto.steps_length X c l s
  rw [Sto.steps_append]
  refine ⟨?_, ?_⟩
  · show ((Sto.steps X c s l).2 ++ [_, _])[l.length]? = _
    rw [List.getElem?_append_right (by omega), hl, Nat.sub_self]
    rfl
  · show ((Sto.steps X c s l).2 ++ [_, _])[l.length + 1]? = _
    rw [List.getElem?_append_right (by omega), hl, show l.length + 1 - l.length = 1 by omega]
    rfl
theorem five_ok : ∀ k, k < 1 → 0 ≤ (fun _ : Nat => (5 : Int)) k ∧ (fun _ : Nat => (5 : Int)) k ≤ 1000000 := fun _ _ => ⟨show (0 : Int) ≤ 5 by decide, show (5 : Int) ≤ 1000000 by decide⟩
theorem more1 (hX : Sto.SixOk X) (hc : CfgOk c) (hb : c.b = 1) (f : Nat) : ∃ a1 a2, (Sto.steps X c (Sto.start c) (moreL c f (c.s + 1) ++ [dAll, dScrub])).2[c.s + 3]? = some a1 ∧ (Sto.steps X c (Sto.start c) (moreL c f (c.s + 1) ++ [dAll, dScrub])).2[c.s + 4]? = some a2 ∧ a1.err = 10 ∧ a2.err = 10 := by
  have h0 := (putsA_ps hX hc (Z := fun _ => 5) (m := 1) (by decide) five_ok 1 (Nat.le_refl _)).1
  obtain ⟨BL, i1, i2, i3⟩ := h0.ok
  have hd1 := hc.d1
  obtain ⟨q1, q2, q3, q4⟩ := loses_end (Sto.six_good hX) i1 (putS_dl h0) hc.d1 (putS_gone h0) f (c.s + 1)
  have hst : (Sto.steps X c (Sto.start c) (moreL c f (c.s + 1))).1 = (Sto.steps X c (Sto.steps X c (Sto.start c) (putsA (fun _ => 5) 1)).1 (loses (c.d + c.s) f (c.s + 1))).1 := by
    rw [moreL, Sto.steps_append]
  rw [← hst] at q1 q2 q3 q4
  have hseg : 1 ≤ (Sto.steps X c (Sto.start c) (moreL c f (c.s + 1))).1.segs := by
    rw [q3.segs]
    by_cases z : (Sto.steps X c (Sto.start c) (putsA (fun _ => 5) 1)).1.segs = 0
    · have e1 : BL = [] := List.eq_nil_of_length_eq_zero (i1.len.trans z)
      have e2 : (Sto.steps X c (Sto.start c) (putsA (fun _ => 5) 1)).1.tail = [] := List.eq_nil_of_length_eq_zero (by have := h0.tl; omega)
      rw [e1, e2] at i2
      have i2 := congrArg List.length i2
      rw [evsA_len] at i2
      cases i2
    · omega
  obtain ⟨t1, t2⟩ := two_more (X := X) (c := c) (Sto.start c) (moreL c f (c.s + 1)) dAll dScrub
  rw [moreL_len] at t1 t2
  obtain ⟨r1, r2⟩ := more_lost hX q1 hseg (by
    rw [show isGone (Sto.steps X c (Sto.start c) (moreL c f (c.s + 1))).1 = lostM (c.d + c.s) f (c.s + 1) from funext q4, lostM_cnt (by omega) f _ (by omega)]
    omega)
  rw [stp_all] at t2
  exact ⟨_, _, t1, t2, r1, r2⟩
/-- Nine batches a segment: both are on none yet. -/
theorem more_tail (hX : Sto.SixOk X) (hc : CfgOk c) (hb : c.b = 9) : (Sto.steps X c (Sto.start c) (putsA (fun _ => 5) 1)).1.segs = 0 ∧ (Sto.steps X c (Sto.start c) (putsA (fun _ => 5) 1)).1.tail = [⟨1, [evT1]⟩, ⟨2, [evAdd 5]⟩] := by
  have hp := PutS.put (evs := [evT1]) hX hc (ps_start hc) (by decide) (small_one ⟨Nat.le_refl _, by decide⟩ (by decide)) (show (Vw.fold 0 [] [evT1]).1.1 = 0 by decide)
  have e1 : (Sto.step X c (Sto.start c) (dPut 1 [evT1])).1.tail = [⟨1, [evT1]⟩] ∧ (Sto.step X c (Sto.start c) (dPut 1 [evT1])).1.segs = 0 := by
    rcases hp.2.2.2.2 with ⟨z1, _, z3⟩ | ⟨_, z2, _⟩
    · exact ⟨z1, z3⟩
    · exact absurd (show 1 < c.b by omega) z2
  have hf : (Vw.fold (Sto.step X c (Sto.start c) (dPut 1 [evT1])).1.u (Sto.step X c (Sto.start c) (dPut 1 [evT1])).1.acc [evAdd 5]).1.1 = 0 := by
    rw [hp.2.2.1, hp.2.2.2.1]
    show (Vw.fold (Vw.fold 0 [] [evT1]).2.1 (Vw.fold 0 [] [evT1]).2.2 [evAdd 5]).1.1 = 0
    decide
  have hp2 := PutS.put (evs := [evAdd 5]) hX hc hp.2.1 (by decide) (small_one ⟨by decide, by decide⟩ (by decide)) hf
  show (Sto.step X c (Sto.step X c (Sto.start c) (dPut 1 [evT1])).1 (dPut 2 [evAdd 5])).1.segs = 0 ∧ (Sto.step X c (Sto.step X c (Sto.start c) (dPut 1 [evT1])).1 (dPut 2 [evAdd 5])).1.tail = _
  rcases hp2.2.2.2.2 with ⟨z1, _, z3⟩ | ⟨_, z2, _⟩
  · rw [e1.1] at z1
    rw [e1.2] at z3
    exact ⟨z3, z1⟩
  · rw [e1.1] at z2
    exact absurd (show 2 < c.b by omega) z2
theorem more9 (hX : Sto.SixOk X) (hc : CfgOk c) (hb : c.b = 9) (f : Nat) : ∃ a1 a2, (Sto.steps X c (Sto.start c) (moreL c f (c.s + 1) ++ [dAll, dScrub])).2[c.s + 3]? = some a1 ∧ (Sto.steps X c (Sto.start c) (moreL c f (c.s + 1) ++ [dAll, dScrub])).2[c.s + 4]? = some a2 ∧ a1.err = 0 ∧ a1.evs.length = 2 ∧ a2.err = 0 := by
  have h0 := (putsA_ps hX hc (Z := fun _ => 5) (m := 1) (by decide) five_ok 1 (Nat.le_refl _)).1
  obtain ⟨BL, i1, i2, i3⟩ := h0.ok
  obtain ⟨q1, q2, q3, q4⟩ := loses_end (Sto.six_good hX) i1 (putS_dl h0) hc.d1 (putS_gone h0) f (c.s + 1)
  have hst : (Sto.steps X c (Sto.start c) (moreL c f (c.s + 1))).1 = (Sto.steps X c (Sto.steps X c (Sto.start c) (putsA (fun _ => 5) 1)).1 (loses (c.d + c.s) f (c.s + 1))).1 := by
    rw [moreL, Sto.steps_append]
  rw [← hst] at q1 q2 q3 q4
  obtain ⟨m1, m2⟩ := more_tail hX hc hb
  have s0 := q3.segs.trans m1
  have s1 := q3.tail.trans m2
  obtain ⟨t1, t2⟩ := two_more (X := X) (c := c) (Sto.start c) (moreL c f (c.s + 1)) dAll dScrub
  rw [moreL_len] at t1 t2
  rw [stp_all] at t1 t2
  rw [stp_scrub] at t2
  have ha : Sto.all X c (Sto.steps X c (Sto.start c) (moreL c f (c.s + 1))).1 = (0, [evT1, evAdd 5]) := by
    unfold Sto.all
    rw [s0, s1]
    rfl
  rw [looks_all ha] at t1
  refine ⟨_, _, t1, t2, rfl, rfl, ?_⟩
  show (Sto.scrub X c (Sto.steps X c (Sto.start c) (moreL c f (c.s + 1))).1.segs 0 _ 0 0).2.1 = 0
  rw [s0]
  rfl
end

end Go.Proofs.YtleekmmoanlpfaaGreat

namespace Go.Proofs.YtleekmmoanlpfaaGreat
open Go.RowKit

section
variable {X : Sto.Six} {c : Sto.Cfg}
theorem putS_all {s : Sto.St} {n : Nat} {es : List Evt.Ev} (hX : Sto.SixOk X) (h : PutS X c s n es) : Sto.all X c s = (0, es) := by
  obtain ⟨BL, hi, he, hw⟩ := h.ok
  rw [Sto.all_kept (Sto.six_good hX) hi hw (Nat.zero_le _), he]
theorem one_more (s : Sto.St) (l : List Sto.Do) (d : Sto.Do) : (Sto.steps X c s (l ++ [d])).2[l.length]? = some (Sto.step X c (Sto.steps X c s l).1 d).2 := by
  have hl := Sto.steps_length X c l s
  rw [Sto.steps_append]
  show ((Sto.steps X c s l).2 ++ [_])[l.length]? = _
  rw [List.getElem?_append_right (by omega), hl, Nat.sub_self]
  rfl
theorem shape (hX : Sto.SixOk X) (hc : CfgOk c) {Z : Nat → Int} {m : Nat} (hm : m ≤ 30) (hz : ∀ k, k < m → 0 ≤ Z k ∧ Z k ≤ 1000000) : (Sto.steps X c (Sto.start c) (putsA Z m ++ [dAll])).2[m + 1]? = some ⟨0, ((evsA Z m).length : Int), evsA Z m, 0, []⟩ := by
  have h0 := (putsA_ps hX hc hm hz m (Nat.le_refl _)).1
  have h1 := one_more (X := X) (c := c) (Sto.start c) (putsA Z m) dAll
  rw [putsA_len, stp_all, looks_all (putS_all hX h0)] at h1
  exact h1
end
theorem sameEv_qT {v v' : Value} {es es' : List Evt.Ev} {w : World} (h : Evs w v es) (h' : Evs w v' es') (y : Bool) (hy : y = true ↔ es = es') (n : Nat) :
    Calls Tryz.prog 14 #[v, v'] (w.drewN n) fun e w'' => e = .returned (.bool y) ∧ ∃ m, w'' = w.drewN m := by
  refine (sameEv_any v v' es es' (w.drewN n) (h.below (drewN_below w n)) (h'.below (drewN_below w n))).mono ?_
  rintro e w'' ⟨⟨x, rfl, hx⟩, m, rfl⟩
  have : x = y := by
    rw [Bool.eq_iff_iff]
    exact hx.trans hy.symm
  rw [this]
  exact ⟨rfl, _, drew_drew w n m⟩

end Go.Proofs.YtleekmmoanlpfaaGreat

namespace Go.Proofs.YtleekmmoanlpfaaGreat
open Go.RowKit

abbrev dSwap (i : Nat) : Sto.Do := ⟨6, (i : Int), 0, 0, 0, ⟨0, []⟩, [], 0⟩
abbrev dHealth : Sto.Do := ⟨9, 0, 0, 0, 0, ⟨0, []⟩, [], 0⟩
def swaps (n f : Nat) : Nat → List Sto.Do
  | 0 => []
  | k + 1 => swaps n f k ++ [dSwap ((f % n + k) % n)]
theorem swaps_len (n f : Nat) : ∀ k, (swaps n f k).length = k
  | 0 => rfl
  | k + 1 => by
    rw [swaps, List.length_append, swaps_len n f k]
    rfl
/-- Those disks. -/
def hitL (n f k : Nat) : List Nat := (List.range k).map fun j => (f % n + j) % n
theorem hitL_mem {n f k i : Nat} : i ∈ hitL n f k ↔ ∃ j, j < k ∧ (f % n + j) % n = i := by
  unfold hitL
  rw [List.mem_map]
  exact ⟨fun ⟨j, h1, h2⟩ => ⟨j, List.mem_range.1 h1, h2⟩, fun ⟨j, h1, h2⟩ => ⟨j, List.mem_range.2 h1, h2⟩⟩
theorem hitL_len (n f k : Nat) : (hitL n f k).length = k := by
  unfold hitL
  rw [List.length_map, List.length_range]
theorem loses_all (n f : Nat) : ∀ k d, d ∈ loses n f k → d.kind = 5 ∧ d.turn = 0 ∧ ∃ j, j < k ∧ (f % n + j) % n = d.n.toNat
  | 0, d, h => by cases h
  | k + 1, d, h => by
    rcases List.mem_append.1 h with q | q
    · obtain ⟨h1, h2, j, h3, h4⟩ := loses_all n f k d q
      exact ⟨h1, h2, j, by omega, h4⟩
    · rw [List.mem_singleton.1 q]
      exact ⟨rfl, rfl, k, Nat.lt_succ_self k, rfl⟩
theorem swaps_all (n f : Nat) : ∀ k d, d ∈ swaps n f k → d.kind = 6 ∧ d.turn = 0 ∧ ∃ j, j < k ∧ (f % n + j) % n = d.n.toNat
  | 0, d, h => by cases h
  | k + 1, d, h => by
    rcases List.mem_append.1 h with q | q
    · obtain ⟨h1, h2, j, h3, h4⟩ := swaps_all n f k d q
      exact ⟨h1, h2, j, by omega, h4⟩
    · rw [List.mem_singleton.1 q]
      exact ⟨rfl, rfl, k, Nat.lt_succ_self k, rfl⟩
section
variable {X : Sto.Six} {c : Sto.Cfg}
theorem same_trans {s t u : Sto.St} (h : Sto.Same s t) (h2 : Sto.Same t u) : Sto.Same s u := ⟨h2.seen.trans h.seen, h2.u.trans h.u, h2.acc.trans h.acc, h2.tail.trans h.tail, h2.segs.trans h.segs⟩
/-- Nothing is hurt; es was put in. -/
def OkS (X : Sto.Six) (c : Sto.Cfg) (s : Sto.St) (es : List Evt.Ev) : Prop := ∃ BL, Sto.Inv X c s BL [] ∧ Sto.evsOf BL.flatten ++ Sto.evsOf s.tail = es ∧ Sto.Whole X c s BL []
/-- Disks of H alone are lost, or others come in their places. -/
theorem harms_kept (hg : Sto.Good X c) {BL : List (List Evt.Bat)} {H : List Nat} : ∀ (l : List Sto.Do) {s : Sto.St}, (∀ d, d ∈ l → (d.kind = 5 ∨ d.kind = 6) ∧ d.turn = 0 ∧ d.n.toNat ∈ H) → Sto.Inv X c s BL [] → Sto.Whole X c s BL H → Sto.Inv X c (Sto.steps X c s l).1 BL [] ∧ Sto.Whole X c (Sto.steps X c s l).1 BL H ∧ Sto.Same s (Sto.steps X c s l).1
  | [], s, _, hi, hw => ⟨hi, hw, Sto.Same.refl s⟩
  | d :: r, s, hd, hi, hw => by
    obtain ⟨k1, k2, k3⟩ := hd d List.mem_cons_self
    have e : Sto.step X c s d = Sto.harm s d := by
      unfold Sto.step
      rw [if_neg (by omega), if_neg (by omega), if_pos (by omega)]
    have hi2 := Sto.harm_inv hi d (by omega) (by omega) (fun z => by omega)
    have hh : Sto.hadOf d [] = [] := if_neg fun z => by omega
    rw [hh] at hi2
    have hw2 := Sto.harm_whole hw d
    rw [if_neg (fun z => z.2 k3)] at hw2
    have hs2 := Sto.harm_same s d
    rw [← e] at hi2 hw2 hs2
    obtain ⟨q1, q2, q3⟩ := harms_kept hg r (fun x hx => hd x (List.mem_cons_of_mem _ hx)) hi2 hw2
    exact ⟨q1, q2, same_trans hs2 q3⟩
theorem swap_gone (s : Sto.St) {i : Nat} (hi : i < s.disks.length) (j : Nat) : isGone (Sto.step X c s (dSwap i)).1 j = if j = i then false else isGone s j := by
  have e : Sto.step X c s (dSwap i) = Sto.harm s (dSwap i) := by
    unfold Sto.step
    rw [if_neg (show ¬ (6 : Int) = 1 by decide), if_neg (show ¬ ((6 : Int) = 2 ∨ (6 : Int) = 3 ∨ (6 : Int) = 4) by decide), if_pos (Or.inr (Or.inl rfl))]
  obtain ⟨x, hx⟩ : ∃ x, s.disks[i]? = some x := ⟨s.disks[i], List.getElem?_eq_getElem hi⟩
  have hn : (dSwap i).n.toNat = i := rfl
  rw [e]
  unfold Sto.harm
  rw [hn, hx]
  dsimp only
  rw [if_neg (show ¬ (i : Int) < 0 by omega), if_neg (show ¬ ((6 : Int) = 5 ∧ x.gone = true) from fun z => absurd z.1 (by decide)), if_pos (Or.inr rfl)]
  unfold isGone
  dsimp only
  by_cases z : j = i
  · rw [if_pos z, z, List.getElem?_set_self hi]
    rfl
  · rw [if_neg z, List.getElem?_set_ne (fun y => z y.symm)]
/-- What is gone behind swaps was gone, and was not swapped. -/
theorem swaps_gone {s : Sto.St} {BL : List (List Evt.Bat)} (hg : Sto.Good X c) (hi : Sto.Inv X c s BL []) (h1 : 1 ≤ c.d) (f : Nat) : ∀ k i, isGone (Sto.steps X c s (swaps (c.d + c.s) f k)).1 i = true → isGone s i = true ∧ i ∉ hitL (c.d + c.s) f k
  | 0, i, h => ⟨h, fun z => by cases z⟩
  | k + 1, i, h => by
    have hq := (harms_kept hg (H := hitL (c.d + c.s) f k ++ List.range (c.d + c.s)) (swaps (c.d + c.s) f k) (fun d hd => by
      obtain ⟨a, b, q⟩ := swaps_all _ f k d hd
      exact ⟨Or.inr a, b, List.mem_append_left _ (hitL_mem.2 q)⟩) hi (fun i d hd hn => absurd (List.mem_append_right _ (List.mem_range.2 (by rw [← hi.dl]; exact (List.getElem?_eq_some_iff.1 hd).1))) hn)).1
    have hm : (f % (c.d + c.s) + k) % (c.d + c.s) < c.d + c.s := Nat.mod_lt _ (by omega)
    rw [swaps, steps_one, swap_gone _ (by rw [hq.dl]; exact hm)] at h
    by_cases q : i = (f % (c.d + c.s) + k) % (c.d + c.s)
    · rw [if_pos q] at h
      cases h
    · rw [if_neg q] at h
      obtain ⟨p1, p2⟩ := swaps_gone hg hi h1 f k i h
      refine ⟨p1, fun z => ?_⟩
      obtain ⟨j, j1, j2⟩ := hitL_mem.1 z
      by_cases y : j = k
      · exact q (by rw [← j2, y])
      · exact p2 (hitL_mem.2 ⟨j, by omega, j2⟩)
def roundL (c : Sto.Cfg) (f : Nat) : List Sto.Do := loses (c.d + c.s) f c.s ++ [dAll] ++ swaps (c.d + c.s) f c.s ++ [dScrub]
theorem roundL_len (c : Sto.Cfg) (f : Nat) : (roundL c f).length = 2 * c.s + 2 := by
  simp only [roundL, List.length_append, loses_len, swaps_len, List.length_singleton]
  omega
theorem round_ok (hX : Sto.SixOk X) (h1 : 1 ≤ c.d) {s : Sto.St} {es : List Evt.Ev} (h : OkS X c s es) (f : Nat) : OkS X c (Sto.steps X c s (roundL c f)).1 es ∧ (Sto.steps X c s (roundL c f)).2[c.s]? = some ⟨0, (es.length : Int), es, 0, []⟩ := by
  have hg : Sto.Good X c := Sto.six_good hX
  obtain ⟨BL, hi, he, hw⟩ := h
  have hw : Sto.Whole X c s BL (hitL (c.d + c.s) f c.s) := hw.mono fun _ z => by cases z
  have hH : (hitL (c.d + c.s) f c.s).length ≤ c.s := Nat.le_of_eq (hitL_len _ _ _)
  obtain ⟨a1, a2, a3⟩ := harms_kept hg (loses (c.d + c.s) f c.s) (fun d hd => by
    obtain ⟨a, b, q⟩ := loses_all _ f _ d hd
    exact ⟨Or.inl a, b, hitL_mem.2 q⟩) hi hw
  obtain ⟨t, ht⟩ : ∃ t, t = (Sto.steps X c s (loses (c.d + c.s) f c.s)).1 := ⟨_, rfl⟩
  rw [← ht] at a1 a2 a3
  have hal := Sto.all_kept hg a1 a2 hH
  rw [a3.tail, he] at hal
  obtain ⟨b1, b2, b3⟩ := harms_kept hg (swaps (c.d + c.s) f c.s) (fun d hd => by
    obtain ⟨a, b, q⟩ := swaps_all _ f _ d hd
    exact ⟨Or.inr a, b, hitL_mem.2 q⟩) a1 a2
  have b4 := swaps_gone hg a1 h1 f c.s
  obtain ⟨u, hu⟩ : ∃ u, u = (Sto.steps X c t (swaps (c.d + c.s) f c.s)).1 := ⟨_, rfl⟩
  rw [← hu] at b1 b2 b3 b4
  have hng : ∀ i, isGone u i = true → False := fun i z => by
    obtain ⟨_, z2⟩ := b4 i z
    unfold isGone at z
    split at z
    · rename_i x hx
      rw [(b2 i x hx z2).1] at z
      cases z
    · cases z
  obtain ⟨BL', c1, _, _, c4⟩ := Sto.step_inv hg b1 dScrub (show (0 : Nat) < 256 by decide) (fun z => absurd z.1 (show ¬ (8 : Int) = 7 by decide))
  have hh : Sto.hadOf dScrub [] = [] := if_neg fun z => absurd z.1 (show ¬ (8 : Int) = 7 by decide)
  rw [c4 (show ¬ (8 : Int) = 1 by decide), hh] at c1
  have c2 := (Sto.step_whole hg b1 b2 hH dScrub (show ¬ (8 : Int) = 1 by decide)).1
  have c3 : Sto.Same u (Sto.step X c u dScrub).1 := Sto.step_same (show ¬ (8 : Int) = 1 by decide)
  have hst : (Sto.steps X c s (roundL c f)).1 = (Sto.step X c u dScrub).1 := by
    rw [roundL, steps_one, Sto.steps_append, steps_one, ← ht, stp_all, ← hu]
  refine ⟨⟨BL, by rw [hst]; exact c1, by rw [hst, c3.tail, b3.tail, a3.tail]; exact he, by rw [hst]; exact c2.mono fun x hx => absurd (hurt8 rfl hx).2 (fun z => hng x z)⟩, ?_⟩
  have hl : (loses (c.d + c.s) f c.s).length = c.s := loses_len _ _ _
  have h2 := one_more (X := X) (c := c) s (loses (c.d + c.s) f c.s) dAll
  rw [hl, ← ht, stp_all, looks_all hal] at h2
  rw [roundL, Sto.steps_append, List.getElem?_append_left (by rw [Sto.steps_length]; simp only [List.length_append, hl, List.length_singleton]; omega), Sto.steps_append, List.getElem?_append_left (by rw [Sto.steps_length]; simp only [List.length_append, hl, List.length_singleton]; omega)]
  exact h2
theorem okS_all (hX : Sto.SixOk X) {s : Sto.St} {es : List Evt.Ev} (h : OkS X c s es) : Sto.all X c s = (0, es) := by
  obtain ⟨BL, hi, he, hw⟩ := h
  rw [Sto.all_kept (Sto.six_good hX) hi hw (Nat.zero_le _), he]
theorem stp_health (s : Sto.St) : Sto.step X c s dHealth = (s, Sto.told (Sto.health X s.disks s.segs 0 0)) := by
  unfold Sto.step
  rw [if_neg (show ¬ (9 : Int) = 1 by decide), if_neg (show ¬ ((9 : Int) = 2 ∨ (9 : Int) = 3 ∨ (9 : Int) = 4) by decide), if_neg (show ¬ ((9 : Int) = 5 ∨ (9 : Int) = 6 ∨ (9 : Int) = 7) by decide), if_neg (show ¬ (9 : Int) = 8 by decide), if_pos rfl]
theorem okS_health (hX : Sto.SixOk X) {s : Sto.St} {es : List Evt.Ev} (h : OkS X c s es) : Sto.health X s.disks s.segs 0 0 = 0 := by
  obtain ⟨BL, hi, _, hw⟩ := h
  rw [Sto.health_clean (g := 0) s.segs 0 0 fun j _ hj => ?_]
  · omega
  · obtain ⟨l, hl⟩ : ∃ l, BL[j]? = some l := ⟨BL[j]'(by rw [hi.len]; omega), List.getElem?_eq_getElem _⟩
    have := Sto.bad_few (Sto.six_good hX) hi hw hl
    exact Nat.le_zero.1 this
/-- Rounds, of disks from F o on. -/
def roundsL (c : Sto.Cfg) (F : Nat → Nat) : Nat → List Sto.Do
  | 0 => []
  | o + 1 => roundsL c F o ++ roundL c (F o)
theorem roundsL_len (c : Sto.Cfg) (F : Nat → Nat) : ∀ o, (roundsL c F o).length = o * (2 * c.s + 2)
  | 0 => (Nat.zero_mul _).symm
  | o + 1 => by
    rw [roundsL, List.length_append, roundsL_len c F o, roundL_len, Nat.succ_mul o]
theorem rounds_ok (hX : Sto.SixOk X) (h1 : 1 ≤ c.d) {s : Sto.St} {es : List Evt.Ev} (h : OkS X c s es) (F : Nat → Nat) : ∀ o, OkS X c (Sto.steps X c s (roundsL c F o)).1 es ∧ ∀ i, i < o → (Sto.steps X c s (roundsL c F o)).2[i * (2 * c.s + 2) + c.s]? = some ⟨0, (es.length : Int), es, 0, []⟩
  | 0 => ⟨h, fun i hi => absurd hi (Nat.not_lt_zero i)⟩
  | o + 1 => by
    obtain ⟨q1, q2⟩ := rounds_ok hX h1 h F o
    obtain ⟨r1, r2⟩ := round_ok hX h1 q1 (F o)
    rw [roundsL, Sto.steps_append]
    have hl : (Sto.steps X c s (roundsL c F o)).2.length = o * (2 * c.s + 2) := (Sto.steps_length ..).trans (roundsL_len c F o)
    refine ⟨r1, fun i hi => ?_⟩
    show ((Sto.steps X c s (roundsL c F o)).2 ++ _)[_]? = _
    by_cases q : i < o
    · have : i * (2 * c.s + 2) + (2 * c.s + 2) ≤ o * (2 * c.s + 2) := by
        rw [← Nat.succ_mul]
        exact Nat.mul_le_mul_right _ q
      rw [List.getElem?_append_left (by omega)]
      exact q2 i q
    · obtain rfl : i = o := by omega
      rw [List.getElem?_append_right (by omega), hl, Nat.add_sub_cancel_left]
      exact r2
def loseL (c : Sto.Cfg) (Z : Nat → Int) (m : Nat) (F : Nat → Nat) (o : Nat) : List Sto.Do := putsA Z m ++ roundsL c F o
theorem loseL_len (c : Sto.Cfg) (Z : Nat → Int) (m : Nat) (F : Nat → Nat) (o : Nat) : (loseL c Z m F o).length = m + 1 + o * (2 * c.s + 2) := by
  rw [loseL, List.length_append, putsA_len, roundsL_len]
theorem loses_told (hX : Sto.SixOk X) (hc : CfgOk c) {Z : Nat → Int} {m : Nat} (hm : m ≤ 30) (hz : ∀ k, k < m → 0 ≤ Z k ∧ Z k ≤ 1000000) (F : Nat → Nat) :
    (∀ i, i < 2 → (Sto.steps X c (Sto.start c) (loseL c Z m F 2 ++ [dAll, dHealth])).2[m + 1 + i * (2 * c.s + 2) + c.s]? = some ⟨0, ((evsA Z m).length : Int), evsA Z m, 0, []⟩) ∧ (Sto.steps X c (Sto.start c) (loseL c Z m F 2 ++ [dAll, dHealth])).2[m + 1 + 2 * (2 * c.s + 2)]? = some ⟨0, ((evsA Z m).length : Int), evsA Z m, 0, []⟩ ∧ (Sto.steps X c (Sto.start c) (loseL c Z m F 2 ++ [dAll, dHealth])).2[m + 1 + 2 * (2 * c.s + 2) + 1]? = some (Sto.told 0) := by
  have h0 : OkS X c (Sto.steps X c (Sto.start c) (putsA Z m)).1 (evsA Z m) := (putsA_ps hX hc hm hz m (Nat.le_refl _)).1.ok
  obtain ⟨q1, q2⟩ := rounds_ok hX hc.d1 h0 F 2
  have hst : (Sto.steps X c (Sto.start c) (loseL c Z m F 2)).1 = (Sto.steps X c (Sto.steps X c (Sto.start c) (putsA Z m)).1 (roundsL c F 2)).1 := by rw [loseL, Sto.steps_append]
  rw [← hst] at q1
  obtain ⟨t1, t2⟩ := two_more (X := X) (c := c) (Sto.start c) (loseL c Z m F 2) dAll dHealth
  rw [loseL_len] at t1 t2
  rw [stp_all] at t1 t2
  rw [looks_all (okS_all hX q1)] at t1
  rw [stp_health, okS_health hX q1] at t2
  refine ⟨fun i hi => ?_, t1, t2⟩
  have hle : i * (2 * c.s + 2) + (2 * c.s + 2) ≤ 2 * (2 * c.s + 2) := by
    rw [← Nat.succ_mul]
    exact Nat.mul_le_mul_right _ hi
  have hlp : (Sto.steps X c (Sto.start c) (putsA Z m)).2.length = m + 1 := (Sto.steps_length ..).trans (putsA_len Z m)
  rw [Sto.steps_append, List.getElem?_append_left (by rw [Sto.steps_length, loseL_len]; omega), loseL, Sto.steps_append, List.getElem?_append_right (by omega), hlp, show m + 1 + i * (2 * c.s + 2) + c.s - (m + 1) = i * (2 * c.s + 2) + c.s by omega]
  exact q2 i hi
end

end Go.Proofs.YtleekmmoanlpfaaGreat

namespace Go.Proofs.YtleekmmoanlpfaaGreat
open Go.RowKit

section
variable (w : World)
theorem bAl8 (o : Obj) : Below w.heap.size w (w.alloc o) := (Below.refl _ _).alloc (Nat.le_refl _) _
set_option maxHeartbeats 400000 in
set_option maxRecDepth 100000 in
theorem putT_any (cmd : Int) (A : Option Addr) (n C : Nat) :
    Calls Tryz.prog 10 #[.int .i64 cmd, .slice A n C] w fun e w' => e = .returned (.agg #[.int .i64 1, .int .i64 0, .int .i64 0, .int .i64 0, .int .u8 0, .int .i64 cmd, .slice A n C, .string ByteArray.empty, .int .i64 (-1)]) ∧ Below w.heap.size w w' := by
  have bA := bAl8 w
  go_enter Tryz.func10, Tryz.ntmps10
  go_wp2_with fail
  refine bodyPost_ret (v := .agg #[.int .i64 1, .int .i64 0, .int .i64 0, .int .i64 0, .int .u8 0, .int .i64 cmd, .slice A n C, .string ByteArray.empty, .int .i64 (-1)]) (by simp [results, Tryz.results10, go_sem]; rfl) rfl ⟨rfl, ?_⟩
  exact bA _
set_option maxHeartbeats 400000 in
set_option maxRecDepth 100000 in
theorem openT_any (t : ByteArray) : Calls Tryz.prog 11 #[.string t] w fun e w' => e = .returned (.agg #[.string t, .int .i64 1, .int .i64 0]) ∧ Below w.heap.size w w' := by
  have bA := bAl8 w
  go_enter Tryz.func11, Tryz.ntmps11
  go_wp2_with fail
  refine bodyPost_ret (v := .agg #[.string t, .int .i64 1, .int .i64 0]) (by simp [results, Tryz.results11, go_sem]) rfl ⟨rfl, ?_⟩
  exact bA _
set_option maxHeartbeats 400000 in
set_option maxRecDepth 100000 in
theorem addT_any (t : ByteArray) (n : Int) : Calls Tryz.prog 12 #[.string t, .int .i64 n] w fun e w' => e = .returned (.agg #[.string t, .int .i64 2, .int .i64 n]) ∧ Below w.heap.size w w' := by
  have bA := bAl8 w
  go_enter Tryz.func12, Tryz.ntmps12
  go_wp2_with fail
  refine bodyPost_ret (v := .agg #[.string t, .int .i64 2, .int .i64 n]) (by simp [results, Tryz.results12, go_sem]) rfl ⟨rfl, ?_⟩
  exact bA _
set_option maxHeartbeats 400000 in
set_option maxRecDepth 100000 in
theorem takeT_any (t : ByteArray) (n : Int) : Calls Tryz.prog 15 #[.string t, .int .i64 n] w fun e w' => e = .returned (.agg #[.string t, .int .i64 3, .int .i64 n]) ∧ Below w.heap.size w w' := by
  have bA := bAl8 w
  go_enter Tryz.func15, Tryz.ntmps15
  go_wp2_with fail
  refine bodyPost_ret (v := .agg #[.string t, .int .i64 3, .int .i64 n]) (by simp [results, Tryz.results15, go_sem]) rfl ⟨rfl, ?_⟩
  exact bA _
/-- A small setup. -/
def Small (d s : Int) : Prop := 1 ≤ d ∧ d ≤ 8 ∧ 0 ≤ s ∧ s ≤ 4
set_option maxHeartbeats 400000 in
set_option maxRecDepth 100000 in
theorem small_yes (d s : Int) (h : Small d s) : Calls Tryz.prog 9 #[.int .i64 d, .int .i64 s] w fun e w' => e = .returned (.bool true) ∧ Below w.heap.size w w' := by
  obtain ⟨h1, h2, h3, h4⟩ := h
  go_enter Tryz.func9, Tryz.ntmps9
  go_wp2_with fail
  go_ret
  exact ⟨rfl, Below.refl _ _⟩
set_option maxHeartbeats 400000 in
set_option maxRecDepth 100000 in
theorem small_no (d s : Int) (h : ¬ Small d s) : Calls Tryz.prog 9 #[.int .i64 d, .int .i64 s] w fun e w' => e = .returned (.bool false) ∧ Below w.heap.size w w' := by
  by_cases h1 : 1 ≤ d
  · by_cases h2 : d ≤ 8
    · by_cases h3 : 0 ≤ s
      · have h4 : ¬ s ≤ 4 := fun q => h ⟨h1, h2, h3, q⟩
        clear h
        go_enter Tryz.func9, Tryz.ntmps9
        go_wp2_with fail
        go_ret
        exact ⟨rfl, Below.refl _ _⟩
      · clear h
        go_enter Tryz.func9, Tryz.ntmps9
        go_wp2_with fail
        go_ret
        exact ⟨rfl, Below.refl _ _⟩
    · clear h
      go_enter Tryz.func9, Tryz.ntmps9
      go_wp2_with fail
      go_ret
      exact ⟨rfl, Below.refl _ _⟩
  · clear h
    go_enter Tryz.func9, Tryz.ntmps9
    go_wp2_with fail
    go_ret
    exact ⟨rfl, Below.refl _ _⟩
end

end Go.Proofs.YtleekmmoanlpfaaGreat
