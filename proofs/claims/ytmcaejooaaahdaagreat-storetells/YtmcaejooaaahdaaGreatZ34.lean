/-
  Texts of the proof, joined: HKeep, HStore.
-/
import Derived.Test.YtmcaejooaaahdaaGreatZ33
import Derived.Test.YtmcaejooaaahdaaGreatZ29
import Derived.Test.YtmcaejooaaahdaaGreatZ30
namespace Go.Proofs.YtmcaejooaaahdaaGreat.Sto
open Evt (Ev Bat)

theorem one_of (h : Nat) : ∀ n, (List.range n).countP (fun i => decide (i = h)) = if h < n then 1 else 0
  | 0 => rfl
  | n + 1 => by
    rw [List.range_succ, List.countP_append, one_of h n]
    by_cases e : n = h
    · subst e
      simp
    · simp [e]
      by_cases q : h < n
      · rw [if_pos q, if_pos (by omega)]
      · rw [if_neg q, if_neg (by omega)]
theorem count_or (p q : Nat → Bool) : ∀ l : List Nat, l.countP (fun i => p i || q i) ≤ l.countP p + l.countP q
  | [] => Nat.le_refl _
  | x :: t => by
    have := count_or p q t
    rw [List.countP_cons, List.countP_cons, List.countP_cons]
    cases p x <;> cases q x <;> simp <;> omega
theorem count_mem (n : Nat) : ∀ H : List Nat, (List.range n).countP (fun i => decide (i ∈ H)) ≤ H.length
  | [] => by simp
  | h :: t => by
    have h1 := count_or (fun i => decide (i = h)) (fun i => decide (i ∈ t)) (List.range n)
    have h2 := count_mem n t
    have h3 := one_of h n
    have e : (fun i => decide (i ∈ h :: t)) = fun i => decide (i = h) || decide (i ∈ t) := by
      funext i
      simp
    rw [e, List.length_cons]
    split at h3 <;> omega
theorem bad_few {X : Six} {c : Cfg} {s : St} {BL : List (List Bat)} {had : List (Int × Int)} {H : List Nat} (hg : Good X c) (h : Inv X c s BL had) (hw : Whole X c s BL H) {k : Nat} {l : List Bat} (hk : BL[k]? = some l) : (X.bad (blocks s.disks k) k).length ≤ H.length := by
  obtain ⟨L, hh⟩ := h.hurts hk
  rw [hg.bad hh, ← List.countP_eq_length_filter]
  refine Nat.le_trans (List.countP_mono_left fun i hi hb => ?_) (count_mem (c.d + c.s) H)
  have hi : i < c.d + c.s := List.mem_range.1 hi
  refine decide_eq_true (Decidable.not_not.1 fun hn => ?_)
  obtain ⟨d, hd⟩ : ∃ d, s.disks[i]? = some d := ⟨s.disks[i]'(by rw [h.dl]; exact hi), List.getElem?_eq_getElem _⟩
  obtain ⟨g, hp⟩ := hw i d hd hn
  have e : (blocks s.disks k).getD i [] = L.getD i [] := by
    rw [List.getD_eq_getElem?_getD, blocks, List.getElem?_map, hd]
    show (if d.gone then [] else pickB k d.bl []) = _
    rw [g, if_neg (by decide), hp k l L hk hh.lay]
  exact (of_decide_eq_true hb) e
theorem allS_kept {X : Six} {c : Cfg} {s : St} {BL : List (List Bat)} {had : List (Int × Int)} {H : List Nat} (hg : Good X c) (h : Inv X c s BL had) (hw : Whole X c s BL H) (hs : H.length ≤ c.s) :
    ∀ (m k : Nat) (out : List Ev), k + m = BL.length → allS X c s.disks m k out = (0, out ++ evsOf (BL.drop k).flatten)
  | 0, k, out, e => by
    rw [allS, List.drop_eq_nil_of_le (by omega)]
    show (0, out) = (0, out ++ [])
    rw [List.append_nil]
  | m + 1, k, out, e => by
    have hk : k < BL.length := by omega
    obtain ⟨l, hl⟩ : ∃ l, BL[k]? = some l := ⟨BL[k], List.getElem?_eq_getElem hk⟩
    obtain ⟨L, hh⟩ := h.hurts hl
    obtain ⟨q1, _⟩ := hg.kept hh (Nat.le_trans (bad_few hg h hw hl) hs)
    obtain ⟨p1, p2⟩ := Evt.parse_enc (h.ok k l hl).1
    rw [allS, q1, if_neg (fun z => z rfl)]
    dsimp only
    rw [if_neg (fun z => z p1), p2, allS_kept hg h hw hs m (k + 1) (out ++ evsOf l) (by omega), show BL.drop k = l :: BL.drop (k + 1) from by
      obtain ⟨_, rfl⟩ := List.getElem?_eq_some_iff.1 hl
      exact List.drop_eq_getElem_cons hk, List.flatten_cons, evsOf_append, List.append_assoc]
/-- Nothing is lost. -/
theorem all_kept {X : Six} {c : Cfg} {s : St} {BL : List (List Bat)} {had : List (Int × Int)} {H : List Nat} (hg : Good X c) (h : Inv X c s BL had) (hw : Whole X c s BL H) (hs : H.length ≤ c.s) : all X c s = (0, evsOf BL.flatten ++ evsOf s.tail) := by
  unfold all
  rw [allS_kept hg h hw hs s.segs 0 [] (by rw [h.len]; omega), if_neg (fun q => q rfl)]
  rfl

/-! ### What is scrubbed -/
/-- All disks that are there are whole up to a segment. -/
def Upto (X : Six) (c : Cfg) (ds : List Disk) (BL : List (List Bat)) (n : Nat) : Prop :=
  ∀ (i : Nat) (d : Disk), ds[i]? = some d → d.gone = false → ∀ (k : Nat) l L, k < n → BL[k]? = some l → X.lay (Evt.encL l) k c = (0, L) → pickB k d.bl [] = L.getD i []
theorem blocks_at {s : St} {k : Int} {i : Nat} {d : Disk} (hd : s.disks[i]? = some d) : (blocks s.disks k).getD i [] = if d.gone then [] else pickB k d.bl [] := by
  rw [List.getD_eq_getElem?_getD, blocks, List.getElem?_map, hd]
  rfl
/-- A segment is mended: it is whole on all disks that are there; others are as they were. -/
theorem upto_write {X : Six} {c : Cfg} {s : St} {BL : List (List Bat)} {had : List (Int × Int)} (h : Inv X c s BL had) {k : Nat} {l : List Bat} {L : List (List Nat)} (hk : BL[k]? = some l) (hL : X.lay (Evt.encL l) k c = (0, L)) (hu : Upto X c s.disks BL k) : Upto X c (write k L 0 s.disks) BL (k + 1) := fun i d hd g j l' L' hj hjl hjL => by
  rw [write_at] at hd
  obtain ⟨e, he, rfl⟩ := Option.map_eq_some_iff.1 hd
  by_cases q : e.gone = true
  · rw [if_pos q] at g
    rw [q] at g
    cases g
  · rw [if_neg q, Nat.zero_add]
    obtain ⟨u1, _, _⟩ := h.up i e he
    show pickB j (ins k (L.getD i []) false e.bl) [] = _
    by_cases z : j = k
    · subst z
      rw [hk] at hjl
      cases hjl
      rw [hL] at hjL
      have hjL : L = L' := (Prod.mk.inj hjL).2
      subst hjL
      exact pick_ins u1 []
    · rw [pick_other u1 (by omega)]
      exact hu i e he (by simpa using q) j l' L' (by omega) hjl hjL
/-- None is bad: a segment is whole. -/
theorem upto_good {X : Six} {c : Cfg} {s : St} {BL : List (List Bat)} {had : List (Int × Int)} (hg : Good X c) (h : Inv X c s BL had) {k : Nat} {l : List Bat} (hk : BL[k]? = some l) (hb : X.bad (blocks s.disks k) k = []) (hu : Upto X c s.disks BL k) : Upto X c s.disks BL (k + 1) := fun i d hd g j l' L' hj hjl hjL => by
  by_cases z : j = k
  · subst z
    rw [hk] at hjl
    cases hjl
    obtain ⟨L, hh⟩ := h.hurts hk
    have e : L = L' := (Prod.mk.inj (hh.lay.symm.trans hjL)).2
    subst e
    rw [hg.bad hh, List.filter_eq_nil_iff] at hb
    have hi : i < c.d + c.s := by
      rw [← h.dl]
      exact (List.getElem?_eq_some_iff.1 hd).1
    have := hb i (List.mem_range.2 hi)
    rw [decide_eq_true_iff, Decidable.not_not, blocks_at hd, g, if_neg (by decide)] at this
    exact this
  · exact hu i d hd g j l' L' (by omega) hjl hjL
theorem Whole.mono {X : Six} {c : Cfg} {s : St} {BL : List (List Bat)} {H H' : List Nat} (h : Whole X c s BL H) (hh : ∀ x, x ∈ H → x ∈ H') : Whole X c s BL H' := fun i d hd hn => h i d hd fun q => hn (hh i q)
theorem whole_write {X : Six} {c : Cfg} {s : St} {BL : List (List Bat)} {had : List (Int × Int)} {H : List Nat} (h : Inv X c s BL had) {k : Nat} {l : List Bat} {L : List (List Nat)} (hk : BL[k]? = some l) (hL : X.lay (Evt.encL l) k c = (0, L)) (hw : Whole X c s BL H) : Whole X c { s with disks := write k L 0 s.disks } BL H := fun i d hd hn => by
  have hd : (write k L 0 s.disks)[i]? = some d := hd
  rw [write_at] at hd
  obtain ⟨e, he, rfl⟩ := Option.map_eq_some_iff.1 hd
  obtain ⟨g, hp⟩ := hw i e he hn
  obtain ⟨u1, _, _⟩ := h.up i e he
  rw [if_neg (by rw [g]; decide), Nat.zero_add]
  refine ⟨rfl, fun j l' L' hj hL' => ?_⟩
  show pickB j (ins k (L.getD i []) false e.bl) [] = _
  by_cases q : j = k
  · subst q
    rw [hk] at hj
    cases hj
    have e2 : L = L' := (Prod.mk.inj (hL.symm.trans hL')).2
    subst e2
    exact pick_ins u1 []
  · rw [pick_other u1 (by omega)]
    exact hp j l' L' hj hL'
theorem write_gone (k : Int) (l : List (List Nat)) (ds : List Disk) (i : Nat) : ((write k l 0 ds)[i]?).map Disk.gone = (ds[i]?).map Disk.gone := by
  rw [write_at, Option.map_map]
  congr 1
  funext d
  show (if d.gone then d else _ : Disk).gone = d.gone
  by_cases q : d.gone = true
  · rw [if_pos q]
  · rw [if_neg q]
    exact (by simpa using q : d.gone = false).symm
/-- Few were hurt: all is mended, on disks that are there. -/
theorem scrub_kept {X : Six} {c : Cfg} {s : St} {BL : List (List Bat)} {had : List (Int × Int)} {H : List Nat} (hg : Good X c) (hs : H.length ≤ c.s) : ∀ (m k : Nat) (ds : List Disk) (e n : Nat), k + m = BL.length → Inv X c { s with disks := ds } BL had → Whole X c { s with disks := ds } BL H → Upto X c ds BL k →
    (scrub X c m k ds e n).2.1 = e ∧ Upto X c (scrub X c m k ds e n).1 BL BL.length ∧ ∀ i : Nat, ((scrub X c m k ds e n).1[i]?).map Disk.gone = (ds[i]?).map Disk.gone
  | 0, k, ds, e, n, he, _, _, hu => ⟨rfl, by rw [← he]; exact hu, fun _ => rfl⟩
  | m + 1, k, ds, e, n, he, hi, hw, hu => by
    have hk : k < BL.length := by omega
    obtain ⟨l, hl⟩ : ∃ l, BL[k]? = some l := ⟨BL[k], List.getElem?_eq_getElem hk⟩
    obtain ⟨L, hh⟩ := hi.hurts hl
    have hm : X.mend (blocks ds k) k c = (0, L) := (hg.kept hh (Nat.le_trans (bad_few hg hi hw hl) hs)).2
    rw [scrub]
    by_cases q1 : X.bad (blocks ds k) k = []
    · rw [if_pos q1]
      exact scrub_kept hg hs m (k + 1) ds e n (by omega) hi hw (upto_good hg hi hl q1 hu)
    · rw [if_neg q1, hm, if_neg (fun q => q rfl)]
      obtain ⟨r1, r2, r3⟩ := scrub_kept hg hs m (k + 1) (write k L 0 ds) e (n + there ds (X.bad (blocks ds k) k)) (by omega) (hi.again hl hh.lay) (whole_write hi hl hh.lay hw) (upto_write hi hl hh.lay hu)
      exact ⟨r1, r2, fun i => (r3 i).trans (write_gone k L ds i)⟩
/-- What is hurt, behind one thing more. -/
def hurtOf (X : Six) (c : Cfg) (s : St) (d : Do) (H : List Nat) : List Nat :=
  if d.kind = 5 ∨ d.kind = 6 ∨ d.kind = 7 then (if (step X c s d).2.err = 0 ∧ d.n.toNat ∉ H then d.n.toNat :: H else H)
  else if d.kind = 8 then H.filter fun i => match s.disks[i]? with | some x => x.gone | none => false
  else H
theorem whole_set {X : Six} {c : Cfg} {s : St} {BL : List (List Bat)} {H : List Nat} (h : Whole X c s BL H) (n : Nat) (x : Disk) : Whole X c { s with disks := s.disks.set n x } BL (if n ∉ H then n :: H else H) := fun i d hd hn => by
  have hd : (s.disks.set n x)[i]? = some d := hd
  have hi : i ≠ n ∧ i ∉ H := by
    by_cases q : n ∉ H
    · rw [if_pos q] at hn
      exact ⟨fun e => hn (e ▸ List.mem_cons_self ..), fun e => hn (List.mem_cons_of_mem _ e)⟩
    · rw [if_neg q] at hn
      exact ⟨fun e => q (e ▸ hn), hn⟩
  rw [List.getElem?_set_ne (fun z => hi.1 z.symm)] at hd
  exact h i d hd hi.2
theorem harm_whole {X : Six} {c : Cfg} {s : St} {BL : List (List Bat)} {H : List Nat} (h : Whole X c s BL H) (d : Do) : Whole X c (harm s d).1 BL (if (harm s d).2.err = 0 ∧ d.n.toNat ∉ H then d.n.toNat :: H else H) := by
  have h6 : ∀ e : Nat, e ≠ 0 → Whole X c s BL (if (no e).err = 0 ∧ d.n.toNat ∉ H then d.n.toNat :: H else H) := fun e he => by
    rw [if_neg (fun q => he q.1)]
    exact h
  have ht : ∀ x : Disk, Whole X c { s with disks := s.disks.set d.n.toNat x } BL (if (told 0).err = 0 ∧ d.n.toNat ∉ H then d.n.toNat :: H else H) := fun x => by
    have hx := whole_set h d.n.toNat x
    by_cases q : d.n.toNat ∉ H
    · rw [if_pos q] at hx
      rw [if_pos ⟨rfl, q⟩]
      exact hx
    · rw [if_neg q] at hx
      rw [if_neg (fun z => q z.2)]
      exact hx
  unfold harm
  split
  · exact h6 6 (by decide)
  · split
    · exact h6 6 (by decide)
    · split
      · exact h6 8 (by decide)
      · split
        · exact ht _
        · split
          · exact h6 6 (by decide)
          · split
            · exact h6 3 (by decide)
            · exact ht _
/-- One thing more is done, and few were hurt. -/
theorem step_whole {X : Six} {c : Cfg} {s : St} {BL : List (List Bat)} {had : List (Int × Int)} {H : List Nat} (hg : Good X c) (h : Inv X c s BL had) (hw : Whole X c s BL H) (hs : H.length ≤ c.s) (d : Do) (k1 : d.kind ≠ 1) :
    Whole X c (step X c s d).1 BL (hurtOf X c s d H) ∧ (d.kind = 8 → (step X c s d).2.err = 0) := by
  unfold hurtOf
  by_cases k3 : d.kind = 5 ∨ d.kind = 6 ∨ d.kind = 7
  · rw [if_pos k3]
    have e : step X c s d = harm s d := by
      unfold step
      rw [if_neg k1, if_neg (by omega), if_pos k3]
    rw [e]
    exact ⟨harm_whole hw d, fun q => by omega⟩
  rw [if_neg k3]
  by_cases k8 : d.kind = 8
  · rw [if_pos k8]
    have e : step X c s d = ({ s with disks := (scrub X c s.segs 0 s.disks 0 0).1 }, ⟨(scrub X c s.segs 0 s.disks 0 0).2.1, (scrub X c s.segs 0 s.disks 0 0).2.2, [], 0, []⟩) := by
      unfold step
      rw [if_neg k1, if_neg (by omega), if_neg k3, if_pos k8]
    obtain ⟨r1, r2, r3⟩ := scrub_kept (s := s) hg hs s.segs 0 s.disks 0 0 (by rw [h.len]; omega) h hw (fun _ _ _ _ k _ _ hk => absurd hk (Nat.not_lt_zero k))
    rw [e]
    refine ⟨fun i x hx hn => ?_, fun _ => r1⟩
    have hx : (scrub X c s.segs 0 s.disks 0 0).1[i]? = some x := hx
    have hgi := r3 i
    rw [hx] at hgi
    obtain ⟨y, hy, hyg⟩ := Option.map_eq_some_iff.1 hgi.symm
    have hxg : x.gone = false := by
      by_cases q : x.gone = true
      · refine absurd ?_ hn
        have hyt : y.gone = true := hyg.trans q
        rw [List.mem_filter]
        refine ⟨Decidable.not_not.1 fun z => ?_, by rw [hy]; exact hyt⟩
        have := (hw i y hy z).1
        rw [hyt] at this
        cases this
      · simpa using q
    exact ⟨hxg, fun k l L hk hL => r2 i x hx hxg k l L (List.getElem?_eq_some_iff.1 hk).1 hk hL⟩
  · rw [if_neg k8]
    have e : (step X c s d).1 = s := by
      unfold step
      rw [if_neg k1]
      by_cases k2 : d.kind = 2 ∨ d.kind = 3 ∨ d.kind = 4
      · rw [if_pos k2]
      · rw [if_neg k2, if_neg k3, if_neg k8]
        by_cases k9 : d.kind = 9
        · rw [if_pos k9]
        · rw [if_neg k9]
    rw [e]
    exact ⟨hw, fun q => absurd q k8⟩

end Go.Proofs.YtmcaejooaaahdaaGreat.Sto

namespace Go.Proofs.YtmcaejooaaahdaaGreat
open Go.RowKit

/-! ### What lies outside -/
/-- Events that lie in a block of E. -/
def EvsE (w : World) (E : Nat → Prop) (v : Value) (es : List Evt.Ev) : Prop := Evs w v es ∧ ∀ g, v.ownBlock = some g → es ≠ [] → E g
def AccE (w : World) (E : Nat → Prop) (v : Value) (l : List Vw.Acc) : Prop := Accs w v l ∧ ∀ g, v.ownBlock = some g → l ≠ [] → E g
theorem EvsE.move {w w' : World} {E E' : Nat → Prop} {v : Value} {es : List Evt.Ev} (h : EvsE w E v es) (hk : ∀ k, k < w.heap.size → E k → w'.heap[k]? = w.heap[k]?) (hE : ∀ k, k < w.heap.size → E k → E' k) : EvsE w' E' v es := by
  obtain ⟨⟨A, cap, rfl, h1, h2, h3⟩, h4⟩ := h
  refine ⟨⟨A, cap, rfl, h1, h2, fun i e he => ?_⟩, fun g hg hne => ?_⟩
  · obtain ⟨b, o, rfl, t, q1, q2, c0, c1, c2⟩ := h3 i e he
    have hp : b < w.heap.size := World.block_lt_of_cell? _ _ c0
    have hb := hk b hp (h4 b rfl (fun z => by rw [z] at he; cases he))
    exact ⟨b, o, rfl, t, q1, q2, (World.cell?_of_block (w := w) (a := ⟨b, o + i * 3, none⟩) hb).trans c0, (World.cell?_of_block (w := w) (a := ⟨b, o + i * 3 + 1, none⟩) hb).trans c1, (World.cell?_of_block (w := w) (a := ⟨b, o + i * 3 + 2, none⟩) hb).trans c2⟩
  · cases es with
    | nil => exact absurd rfl hne
    | cons e r =>
      obtain ⟨b, o, rfl, t, _, _, c0, _⟩ := h3 0 e rfl
      cases hg
      exact hE b (World.block_lt_of_cell? _ _ c0) (h4 b rfl hne)
theorem AccE.move {w w' : World} {E E' : Nat → Prop} {v : Value} {l : List Vw.Acc} (h : AccE w E v l) (hk : ∀ k, k < w.heap.size → E k → w'.heap[k]? = w.heap[k]?) (hE : ∀ k, k < w.heap.size → E k → E' k) : AccE w' E' v l := by
  obtain ⟨⟨A, cap, rfl, h1, h2, h3⟩, h4⟩ := h
  refine ⟨⟨A, cap, rfl, h1, h2, fun i e he => ?_⟩, fun g hg hne => ?_⟩
  · obtain ⟨b, o, rfl, t, q1, q2, c0, c1, c2, c3⟩ := h3 i e he
    have hp : b < w.heap.size := World.block_lt_of_cell? _ _ c0
    have hb := hk b hp (h4 b rfl (fun z => by rw [z] at he; cases he))
    exact ⟨b, o, rfl, t, q1, q2, (World.cell?_of_block (w := w) (a := ⟨b, o + i * 4, none⟩) hb).trans c0, (World.cell?_of_block (w := w) (a := ⟨b, o + i * 4 + 1, none⟩) hb).trans c1, (World.cell?_of_block (w := w) (a := ⟨b, o + i * 4 + 2, none⟩) hb).trans c2, (World.cell?_of_block (w := w) (a := ⟨b, o + i * 4 + 3, none⟩) hb).trans c3⟩
  · cases l with
    | nil => exact absurd rfl hne
    | cons e r =>
      obtain ⟨b, o, rfl, t, _, _, c0, _⟩ := h3 0 e rfl
      cases hg
      exact hE b (World.block_lt_of_cell? _ _ c0) (h4 b rfl hne)
theorem evsE_nil (w : World) (E : Nat → Prop) : EvsE w E (.slice none 0 0) [] := ⟨⟨none, 0, rfl, Nat.le_refl _, Nat.zero_le _, fun i e he => by cases he⟩, fun _ _ h => absurd rfl h⟩
theorem accE_nil (w : World) (E : Nat → Prop) : AccE w E (.slice none 0 0) [] := ⟨Accs.nil w, fun _ _ h => absurd rfl h⟩
/-- None but blocks of F has turned; F, and E, have grown by new ones alone. -/
structure Frame (w w' : World) (F F' E E' : Nat → Prop) : Prop where
  off : Off F w w'
  growF : ∀ k, F' k → F k ∨ w.heap.size ≤ k
  growE : ∀ k, E' k → E k ∨ w.heap.size ≤ k
theorem Frame.of_below {w w' : World} (F E : Nat → Prop) (h : Below w.heap.size w w') : Frame w w' F F E E := ⟨Off.of_below h, fun _ h => Or.inl h, fun _ h => Or.inl h⟩
theorem Frame.refl (w : World) (F E : Nat → Prop) : Frame w w F F E E := Frame.of_below F E (Below.refl _ _)
theorem Frame.trans {a b c : World} {F G H E I J : Nat → Prop} (h : Frame a b F G E I) (k : Frame b c G H I J) : Frame a c F H E J :=
  ⟨h.off.past k.off fun y s hy => by
    rcases h.growF y s with q | q
    · exact q
    · omega, fun y s => by
    rcases k.growF y s with q | q
    · exact h.growF y q
    · exact Or.inr (Nat.le_trans h.off.size q), fun y s => by
    rcases k.growE y s with q | q
    · exact h.growE y q
    · exact Or.inr (Nat.le_trans h.off.size q)⟩

/-! ### What holds of a store, plainly -/
structure WfS (c : Sto.Cfg) (s : Sto.St) : Prop where
  len : s.disks.length = c.d + c.s
  d1 : 1 ≤ c.d
  d8 : c.d ≤ 8
  s4 : c.s ≤ 4
  b1 : 1 ≤ c.b
  b10 : c.b ≤ 10
  wd : WfD s.disks 100
  segs : s.segs ≤ 40
  tail : s.tail.length < c.b
  bats : ∀ b, b ∈ s.tail → (Evt.wrongB b).1 = 0
  up : UpI s.seen
  cmds : (s.seen.length : Int) ≤ s.u
  right : Vw.Right s.u s.acc

/-! ### A store in memory -/
def stCells (c : Sto.Cfg) (D n segs : Nat) (vt vs : Value) (u : Int) (va : Value) : List Value := [.int .i64 (c.d : Int), .int .i64 (c.s : Int), .int .i64 (c.b : Int), .slice (some ⟨D, 0, none⟩) n n, .int .i64 (segs : Int), vt, vs, .int .i64 u, va]
def tbCells (x : Int × Sl) : List Value := [.int .i64 x.1, slV x.2]
/-- Batches on no disk yet. -/
structure TlAt (w : World) (N : Nat) (E : Nat → Prop) (vt : Value) (tc : List (Int × Sl)) (l : List Evt.Bat) : Prop where
  own : w.ownsRow N 47 2 vt l.length (tc.flatMap tbCells)
  len : tc.length = l.length
  evs : ∀ (i : Nat) (x : Int × Sl) (b : Evt.Bat), tc[i]? = some x → l[i]? = some b → b.cmd = x.1 ∧ EvsE w E (slV x.2) b.evs
structure StP (w : World) (N R : Nat) (F E : Nat → Prop) (c : Sto.Cfg) (s : Sto.St) (D : Nat) (V : Nat → Value) (U : Nat → List HeC) (vt vs va : Value) (tc : List (Int × Sl)) : Prop where
  var : VarN w R 45 (stCells c D s.disks.length s.segs vt vs s.u va)
  ge : N ≤ R
  dk : DkAt w N D V U s.disks
  tail : TlAt w N E vt tc s.tail
  seen : w.ownsRow N 3 1 vs s.seen.length (s.seen.flatMap inCells)
  acc : AccE w E va s.acc
  fR : F R
  fD : F D
  fV : ∀ i g, i < s.disks.length → (V i).ownBlock = some g → F g
  fU : ∀ (i : Nat) (x : HeC) (g : Nat), i < s.disks.length → x ∈ U i → (slV x.2.1).ownBlock = some g → F g
  fT : ∀ g, vt.ownBlock = some g → F g
  fS : ∀ g, vs.ownBlock = some g → F g
  lt : ∀ k, F k → N ≤ k ∧ k < w.heap.size
  dis : ∀ k, E k → ¬ F k ∧ k < w.heap.size
  wf : WfS c s
/-- A store at block R; all that may turn lies in F, what it leans on in E. -/
def StAt (w : World) (N R : Nat) (F E : Nat → Prop) (c : Sto.Cfg) (s : Sto.St) : Prop := ∃ D V U vt vs va tc, StP w N R F E c s D V U vt vs va tc

theorem TlAt.move {w w' : World} {N : Nat} {E E' : Nat → Prop} {vt : Value} {tc : List (Int × Sl)} {l : List Evt.Bat} (h : TlAt w N E vt tc l) (hk : ∀ k, k < w.heap.size → E k → w'.heap[k]? = w.heap[k]?) (hE : ∀ k, k < w.heap.size → E k → E' k) {S : Nat → Prop} (ho : Off S w w') (hS : ∀ g, vt.ownBlock = some g → ¬ S g) : TlAt w' N E' vt tc l :=
  ⟨owns_off h.own ho hS, h.len, fun i x b hx hb => ⟨(h.evs i x b hx hb).1, (h.evs i x b hx hb).2.move hk hE⟩⟩
section
variable {w w' : World} {N R D : Nat} {F F' E : Nat → Prop} {c : Sto.Cfg} {s : Sto.St} {V : Nat → Value} {U : Nat → List HeC} {vt vs va : Value} {tc : List (Int × Sl)}
/-- What lies neither in F nor in E is no matter. -/
theorem StP.out (h : StP w N R F E c s D V U vt vs va tc) {S : Nat → Prop} (ho : Off S w w') (hS : ∀ k, S k → ¬ F k ∧ ¬ E k) : StP w' N R F E c s D V U vt vs va tc := by
  have keep : ∀ k, k < w.heap.size → F k ∨ E k → w'.heap[k]? = w.heap[k]? := fun k hk hf => ho.block k hk fun q => by
    rcases hf with z | z
    · exact (hS k q).1 z
    · exact (hS k q).2 z
  have hkE : ∀ k, k < w.heap.size → E k → w'.heap[k]? = w.heap[k]? := fun k hk he => keep k hk (Or.inr he)
  have hdk : DkAt w' N D V U s.disks := by
    refine ⟨h.dk.row.of_block (keep D h.dk.row.lt (Or.inl h.fD)), h.dk.ge, fun i hi => owns_off (h.dk.own i hi) ho fun g hg q => (hS g q).1 (h.fV i g hi hg), h.dk.bl, fun i x hi hx => (h.dk.byt i x hi hx).off ho fun g hg q => (hS g q).1 (h.fU i x g hi hx hg), h.dk.sepV, h.dk.sepU⟩
  exact ⟨h.var.off ho fun q => (hS R q).1 h.fR, h.ge, hdk, h.tail.move hkE (fun _ _ q => q) ho fun g hg q => (hS g q).1 (h.fT g hg), owns_off h.seen ho fun g hg q => (hS g q).1 (h.fS g hg), h.acc.move hkE fun _ _ q => q, h.fR, h.fD, h.fV, h.fU, h.fT, h.fS, fun k hk => ⟨(h.lt k hk).1, Nat.lt_of_lt_of_le (h.lt k hk).2 ho.size⟩, fun k hk => ⟨(h.dis k hk).1, Nat.lt_of_lt_of_le (h.dis k hk).2 ho.size⟩, h.wf⟩
theorem StP.below (h : StP w N R F E c s D V U vt vs va tc) (hb : Below w.heap.size w w') : StP w' N R F E c s D V U vt vs va tc := h.out (Off.of_below (S := fun _ => False) hb) fun _ q => q.elim
theorem StAt.out (h : StAt w N R F E c s) {S : Nat → Prop} (ho : Off S w w') (hS : ∀ k, S k → ¬ F k ∧ ¬ E k) : StAt w' N R F E c s := by
  obtain ⟨D, V, U, vt, vs, va, tc, h⟩ := h
  exact ⟨D, V, U, vt, vs, va, tc, h.out ho hS⟩
theorem StAt.below (h : StAt w N R F E c s) (hb : Below w.heap.size w w') : StAt w' N R F E c s := h.out (Off.of_below (S := fun _ => False) hb) fun _ q => q.elim
theorem StAt.wf (h : StAt w N R F E c s) : WfS c s := by
  obtain ⟨D, V, U, vt, vs, va, tc, h⟩ := h
  exact h.wf
theorem StAt.lt (h : StAt w N R F E c s) {k : Nat} (hk : F k ∨ E k) : k < w.heap.size := by
  obtain ⟨D, V, U, vt, vs, va, tc, h⟩ := h
  rcases hk with q | q
  · exact (h.lt k q).2
  · exact (h.dis k q).2
/-- Nothing but disks has turned. -/
theorem StP.disks (h : StP w N R F E c s D V U vt vs va tc) {S : Nat → Prop} (ho : Off S w w') (hS : ∀ k, S k → F k ∧ ∃ t, TyB w k t ∧ (t = 58 ∨ t = 61 ∨ t = 5)) {V' : Nat → Value} {U' : Nat → List HeC} {ds' : List Sto.Disk} (hdk : DkAt w' N D V' U' ds') (hlen : ds'.length = s.disks.length)
    (hF : ∀ k, F k → F' k) (hF' : ∀ k, F' k → F k ∨ (w.heap.size ≤ k ∧ k < w'.heap.size)) (hNw : N ≤ w.heap.size) (hV : ∀ i g, i < s.disks.length → (V' i).ownBlock = some g → F' g) (hU : ∀ (i : Nat) (x : HeC) (g : Nat), i < s.disks.length → x ∈ U' i → (slV x.2.1).ownBlock = some g → F' g) (hwf : WfS c { s with disks := ds' }) :
    StP w' N R F' E c { s with disks := ds' } D V' U' vt vs va tc ∧ Frame w w' F F' E E := by
  have hf : Frame w w' F F' E E := ⟨ho.wider fun k q => (hS k q).1, fun k q => (hF' k q).imp id (·.1), fun _ q => Or.inl q⟩
  have hkE : ∀ k, k < w.heap.size → E k → w'.heap[k]? = w.heap[k]? := fun k hk he => ho.block k hk fun q => (h.dis k he).1 (hS k q).1
  have no : ∀ {g : Nat} {t : TypeId}, TyB w g t → t ≠ 58 → t ≠ 61 → t ≠ 5 → ¬ S g := fun {g t} ht n1 n2 n3 q => by
    obtain ⟨_, t', ht', z⟩ := hS g q
    rcases z with rfl | rfl | rfl
    · exact ht.ne ht' n1 rfl
    · exact ht.ne ht' n2 rfl
    · exact ht.ne ht' n3 rfl
  refine ⟨⟨?_, h.ge, hdk, h.tail.move hkE (fun _ _ q => q) ho fun g hg => no (owns_ty h.tail.own hg) (by decide) (by decide) (by decide), owns_off h.seen ho fun g hg => no (owns_ty h.seen hg) (by decide) (by decide) (by decide), h.acc.move hkE fun _ _ q => q, hF _ h.fR, hF _ h.fD, fun i g hi => hV i g (by rw [← hlen]; exact hi), fun i x g hi => hU i x g (by rw [← hlen]; exact hi), fun g hg => hF _ (h.fT g hg), fun g hg => hF _ (h.fS g hg), fun k hk => ?_, fun k hk => ⟨fun q => ?_, Nat.lt_of_lt_of_le (h.dis k hk).2 ho.size⟩, hwf⟩, hf⟩
  · show VarN w' R _ (stCells c D ds'.length s.segs vt vs s.u va)
    rw [hlen]
    exact h.var.off ho (no h.var.ty (by decide) (by decide) (by decide))
  · rcases hF' k hk with q | ⟨q1, q2⟩
    · exact ⟨(h.lt k q).1, Nat.lt_of_lt_of_le (h.lt k q).2 ho.size⟩
    · exact ⟨Nat.le_trans hNw q1, q2⟩
  · rcases hF' k q with z | ⟨z, _⟩
    · exact (h.dis k hk).1 z
    · exact absurd (h.dis k hk).2 (Nat.not_lt.2 z)
theorem StP.c3 (h : StP w N R F E c s D V U vt vs va tc) : w.cell? ⟨R, 3, none⟩ = some (.slice (some ⟨D, 0, none⟩) s.disks.length s.disks.length) := h.var.cell rfl
end

/-! ### Answers -/
/-- An answer as a value: what it bears lies in E. -/
def AnsV (w : World) (E : Nat → Prop) (v : Value) (a : Sto.Ans) : Prop := ∃ ve va, v = .agg #[.int .i64 (a.err : Nat), .int .i64 a.n, ve, .int .i64 a.vu, va] ∧ EvsE w E ve a.evs ∧ AccE w E va a.vl
theorem AnsV.move {w w' : World} {E E' : Nat → Prop} {v : Value} {a : Sto.Ans} (h : AnsV w E v a) (hk : ∀ k, k < w.heap.size → E k → w'.heap[k]? = w.heap[k]?) (hE : ∀ k, k < w.heap.size → E k → E' k) : AnsV w' E' v a := by
  obtain ⟨ve, va, hv, h1, h2⟩ := h
  exact ⟨ve, va, hv, h1.move hk hE, h2.move hk hE⟩
theorem ansV_plain (w : World) (E : Nat → Prop) (x : Nat) (n : Int) : AnsV w E (.agg #[.int .i64 (x : Nat), .int .i64 n, .slice none 0 0, .int .i64 0, .slice none 0 0]) ⟨x, n, [], 0, []⟩ := ⟨_, _, rfl, evsE_nil w E, accE_nil w E⟩

end Go.Proofs.YtmcaejooaaahdaaGreat
