/-
  Texts of the proof, joined: HScr, JWf.
-/
import Derived.Test.YtmcaejooaaahdaaGreatZ15
import Derived.Test.YtmcaejooaaahdaaGreatZ58
import Derived.Test.YtmcaejooaaahdaaGreatZ34
namespace Go.Proofs.YtmcaejooaaahdaaGreat.Sto
open Evt (Ev Bat)

/-! ### What chapter 6 promises of whatever blocks -/
section
variable {X : Six} {c : Cfg} {bs : List (List Nat)} {k i : Nat}
theorem part_len {α : Type} (p q : α → Bool) (hpq : ∀ x, p x = true → q x = false) : ∀ l : List α, (l.filter p).length + (l.filter q).length ≤ l.length
  | [] => Nat.le_refl _
  | x :: l => by
    have h := part_len p q hpq l
    by_cases hp : p x = true
    · rw [List.filter_cons_of_pos hp, List.filter_cons_of_neg (by rw [hpq x hp]; exact Bool.false_ne_true), List.length_cons, List.length_cons]
      omega
    · rw [List.filter_cons_of_neg hp]
      by_cases hq : q x = true
      · rw [List.filter_cons_of_pos hq, List.length_cons, List.length_cons]
        omega
      · rw [List.filter_cons_of_neg hq, List.length_cons]
        omega
/-- What is mended is what is laid of some bytes; no more were wrong than there are spare ones. -/
theorem mend_few (hX : SixOk X) (hl : bs.length = c.d + c.s) (h : (X.mend bs k c).1 = 0) : (X.bad bs k).length ≤ c.s ∧ ∃ r, Evt.Bytes r ∧ X.lay r k c = (0, (X.mend bs k c).2) := by
  rw [hX.mend] at h ⊢
  by_cases q : (X.read bs k c).1 ≠ 0
  · rw [if_pos q] at h
    exact absurd h q
  rw [if_neg q] at h ⊢
  have q0 : (X.read bs k c).1 = 0 := Decidable.not_not.1 q
  have he := hX.err bs k c
  rw [q0, hl] at he
  have hR : readE k c.d (c.d + c.s) (lenF bs) (valF bs) = 0 := he.symm
  unfold readE at hR
  split at hR
  · cases hR
  rename_i w0
  split at hR
  · cases hR
  split at hR
  · rename_i w2
    exact absurd hR w2
  rename_i w2
  have w2 : mendE c.d (c.d + c.s) (Seg.rl k (lenF bs) (valF bs)) = 0 := Decidable.not_not.1 w2
  unfold mendE at w2
  split at w2
  · cases w2
  split at w2
  · cases w2
  rename_i wt
  have wt : c.d ≤ (Go.Proofs.YtmcaejooaaahdaaGreat.there (Seg.rl k (lenF bs) (valF bs)) (c.d + c.s)).length := by
    rw [Int.toNat_natCast] at wt
    omega
  refine ⟨?_, (X.read bs k c).2, ?_, ?_⟩
  · rw [hX.bad, hl]
    unfold Seg.badL
    unfold Go.Proofs.YtmcaejooaaahdaaGreat.there at wt
    have := part_len (fun r => decide (0 < Seg.rl k (lenF bs) (valF bs) r)) (fun i => decide (¬ Seg.right k (lenF bs) (valF bs) i)) (fun x hx => decide_eq_false fun z => z (Seg.rl_right (of_decide_eq_true hx))) (List.range (c.d + c.s))
    rw [List.length_range] at this
    omega
  · have hc0 : wrongC (c.d : Int) (((c.d + c.s : Nat) : Int) - c.d) = 0 := Decidable.not_not.1 w0
    have hd8 : c.d + c.s ≤ 256 := by
      unfold wrongC at hc0
      split at hc0
      · cases hc0
      · omega
    have hu : ∃ r', Gf.Bd2 r' ∧ Gf.Und c.d (fun p => Gf.rowF c.d (thr (Seg.rl k (lenF bs) (valF bs)) (c.d + c.s) p)) r' := by
      rcases Gf.und_or_sing (n := c.d) (m := fun p => Gf.rowF c.d (thr (Seg.rl k (lenF bs) (valF bs)) (c.d + c.s) p)) (fun p => Gf.rowF_bd c.d _) with q | q
      · exact q
      · exact (Gf.rows_not_sing (by omega) (fun p hp => by have := (thr_mem (show p < (Go.Proofs.YtmcaejooaaahdaaGreat.there (Seg.rl k (lenF bs) (valF bs)) (c.d + c.s)).length by omega)).1; omega) (fun p q hp hq hne => thr_inj (by omega) (by omega) hne) q).elim
    obtain ⟨r', r1, r2⟩ := hu
    have hr := hX.told bs k c q0 r' r1 (by rw [hl]; exact r2)
    rw [hr]
    intro x hx
    unfold bl at hx
    obtain ⟨j, _, rfl⟩ := List.mem_map.1 hx
    exact Gf.mm_lt (fun p => Gf.rowF_bd c.d p) _ _ _ _
  · rw [hX.lay]
    exact Prod.ext h rfl
end

/-! ### What disks may have, whatever was done -/
structure SI (c : Cfg) (segs : Nat) (ds : List Disk) : Prop where
  dl : ds.length = c.d + c.s
  up : ∀ (i : Nat) (d : Disk), ds[i]? = some d → Up d.bl ∧ (∀ h, h ∈ d.bl → 0 ≤ h.1 ∧ h.1 < (segs : Int)) ∧ (d.gone = true → d.bl = [])
section
variable {X : Six} {c : Cfg} {segs : Nat} {ds : List Disk}
theorem si_start (c : Cfg) : SI c 0 (start c).disks := ⟨List.length_replicate, fun i d hd => by
  obtain rfl := List.eq_of_mem_replicate (List.mem_of_getElem? (l := List.replicate (c.d + c.s) (⟨false, []⟩ : Disk)) hd)
  exact ⟨List.Pairwise.nil, fun h hh => (by cases hh), fun _ => rfl⟩⟩
theorem SI.more (h : SI c segs ds) : SI c (segs + 1) ds := ⟨h.dl, fun i d hd => ⟨(h.up i d hd).1, fun x hx => by
  have := (h.up i d hd).2.1 x hx
  omega, (h.up i d hd).2.2⟩⟩
theorem SI.write (h : SI c segs ds) {k : Nat} (hk : k < segs) (L : List (List Nat)) : SI c segs (Sto.write k L 0 ds) := by
  refine ⟨by rw [write_length]; exact h.dl, fun i d hd => ?_⟩
  rw [write_at] at hd
  obtain ⟨e, he, rfl⟩ := Option.map_eq_some_iff.1 hd
  obtain ⟨u1, u2, u3⟩ := h.up i e he
  by_cases q : e.gone = true
  · rw [if_pos q]
    exact ⟨u1, u2, u3⟩
  · rw [if_neg q]
    refine ⟨ins_sorted u1, fun x hx => ?_, fun z => by cases z⟩
    rcases ins_mem u1 hx with rfl | z
    · show 0 ≤ (k : Int) ∧ (k : Int) < segs
      omega
    · exact u2 x z.1
theorem SI.set (h : SI c segs ds) (i : Nat) (x : Disk) (hx : Up x.bl ∧ (∀ h, h ∈ x.bl → 0 ≤ h.1 ∧ h.1 < (segs : Int)) ∧ (x.gone = true → x.bl = [])) : SI c segs (ds.set i x) := by
  refine ⟨by rw [List.length_set]; exact h.dl, fun j d hd => ?_⟩
  by_cases q : i = j
  · subst q
    have hl : i < ds.length := by
      have := (List.getElem?_eq_some_iff.1 hd).1
      rw [List.length_set] at this
      exact this
    rw [List.getElem?_set_self hl] at hd
    cases hd
    exact hx
  · rw [List.getElem?_set_ne q] at hd
    exact h.up j d hd
theorem si_scrub : ∀ (m k : Nat) (ds : List Disk) (e n : Nat), SI c segs ds → k + m = segs → SI c segs (scrub X c m k ds e n).1
  | 0, _, _, _, _, h, _ => h
  | m + 1, k, ds, e, n, h, hk => by
    rw [scrub]
    split
    · exact si_scrub m (k + 1) ds e n h (by omega)
    · split
      · exact si_scrub m (k + 1) ds _ n h (by omega)
      · exact si_scrub m (k + 1) _ e _ (h.write (by omega) _) (by omega)
theorem si_step {s : St} (h : SI c s.segs s.disks) (d : Do) : SI c (step X c s d).1.segs (step X c s d).1.disks := by
  unfold step
  by_cases k1 : d.kind = 1
  · rw [if_pos k1]
    unfold put
    split
    · exact h
    · split
      · exact h
      · split
        · exact h
        · split
          · exact h
          · split
            · exact h
            · unfold laid
              dsimp only
              split
              · exact h
              · split
                · exact h
                · split
                  · exact h
                  · exact h.more.write (Nat.lt_succ_self _) _
  rw [if_neg k1]
  by_cases k2 : d.kind = 2 ∨ d.kind = 3 ∨ d.kind = 4
  · rw [if_pos k2]
    exact h
  rw [if_neg k2]
  by_cases k3 : d.kind = 5 ∨ d.kind = 6 ∨ d.kind = 7
  · rw [if_pos k3]
    unfold harm
    split
    · exact h
    · rename_i x hx
      split
      · exact h
      · split
        · exact h
        · split
          · exact h.set _ _ ⟨List.Pairwise.nil, fun y hy => (by cases hy), fun _ => rfl⟩
          · split
            · exact h
            · split
              · exact h
              · obtain ⟨u1, u2, u3⟩ := h.up _ x hx
                refine h.set _ _ ⟨spoil_up u1, fun y hy => ?_, fun z => ?_⟩
                · have hy2 : y.1 ∈ (spoil d.seg d.pos.toNat d.turn x.bl).map (·.1) := List.mem_map.2 ⟨y, hy, rfl⟩
                  rw [spoil_keys] at hy2
                  obtain ⟨z, hz, e⟩ := List.mem_map.1 hy2
                  rw [← e]
                  exact u2 z hz
                · show spoil d.seg d.pos.toNat d.turn x.bl = []
                  rw [u3 z]
                  rfl
  rw [if_neg k3]
  by_cases k8 : d.kind = 8
  · rw [if_pos k8]
    exact si_scrub s.segs 0 s.disks 0 0 h (Nat.zero_add _)
  rw [if_neg k8]
  by_cases k9 : d.kind = 9
  · rw [if_pos k9]
    exact h
  · rw [if_neg k9]
    exact h
/-! ### Scrubbed -/
/-- Disk i is gone. -/
def gn (ds : List Disk) (i : Nat) : Bool := match ds[i]? with | some x => x.gone | none => false
def gcnt (c : Cfg) (ds : List Disk) : Nat := ((List.range (c.d + c.s)).filter (gn ds)).length
theorem gn_write (k : Int) (L : List (List Nat)) (ds : List Disk) : gn (Sto.write k L 0 ds) = gn ds := by
  funext i
  have h := write_gone k L ds i
  unfold gn
  cases h1 : (Sto.write k L 0 ds)[i]? <;> cases h2 : ds[i]? <;> rw [h1, h2] at h <;> simp at h ⊢
  exact h
/-- Segment j: all blocks are there as they were laid, but for those of disks that are gone. -/
def CleanAt (X : Six) (c : Cfg) (ds : List Disk) (j : Nat) : Prop :=
  (∃ L r, X.lay r j c = (0, L) ∧ Evt.Bytes r ∧ gcnt c ds ≤ c.s ∧ ∀ (i : Nat) (d : Disk), ds[i]? = some d → d.gone = false → pickB j d.bl [] = L.getD i []) ∨ ((∀ (i : Nat) (d : Disk), ds[i]? = some d → d.gone = false) ∧ X.bad (blocks ds j) j = [])
theorem blocks_other (h : SI c segs ds) {k j : Int} (hj : j ≠ k) (L : List (List Nat)) : blocks (Sto.write k L 0 ds) j = blocks ds j := by
  apply List.ext_getElem?
  intro i
  rw [blocks, blocks, List.getElem?_map, List.getElem?_map, write_at, Option.map_map]
  cases hd : ds[i]? with
  | none => rfl
  | some d =>
    simp only [Option.map_some, Function.comp]
    by_cases q : d.gone = true
    · simp [q]
    · simp [q, pick_other (h.up i d hd).1 hj]
theorem CleanAt.other (hs : SI c segs ds) {k j : Nat} (hj : j ≠ k) (L : List (List Nat)) (h : CleanAt X c ds j) : CleanAt X c (Sto.write k L 0 ds) j := by
  have hat : ∀ (i : Nat) (d : Disk), (Sto.write k L 0 ds)[i]? = some d → ∃ e, ds[i]? = some e ∧ e.gone = d.gone ∧ (d.gone = false → pickB j d.bl [] = pickB j e.bl []) := fun i d hd => by
    rw [write_at] at hd
    obtain ⟨e, he, rfl⟩ := Option.map_eq_some_iff.1 hd
    refine ⟨e, he, ?_, fun _ => ?_⟩
    · by_cases q : e.gone = true
      · rw [if_pos q]
      · rw [if_neg q]
        simpa using q
    · by_cases q : e.gone = true
      · rw [if_pos q]
      · rw [if_neg q]
        exact pick_other (hs.up i e he).1 (by omega)
  rcases h with ⟨L', r, h1, h2, h3, h4⟩ | ⟨h1, h2⟩
  · refine Or.inl ⟨L', r, h1, h2, ?_, fun i d hd hg => ?_⟩
    · unfold gcnt
      rw [gn_write]
      exact h3
    · obtain ⟨e, he, q1, q2⟩ := hat i d hd
      rw [q2 hg]
      exact h4 i e he (q1.trans hg)
  · refine Or.inr ⟨fun i d hd => ?_, ?_⟩
    · obtain ⟨e, he, q1, _⟩ := hat i d hd
      rw [← q1]
      exact h1 i e he
    · rw [blocks_other hs (by omega)]
      exact h2
theorem CleanAt.laid (hs : SI c segs ds) {k : Nat} {L : List (List Nat)} {r : List Nat} (hL : X.lay r k c = (0, L)) (hb : Evt.Bytes r) (hg : gcnt c ds ≤ c.s) : CleanAt X c (Sto.write k L 0 ds) k := by
  refine Or.inl ⟨L, r, hL, hb, ?_, fun i d hd hgd => ?_⟩
  · unfold gcnt
    rw [gn_write]
    exact hg
  · rw [write_at] at hd
    obtain ⟨e, he, rfl⟩ := Option.map_eq_some_iff.1 hd
    by_cases q : e.gone = true
    · rw [if_pos q] at hgd
      rw [hgd] at q
      cases q
    · rw [if_neg q]
      show pickB k (ins k (L.getD (0 + i) []) false e.bl) [] = _
      rw [pick_ins (hs.up i e he).1, Nat.zero_add]
end

end Go.Proofs.YtmcaejooaaahdaaGreat.Sto

namespace Go.Proofs.YtmcaejooaaahdaaGreat
open Go.RowKit

def LenOk (ds : List Sto.Disk) : Prop := ∀ (i : Nat) (d : Sto.Disk), ds[i]? = some d → ∀ h, h ∈ d.bl → 1 ≤ h.2.length ∧ h.2.length ≤ 1000
structure WfJ (c : Sto.Cfg) (s : Sto.St) : Prop where
  d1 : 1 ≤ c.d
  d8 : c.d ≤ 8
  s4 : c.s ≤ 4
  b1 : 1 ≤ c.b
  b10 : c.b ≤ 10
  si : Sto.SI c s.segs s.disks
  segs : s.segs ≤ 40
  tail : s.tail.length < c.b
  bats : ∀ b, b ∈ s.tail → (Evt.wrongB b).1 = 0
  len : LenOk s.disks
  cmds : (s.seen.length : Int) ≤ s.u
  right : Vw.Right s.u s.acc
theorem WfJ.dl {c : Sto.Cfg} {s : Sto.St} (h : WfJ c s) : s.disks.length = c.d + c.s := h.si.dl
theorem WfJ.n12 {c : Sto.Cfg} {s : Sto.St} (h : WfJ c s) : s.disks.length ≤ 12 := by
  have := h.dl
  have := h.d8
  have := h.s4
  omega
theorem WfJ.n1 {c : Sto.Cfg} {s : Sto.St} (h : WfJ c s) : 1 ≤ s.disks.length := by
  have := h.dl
  have := h.d1
  omega
theorem WfJ.bl {c : Sto.Cfg} {s : Sto.St} (h : WfJ c s) {i : Nat} {d : Sto.Disk} (hd : s.disks[i]? = some d) : d.bl.length ≤ 100 := by
  obtain ⟨q1, q2, _⟩ := h.si.up i d hd
  have := upI_len (a := 0) (m := (s.segs : Int)) (Sto.up_iff.1 q1) (fun x hx => by
    obtain ⟨y, hy, rfl⟩ := List.mem_map.1 hx
    exact q2 y hy) (by omega)
  rw [List.length_map] at this
  have := h.segs
  omega
theorem WfJ.seen {c : Sto.Cfg} {s : Sto.St} (h : WfJ c s) : s.seen.length ≤ 150 := by
  have := h.cmds
  have := h.right.hi
  omega
theorem wfj_start {c : Sto.Cfg} (d1 : 1 ≤ c.d) (d8 : c.d ≤ 8) (s4 : c.s ≤ 4) (b1 : 1 ≤ c.b) (b10 : c.b ≤ 10) : WfJ c (Sto.start c) :=
  ⟨d1, d8, s4, b1, b10, Sto.si_start c, Nat.zero_le _, b1, (fun _ h => by cases h), (fun i d hd h hh => by
    have e : d = ⟨false, []⟩ := (List.mem_replicate.1 (List.mem_of_getElem? hd)).2
    subst e
    cases hh), Int.le_refl _, Vw.right_nil⟩
theorem lay_len {X : Sto.Six} (hX : Sto.SixOk X) {r : List Nat} {k : Nat} {c : Sto.Cfg} {L : List (List Nat)} (h : X.lay r k c = (0, L)) {i : Nat} (hi : i < c.d + c.s) : 1 ≤ (L.getD i []).length ∧ (L.getD i []).length ≤ 1000 := by
  rw [hX.lay] at h
  obtain ⟨⟨q1, _, _, _, q5⟩, _, q3⟩ := Sto.layX_inv h
  rw [q3 i hi, Sto.bl_length]
  have := Seg.layN_le (L := r.length) q1 q5
  omega
theorem len_write {c : Sto.Cfg} {segs : Nat} {ds : List Sto.Disk} {L : List (List Nat)} {k : Int} (hs : Sto.SI c segs ds) (h : LenOk ds) (hL : ∀ i, i < c.d + c.s → 1 ≤ (L.getD i []).length ∧ (L.getD i []).length ≤ 1000) : LenOk (Sto.write k L 0 ds) := fun i d hd x hx => by
  rw [Sto.write_at] at hd
  obtain ⟨e, he, rfl⟩ := Option.map_eq_some_iff.1 hd
  have hi : i < c.d + c.s := by
    rw [← hs.dl]
    exact (List.getElem?_eq_some_iff.1 he).1
  by_cases q : e.gone = true
  · rw [if_pos q] at hx
    exact h i e he x hx
  · rw [if_neg q, Nat.zero_add] at hx
    rcases Sto.ins_mem (hs.up i e he).1 hx with rfl | ⟨z, _⟩
    · exact hL i hi
    · exact h i e he x z
theorem len_scrub {X : Sto.Six} (hX : Sto.SixOk X) {c : Sto.Cfg} {segs : Nat} : ∀ (m k : Nat) (ds : List Sto.Disk) (e n : Nat), k + m = segs → Sto.SI c segs ds → LenOk ds → LenOk (Sto.scrub X c m k ds e n).1
  | 0, _, _, _, _, _, _, h => h
  | m + 1, k, ds, e, n, hk, hs, h => by
    rw [Sto.scrub]
    by_cases q1 : X.bad (Sto.blocks ds k) k = []
    · rw [if_pos q1]
      exact len_scrub hX m (k + 1) ds e n (by omega) hs h
    · rw [if_neg q1]
      by_cases q2 : (X.mend (Sto.blocks ds k) k c).1 ≠ 0
      · rw [if_pos q2]
        exact len_scrub hX m (k + 1) ds _ n (by omega) hs h
      · rw [if_neg q2]
        have q2 : (X.mend (Sto.blocks ds k) k c).1 = 0 := Decidable.not_not.1 q2
        obtain ⟨_, r, _, hr⟩ := Sto.mend_few hX (by rw [Sto.blocks, List.length_map, hs.dl]) q2
        exact len_scrub hX m (k + 1) _ e _ (by omega) (hs.write (by omega) _) (len_write hs h fun i hi => lay_len hX hr hi)
theorem spoil_len (k : Int) (p y : Nat) : ∀ (l : List (Int × List Nat)) (x : Int × List Nat), x ∈ Sto.spoil k p y l → ∃ z, z ∈ l ∧ z.2.length = x.2.length
  | [], x, h => by cases h
  | h :: t, x, hx => by
    rw [Sto.spoil] at hx
    by_cases q : h.1 = k
    · rw [if_pos q] at hx
      rcases List.mem_cons.1 hx with rfl | z
      · exact ⟨h, List.mem_cons_self, by show _ = (h.2.set p _).length; rw [List.length_set]⟩
      · exact ⟨x, List.mem_cons_of_mem _ z, rfl⟩
    · rw [if_neg q] at hx
      rcases List.mem_cons.1 hx with rfl | z
      · exact ⟨x, List.mem_cons_self, rfl⟩
      · obtain ⟨w, h1, h2⟩ := spoil_len k p y t x z
        exact ⟨w, List.mem_cons_of_mem _ h1, h2⟩
theorem len_set {ds : List Sto.Disk} (h : LenOk ds) (n : Nat) (x : Sto.Disk) (hx : ∀ z, z ∈ x.bl → 1 ≤ z.2.length ∧ z.2.length ≤ 1000) : LenOk (ds.set n x) := fun i d hd z hz => by
  by_cases e : i = n
  · subst e
    rw [List.getElem?_set_self'] at hd
    obtain ⟨_, _, rfl⟩ := Option.map_eq_some_iff.1 hd
    exact hx z hz
  · rw [List.getElem?_set_ne (fun y => e y.symm)] at hd
    exact h i d hd z hz
theorem len_harm {s : Sto.St} (h : LenOk s.disks) (d : Sto.Do) : LenOk (Sto.harm s d).1.disks := by
  unfold Sto.harm
  split
  · exact h
  · rename_i x hx
    split
    · exact h
    · split
      · exact h
      · split
        · exact len_set h _ _ fun z hz => by cases hz
        · split
          · exact h
          · split
            · exact h
            · refine len_set h _ _ fun z hz => ?_
              obtain ⟨y, h1, h2⟩ := spoil_len _ _ _ _ _ hz
              rw [← h2]
              exact h _ _ hx y h1
theorem wfj_put {X : Sto.Six} (hX : Sto.SixOk X) {c : Sto.Cfg} {s : Sto.St} (h : WfJ c s) (d : Sto.Do) (hk : d.kind = 1) : WfJ c (Sto.put X c s d).1 := by
  have hsi := Sto.si_step (X := X) h.si d
  rw [Sto.step_put hk] at hsi
  unfold Sto.put at hsi ⊢
  by_cases h1 : (Evt.wrongB d.bat).1 ≠ 0
  · rw [if_pos h1]
    exact h
  rw [if_neg h1] at hsi ⊢
  have h1 : (Evt.wrongB d.bat).1 = 0 := Decidable.not_not.1 h1
  by_cases h2 : d.bat.cmd ∈ s.seen
  · rw [if_pos h2]
    exact h
  rw [if_neg h2] at hsi ⊢
  by_cases h3 : 0 ≤ d.ver ∧ d.ver ≠ (Vw.get s.acc d.name).cnt
  · rw [if_pos h3]
    exact h
  rw [if_neg h3] at hsi ⊢
  by_cases h4 : (Vw.fold s.u s.acc d.bat.evs).1.1 ≠ 0
  · rw [if_pos h4]
    exact h
  rw [if_neg h4] at hsi ⊢
  have h4 : (Vw.fold s.u s.acc d.bat.evs).1.1 = 0 := Decidable.not_not.1 h4
  by_cases h5 : (Sto.laid X c s d.bat (Vw.fold s.u s.acc d.bat.evs).2).1 ≠ 0
  · rw [if_pos h5]
    exact h
  rw [if_neg h5] at hsi ⊢
  have h5 : (Sto.laid X c s d.bat (Vw.fold s.u s.acc d.bat.evs).2).1 = 0 := Decidable.not_not.1 h5
  obtain ⟨k1, k2, _⟩ := Vw.fold_keeps h4
  have he : 1 ≤ d.bat.evs.length := (Evt.wrongB_inv h1).2.2.1
  obtain ⟨q1, q2, q3⟩ := Sto.laid_ok h5
  have hsn : (Sto.laid X c s d.bat (Vw.fold s.u s.acc d.bat.evs).2).2.seen.length = s.seen.length + 1 := by
    rw [q1, List.length_append, List.length_cons]
    have := congrArg List.length (List.take_append_drop (Sto.below d.bat.cmd s.seen) s.seen)
    rw [List.length_append] at this
    omega
  have hcm : ((Sto.laid X c s d.bat (Vw.fold s.u s.acc d.bat.evs).2).2.seen.length : Int) ≤ (Sto.laid X c s d.bat (Vw.fold s.u s.acc d.bat.evs).2).2.u := by
    rw [hsn, q2, k2]
    have := h.cmds
    omega
  have hr : Vw.Right (Sto.laid X c s d.bat (Vw.fold s.u s.acc d.bat.evs).2).2.u (Sto.laid X c s d.bat (Vw.fold s.u s.acc d.bat.evs).2).2.acc := by
    rw [q2, q3]
    exact k1
  have hbt : ∀ b, b ∈ s.tail ++ [d.bat] → (Evt.wrongB b).1 = 0 := fun b hb => by
    rcases List.mem_append.1 hb with z | z
    · exact h.bats b z
    · rw [List.mem_singleton.1 z]
      exact h1
  have hrest : (Sto.laid X c s d.bat (Vw.fold s.u s.acc d.bat.evs).2).2.segs ≤ 40 ∧ (Sto.laid X c s d.bat (Vw.fold s.u s.acc d.bat.evs).2).2.tail.length < c.b ∧ (∀ b, b ∈ (Sto.laid X c s d.bat (Vw.fold s.u s.acc d.bat.evs).2).2.tail → (Evt.wrongB b).1 = 0) ∧ LenOk (Sto.laid X c s d.bat (Vw.fold s.u s.acc d.bat.evs).2).2.disks := by
    unfold Sto.laid at h5 ⊢
    dsimp only at h5 ⊢
    by_cases p1 : (s.tail ++ [d.bat]).length < c.b
    · rw [if_pos p1]
      exact ⟨h.segs, p1, hbt, h.len⟩
    · rw [if_neg p1] at h5 ⊢
      by_cases p2 : (Evt.wrongL (s.tail ++ [d.bat])).1 ≠ 0
      · rw [if_pos p2] at h5
        exact absurd h5 p2
      · rw [if_neg p2] at h5 ⊢
        by_cases p3 : (X.lay (Evt.encL (s.tail ++ [d.bat])) s.segs c).1 ≠ 0
        · rw [if_pos p3] at h5
          exact absurd h5 p3
        · rw [if_neg p3]
          have p3 : (X.lay (Evt.encL (s.tail ++ [d.bat])) s.segs c).1 = 0 := Decidable.not_not.1 p3
          have hl : X.lay (Evt.encL (s.tail ++ [d.bat])) s.segs c = (0, (X.lay (Evt.encL (s.tail ++ [d.bat])) s.segs c).2) := by rw [← p3]
          have h39 : s.segs ≤ 39 := by
            have hl := hl
            rw [hX.lay] at hl
            exact (Sto.layX_inv hl).1.2.2.2.1
          exact ⟨by show s.segs + 1 ≤ 40; omega, h.b1, (fun _ z => by cases z), len_write h.si h.len fun i hi => lay_len hX hl hi⟩
  exact ⟨h.d1, h.d8, h.s4, h.b1, h.b10, hsi, hrest.1, hrest.2.1, hrest.2.2.1, hrest.2.2.2, hcm, hr⟩
theorem wfj_step {X : Sto.Six} (hX : Sto.SixOk X) {c : Sto.Cfg} {s : Sto.St} (h : WfJ c s) (d : Sto.Do) : WfJ c (Sto.step X c s d).1 := by
  by_cases k1 : d.kind = 1
  · rw [Sto.step_put k1]
    exact wfj_put hX h d k1
  · have hsi := Sto.si_step (X := X) h.si d
    have hs := Sto.step_same (X := X) (c := c) (s := s) k1
    have hl : LenOk (Sto.step X c s d).1.disks := by
      unfold Sto.step
      rw [if_neg k1]
      split
      · exact h.len
      · split
        · exact len_harm h.len d
        · split
          · exact len_scrub hX s.segs 0 s.disks 0 0 (by omega) h.si h.len
          · split
            · exact h.len
            · exact h.len
    exact ⟨h.d1, h.d8, h.s4, h.b1, h.b10, hsi, by rw [hs.segs]; exact h.segs, by rw [hs.tail]; exact h.tail, by rw [hs.tail]; exact h.bats, hl, by rw [hs.seen, hs.u]; exact h.cmds, by rw [hs.u, hs.acc]; exact h.right⟩

end Go.Proofs.YtmcaejooaaahdaaGreat
