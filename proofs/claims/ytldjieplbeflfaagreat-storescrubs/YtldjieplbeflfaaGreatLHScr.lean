/-
  StoreScrubs, plainly: behind a scrub that says nothing is lost just the blocks of disks that are gone are wrong.
-/
import Derived.Test.YtldjieplbeflfaaGreatX13
import Derived.Test.YtldjieplbeflfaaGreatX44
namespace Go.Proofs.YtldjieplbeflfaaGreat.Sto
open Evt (Ev Bat)

/-! ### What chapter 6 promises of whatever blocks -/
section
variable {X : Six} {c : Cfg} {bs : List (List Nat)} {k i : Nat}
theorem bad_none (hX : SixOk X) (hi : i < bs.length) (h : bs.getD i [] = []) : i ∈ X.bad bs k := by
  rw [hX.bad]
  unfold Seg.badL
  rw [List.mem_filter]
  refine ⟨List.mem_range.2 hi, decide_eq_true fun q => ?_⟩
  have q1 := q.1
  unfold lenF at q1
  rw [h, Crc.parse_form (Or.inl (by decide))] at q1
  cases q1
theorem bad_lt (hX : SixOk X) (h : i ∈ X.bad bs k) : i < bs.length := by
  rw [hX.bad] at h
  exact List.mem_range.1 (List.mem_filter.1 h).1
theorem part_len {α : Type} (p q : α → Bool) (hpq : ∀ x, p x = true → q x = false) : ∀ l : List α, (l.filter p).length + (l.filter q).length ≤ l.length
  | [] => Nat.le_refl _
  | x :: l => by
    have h := part_len p q hpq l
    by_cases hp : p x = true
    · rw [List.filter_cons_of_pos hp, List.filter_cons_of_neg (by rw [hpq x hp]; exact Bool.false_ne_true), List.length_cons, List.length_cons]
      omega
    · rw [List.filter_cons_of_neg hp]
      by_cases hq : q x = true
      · rw [List.filter_cons_of_pos hq, List.length_cons, List.length_cons]
        omega
      · rw [List.filter_cons_of_neg hq, List.length_cons]
        omega
/-- What is mended is what is laid of some bytes; no more were wrong than there are spare ones. -/
theorem mend_few (hX : SixOk X) (hl : bs.length = c.d + c.s) (h : (X.mend bs k c).1 = 0) : (X.bad bs k).length ≤ c.s ∧ ∃ r, Evt.Bytes r ∧ X.lay r k c = (0, (X.mend bs k c).2) := by
  rw [hX.mend] at h ⊢
  by_cases q : (X.read bs k c).1 ≠ 0
  · rw [if_pos q] at h
    exact absurd h q
  rw [if_neg q] at h ⊢
  have q0 : (X.read bs k c).1 = 0 := Decidable.not_not.1 q
  have he := hX.err bs k c
  rw [q0, hl] at he
  have hR : readE k c.d (c.d + c.s) (lenF bs) (valF bs) = 0 := he.symm
  unfold readE at hR
  split at hR
  · cases hR
  rename_i w0
  split at hR
  · cases hR
  split at hR
  · rename_i w2
    exact absurd hR w2
  rename_i w2
  have w2 : mendE c.d (c.d + c.s) (Seg.rl k (lenF bs) (valF bs)) = 0 := Decidable.not_not.1 w2
  unfold mendE at w2
  split at w2
  · cases w2
  split at w2
  · cases w2
  rename_i wt
  have wt : c.d ≤ (Go.Proofs.YtldjieplbeflfaaGreat.there (Seg.rl k (lenF bs) (valF bs)) (c.d + c.s)).length := by
    rw [Int.toNat_natCast] at wt
    omega
  refine ⟨?_, (X.read bs k c).2, ?_, ?_⟩
  · rw [hX.bad, hl]
    unfold Seg.badL
    unfold Go.Proofs.YtldjieplbeflfaaGreat.there at wt
    have := part_len (fun r => decide (0 < Seg.rl k (lenF bs) (valF bs) r)) (fun i => decide (¬ Seg.right k (lenF bs) (valF bs) i)) (fun x hx => decide_eq_false fun z => z (Seg.rl_right (of_decide_eq_true hx))) (List.range (c.d + c.s))
    rw [List.length_range] at this
    omega
  · have hc0 : wrongC (c.d : Int) (((c.d + c.s : Nat) : Int) - c.d) = 0 := Decidable.not_not.1 w0
    have hd8 : c.d + c.s ≤ 256 := by
      unfold wrongC at hc0
      split at hc0
      · cases hc0
      · omega
    have hu : ∃ r', Gf.Bd2 r' ∧ Gf.Und c.d (fun p => Gf.rowF c.d (thr (Seg.rl k (lenF bs) (valF bs)) (c.d + c.s) p)) r' := by
      rcases Gf.und_or_sing (n := c.d) (m := fun p => Gf.rowF c.d (thr (Seg.rl k (lenF bs) (valF bs)) (c.d + c.s) p)) (fun p => Gf.rowF_bd c.d _) with q | q
      · exact q
      · exact (Gf.rows_not_sing (by omega) (fun p hp => by have := (thr_mem (show p < (Go.Proofs.YtldjieplbeflfaaGreat.there (Seg.rl k (lenF bs) (valF bs)) (c.d + c.s)).length by omega)).1; omega) (fun p q hp hq hne => thr_inj (by omega) (by omega) hne) q).elim
    obtain ⟨r', r1, r2⟩ := hu
    have hr := hX.told bs k c q0 r' r1 (by rw [hl]; exact r2)
    rw [hr]
    intro x hx
    unfold bl at hx
    obtain ⟨j, _, rfl⟩ := List.mem_map.1 hx
    exact Gf.mm_lt (fun p => Gf.rowF_bd c.d p) _ _ _ _
  · rw [hX.lay]
    exact Prod.ext h rfl
end

/-! ### What disks may have, whatever was done -/
structure SI (c : Cfg) (segs : Nat) (ds : List Disk) : Prop where
  dl : ds.length = c.d + c.s
  up : ∀ (i : Nat) (d : Disk), ds[i]? = some d → Up d.bl ∧ (∀ h, h ∈ d.bl → 0 ≤ h.1 ∧ h.1 < (segs : Int)) ∧ (d.gone = true → d.bl = [])
section
variable {X : Six} {c : Cfg} {segs : Nat} {ds : List Disk}
theorem si_start (c : Cfg) : SI c 0 (start c).disks := ⟨List.length_replicate, fun i d hd => by
  obtain rfl := List.eq_of_mem_replicate (List.mem_of_getElem? (l := List.replicate (c.d + c.s) (⟨false, []⟩ : Disk)) hd)
  exact ⟨List.Pairwise.nil, fun h hh => (by cases hh), fun _ => rfl⟩⟩
theorem SI.more (h : SI c segs ds) : SI c (segs + 1) ds := ⟨h.dl, fun i d hd => ⟨(h.up i d hd).1, fun x hx => by
  have := (h.up i d hd).2.1 x hx
  omega, (h.up i d hd).2.2⟩⟩
theorem SI.write (h : SI c segs ds) {k : Nat} (hk : k < segs) (L : List (List Nat)) : SI c segs (Sto.write k L 0 ds) := by
  refine ⟨by rw [write_length]; exact h.dl, fun i d hd => ?_⟩
  rw [write_at] at hd
  obtain ⟨e, he, rfl⟩ := Option.map_eq_some_iff.1 hd
  obtain ⟨u1, u2, u3⟩ := h.up i e he
  by_cases q : e.gone = true
  · rw [if_pos q]
    exact ⟨u1, u2, u3⟩
  · rw [if_neg q]
    refine ⟨ins_sorted u1, fun x hx => ?_, fun z => by cases z⟩
    rcases ins_mem u1 hx with rfl | z
    · show 0 ≤ (k : Int) ∧ (k : Int) < segs
      omega
    · exact u2 x z.1
theorem SI.set (h : SI c segs ds) (i : Nat) (x : Disk) (hx : Up x.bl ∧ (∀ h, h ∈ x.bl → 0 ≤ h.1 ∧ h.1 < (segs : Int)) ∧ (x.gone = true → x.bl = [])) : SI c segs (ds.set i x) := by
  refine ⟨by rw [List.length_set]; exact h.dl, fun j d hd => ?_⟩
  by_cases q : i = j
  · subst q
    have hl : i < ds.length := by
      have := (List.getElem?_eq_some_iff.1 hd).1
      rw [List.length_set] at this
      exact this
    rw [List.getElem?_set_self hl] at hd
    cases hd
    exact hx
  · rw [List.getElem?_set_ne q] at hd
    exact h.up j d hd
theorem si_scrub : ∀ (m k : Nat) (ds : List Disk) (e n : Nat), SI c segs ds → k + m = segs → SI c segs (scrub X c m k ds e n).1
  | 0, _, _, _, _, h, _ => h
  | m + 1, k, ds, e, n, h, hk => by
    rw [scrub]
    split
    · exact si_scrub m (k + 1) ds e n h (by omega)
    · split
      · exact si_scrub m (k + 1) ds _ n h (by omega)
      · exact si_scrub m (k + 1) _ e _ (h.write (by omega) _) (by omega)
theorem si_step {s : St} (h : SI c s.segs s.disks) (d : Do) : SI c (step X c s d).1.segs (step X c s d).1.disks := by
  unfold step
  by_cases k1 : d.kind = 1
  · rw [if_pos k1]
    unfold put
    split
    · exact h
    · split
      · exact h
      · split
        · exact h
        · split
          · exact h
          · split
            · exact h
            · unfold laid
              dsimp only
              split
              · exact h
              · split
                · exact h
                · split
                  · exact h
                  · exact h.more.write (Nat.lt_succ_self _) _
  rw [if_neg k1]
  by_cases k2 : d.kind = 2 ∨ d.kind = 3 ∨ d.kind = 4
  · rw [if_pos k2]
    exact h
  rw [if_neg k2]
  by_cases k3 : d.kind = 5 ∨ d.kind = 6 ∨ d.kind = 7
  · rw [if_pos k3]
    unfold harm
    split
    · exact h
    · rename_i x hx
      split
      · exact h
      · split
        · exact h
        · split
          · exact h.set _ _ ⟨List.Pairwise.nil, fun y hy => (by cases hy), fun _ => rfl⟩
          · split
            · exact h
            · split
              · exact h
              · obtain ⟨u1, u2, u3⟩ := h.up _ x hx
                refine h.set _ _ ⟨spoil_up u1, fun y hy => ?_, fun z => ?_⟩
                · have hy2 : y.1 ∈ (spoil d.seg d.pos.toNat d.turn x.bl).map (·.1) := List.mem_map.2 ⟨y, hy, rfl⟩
                  rw [spoil_keys] at hy2
                  obtain ⟨z, hz, e⟩ := List.mem_map.1 hy2
                  rw [← e]
                  exact u2 z hz
                · show spoil d.seg d.pos.toNat d.turn x.bl = []
                  rw [u3 z]
                  rfl
  rw [if_neg k3]
  by_cases k8 : d.kind = 8
  · rw [if_pos k8]
    exact si_scrub s.segs 0 s.disks 0 0 h (Nat.zero_add _)
  rw [if_neg k8]
  by_cases k9 : d.kind = 9
  · rw [if_pos k9]
    exact h
  · rw [if_neg k9]
    exact h
theorem si_steps : ∀ (l : List Do) (s : St), SI c s.segs s.disks → SI c (steps X c s l).1.segs (steps X c s l).1.disks
  | [], _, h => h
  | d :: r, s, h => si_steps r (step X c s d).1 (si_step h d)

/-! ### Scrubbed -/
/-- Disk i is gone. -/
def gn (ds : List Disk) (i : Nat) : Bool := match ds[i]? with | some x => x.gone | none => false
def gcnt (c : Cfg) (ds : List Disk) : Nat := ((List.range (c.d + c.s)).filter (gn ds)).length
theorem gn_write (k : Int) (L : List (List Nat)) (ds : List Disk) : gn (Sto.write k L 0 ds) = gn ds := by
  funext i
  have h := write_gone k L ds i
  unfold gn
  cases h1 : (Sto.write k L 0 ds)[i]? <;> cases h2 : ds[i]? <;> rw [h1, h2] at h <;> simp at h ⊢
  exact h
/-- Segment j: all blocks are there as they were laid, but for those of disks that are gone. -/
def CleanAt (X : Six) (c : Cfg) (ds : List Disk) (j : Nat) : Prop :=
  (∃ L r, X.lay r j c = (0, L) ∧ Evt.Bytes r ∧ gcnt c ds ≤ c.s ∧ ∀ (i : Nat) (d : Disk), ds[i]? = some d → d.gone = false → pickB j d.bl [] = L.getD i []) ∨ ((∀ (i : Nat) (d : Disk), ds[i]? = some d → d.gone = false) ∧ X.bad (blocks ds j) j = [])
theorem blocks_get (ds : List Disk) (k : Int) (i : Nat) : (blocks ds k).getD i [] = match ds[i]? with | some d => if d.gone then [] else pickB k d.bl [] | none => [] := by
  rw [List.getD_eq_getElem?_getD, blocks, List.getElem?_map]
  cases ds[i]? <;> rfl
theorem blocks_other (h : SI c segs ds) {k j : Int} (hj : j ≠ k) (L : List (List Nat)) : blocks (Sto.write k L 0 ds) j = blocks ds j := by
  apply List.ext_getElem?
  intro i
  rw [blocks, blocks, List.getElem?_map, List.getElem?_map, write_at, Option.map_map]
  cases hd : ds[i]? with
  | none => rfl
  | some d =>
    simp only [Option.map_some, Function.comp]
    by_cases q : d.gone = true
    · simp [q]
    · simp [q, pick_other (h.up i d hd).1 hj]
theorem CleanAt.other (hs : SI c segs ds) {k j : Nat} (hj : j ≠ k) (L : List (List Nat)) (h : CleanAt X c ds j) : CleanAt X c (Sto.write k L 0 ds) j := by
  have hat : ∀ (i : Nat) (d : Disk), (Sto.write k L 0 ds)[i]? = some d → ∃ e, ds[i]? = some e ∧ e.gone = d.gone ∧ (d.gone = false → pickB j d.bl [] = pickB j e.bl []) := fun i d hd => by
    rw [write_at] at hd
    obtain ⟨e, he, rfl⟩ := Option.map_eq_some_iff.1 hd
    refine ⟨e, he, ?_, fun _ => ?_⟩
    · by_cases q : e.gone = true
      · rw [if_pos q]
      · rw [if_neg q]
        simpa using q
    · by_cases q : e.gone = true
      · rw [if_pos q]
      · rw [if_neg q]
        exact pick_other (hs.up i e he).1 (by omega)
  rcases h with ⟨L', r, h1, h2, h3, h4⟩ | ⟨h1, h2⟩
  · refine Or.inl ⟨L', r, h1, h2, ?_, fun i d hd hg => ?_⟩
    · unfold gcnt
      rw [gn_write]
      exact h3
    · obtain ⟨e, he, q1, q2⟩ := hat i d hd
      rw [q2 hg]
      exact h4 i e he (q1.trans hg)
  · refine Or.inr ⟨fun i d hd => ?_, ?_⟩
    · obtain ⟨e, he, q1, _⟩ := hat i d hd
      rw [← q1]
      exact h1 i e he
    · rw [blocks_other hs (by omega)]
      exact h2
theorem CleanAt.laid (hs : SI c segs ds) {k : Nat} {L : List (List Nat)} {r : List Nat} (hL : X.lay r k c = (0, L)) (hb : Evt.Bytes r) (hg : gcnt c ds ≤ c.s) : CleanAt X c (Sto.write k L 0 ds) k := by
  refine Or.inl ⟨L, r, hL, hb, ?_, fun i d hd hgd => ?_⟩
  · unfold gcnt
    rw [gn_write]
    exact hg
  · rw [write_at] at hd
    obtain ⟨e, he, rfl⟩ := Option.map_eq_some_iff.1 hd
    by_cases q : e.gone = true
    · rw [if_pos q] at hgd
      rw [hgd] at q
      cases q
    · rw [if_neg q]
      show pickB k (ins k (L.getD (0 + i) []) false e.bl) [] = _
      rw [pick_ins (hs.up i e he).1, Nat.zero_add]
theorem gone_bad (hX : SixOk X) (hs : SI c segs ds) (k : Nat) {i : Nat} (hi : i < c.d + c.s) (h : gn ds i = true) : i ∈ X.bad (blocks ds k) k := by
  refine bad_none hX (by rw [blocks, List.length_map, hs.dl]; exact hi) ?_
  rw [blocks_get]
  unfold gn at h
  cases hd : ds[i]? with
  | none => rfl
  | some d =>
    rw [hd] at h
    have h : d.gone = true := h
    show (if d.gone then [] else _) = []
    rw [if_pos h]
theorem gcnt_bad (hX : SixOk X) (hs : SI c segs ds) (k : Nat) : gcnt c ds ≤ (X.bad (blocks ds k) k).length := by
  have e : X.bad (blocks ds k) k = (List.range (c.d + c.s)).filter (fun i => decide (i ∈ X.bad (blocks ds k) k)) := by
    conv => lhs; rw [hX.bad, show (blocks ds (k : Int)).length = c.d + c.s by rw [blocks, List.length_map, hs.dl]]
    unfold Seg.badL
    refine List.filter_congr fun i hi => ?_
    rw [Bool.eq_iff_iff, decide_eq_true_iff, decide_eq_true_iff, hX.bad, show (blocks ds (k : Int)).length = c.d + c.s by rw [blocks, List.length_map, hs.dl]]
    unfold Seg.badL
    rw [List.mem_filter, decide_eq_true_iff]
    exact ⟨fun q => ⟨hi, q⟩, fun q => q.2⟩
  rw [e]
  unfold gcnt
  rw [← List.countP_eq_length_filter, ← List.countP_eq_length_filter]
  exact List.countP_mono_left fun i hi hg => decide_eq_true (gone_bad hX hs k (List.mem_range.1 hi) hg)
theorem scrub_err (X : Six) (c : Cfg) : ∀ (m k : Nat) (ds : List Disk) (e n : Nat), e ≠ 0 → (scrub X c m k ds e n).2.1 = e
  | 0, _, _, _, _, _ => rfl
  | m + 1, k, ds, e, n, he => by
    rw [scrub]
    split
    · exact scrub_err X c m (k + 1) ds e n he
    · split
      · first | exact scrub_err X c m (k + 1) ds e n he | (rw [if_neg he]; exact scrub_err X c m (k + 1) ds e n he)
      · exact scrub_err X c m (k + 1) _ e _ he
/-- Behind a scrub that says nothing is lost. -/
theorem scrub_clean (hX : SixOk X) : ∀ (m k : Nat) (ds : List Disk) (n : Nat), SI c segs ds → k + m = segs → (∀ j, j < k → CleanAt X c ds j) → (scrub X c m k ds 0 n).2.1 = 0 → ∀ j, j < segs → CleanAt X c (scrub X c m k ds 0 n).1 j
  | 0, k, ds, n, hs, hk, hc, _, j, hj => hc j (by omega)
  | m + 1, k, ds, n, hs, hk, hc, he, j, hj => by
    rw [scrub] at he ⊢
    by_cases q1 : X.bad (blocks ds k) k = []
    · rw [if_pos q1] at he ⊢
      refine scrub_clean hX m (k + 1) ds n hs (by omega) (fun i hi => ?_) he j hj
      by_cases e : i = k
      · subst e
        refine Or.inr ⟨fun x d hd => ?_, q1⟩
        by_cases g : d.gone = true
        · have := gone_bad hX hs i (i := x) (by rw [← hs.dl]; exact (List.getElem?_eq_some_iff.1 hd).1) (by unfold gn; rw [hd]; exact g)
          rw [q1] at this
          cases this
        · simpa using g
      · exact hc i (by omega)
    · rw [if_neg q1] at he ⊢
      by_cases q2 : (X.mend (blocks ds k) k c).1 ≠ 0
      · rw [if_pos q2, if_pos rfl, scrub_err X c m _ _ _ _ q2] at he
        exact absurd he q2
      · rw [if_neg q2] at he ⊢
        obtain ⟨f1, r, f2, f3⟩ := mend_few hX (by rw [blocks, List.length_map, hs.dl]) (Decidable.not_not.1 q2)
        have hg := Nat.le_trans (gcnt_bad hX hs k) f1
        refine scrub_clean hX m (k + 1) _ _ (hs.write (by omega) _) (by omega) (fun i hi => ?_) he j hj
        by_cases e : i = k
        · subst e
          exact CleanAt.laid hs f3 f2 hg
        · exact (hc i (by omega)).other hs e _
end

end Go.Proofs.YtldjieplbeflfaaGreat.Sto
