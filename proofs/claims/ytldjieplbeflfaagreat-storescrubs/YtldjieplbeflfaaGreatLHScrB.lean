/-
  StoreScrubs, plainly: scrubbed again, nothing is written; what health tells; how many blocks a disk has.
-/
import Derived.Test.YtldjieplbeflfaaGreatLHScr
namespace Go.Proofs.YtldjieplbeflfaaGreat.Sto
open Evt (Ev Bat)

section
variable {X : Six} {c : Cfg} {segs : Nat} {ds : List Disk}
theorem gn_at {i : Nat} {d : Disk} (h : ds[i]? = some d) : gn ds i = d.gone := by
  unfold gn
  rw [h]
theorem clean_bad (hg : Good X c) (hs : SI c segs ds) {j : Nat} (h : CleanAt X c ds j) : X.bad (blocks ds j) j = (List.range (c.d + c.s)).filter (gn ds) := by
  have hd : ∀ i, i < c.d + c.s → ∃ d, ds[i]? = some d := fun i hi => ⟨ds[i]'(by rw [hs.dl]; exact hi), List.getElem?_eq_getElem _⟩
  rcases h with ⟨L, r, h1, h2, h3, h4⟩ | ⟨h1, h2⟩
  · have hb : ∀ i, i < c.d + c.s → ∀ d, ds[i]? = some d → (blocks ds j).getD i [] = if d.gone then [] else L.getD i [] := fun i hi d hd => by
      rw [blocks_get, hd]
      show (if d.gone then [] else pickB j d.bl []) = _
      by_cases q : d.gone = true
      · rw [if_pos q, if_pos q]
      · rw [if_neg q, if_neg q, h4 i d hd (by simpa using q)]
    have hh : Hurts X c (blocks ds j) r j L := ⟨h1, h2, by rw [blocks, List.length_map, hs.dl], fun i hi => by
      obtain ⟨d, e⟩ := hd i hi
      rw [hb i hi d e]
      by_cases q : d.gone = true
      · rw [if_pos q]
        exact Or.inl rfl
      · rw [if_neg q]
        exact Or.inr (Or.inl rfl)⟩
    rw [hg.bad hh]
    refine List.filter_congr fun i hi => ?_
    have hi := List.mem_range.1 hi
    obtain ⟨d, e⟩ := hd i hi
    rw [gn_at e, hb i hi d e]
    by_cases q : d.gone = true
    · rw [if_pos q, q]
      exact decide_eq_true fun z => hg.full h1 i hi z.symm
    · rw [if_neg q, show d.gone = false by simpa using q]
      exact decide_eq_false fun z => z rfl
  · rw [h2]
    refine (List.filter_eq_nil_iff.2 fun i hi => ?_).symm
    obtain ⟨d, e⟩ := hd i (List.mem_range.1 hi)
    rw [gn_at e, h1 i d e]
    exact Bool.false_ne_true
theorem health_clean {g : Nat} : ∀ (m k n : Nat), (∀ j, k ≤ j → j < k + m → (X.bad (blocks ds j) j).length = g) → health X ds m k n = n + m * g
  | 0, k, n, _ => by
    show n = _
    omega
  | m + 1, k, n, h => by
    rw [health, health_clean m (k + 1) _ (fun j h1 h2 => h j (by omega) (by omega)), h k (Nat.le_refl _) (by omega), Nat.succ_mul]
    omega
theorem there_gone (c : Cfg) (ds : List Disk) : there ds ((List.range (c.d + c.s)).filter (gn ds)) = 0 := by
  unfold there
  rw [List.length_eq_zero_iff, List.filter_eq_nil_iff]
  intro i hi
  have hg := (List.mem_filter.1 hi).2
  unfold gn at hg
  cases hd : ds[i]? with
  | none => simp
  | some d =>
    rw [hd] at hg
    have hg : d.gone = true := hg
    simp [hg]
/-- Scrubbed again nothing is written. -/
theorem scrub_again (hg : Good X c) : ∀ (m k : Nat) (ds : List Disk) (n : Nat), SI c segs ds → k + m = segs → (∀ j, j < segs → CleanAt X c ds j) → (scrub X c m k ds 0 n).2 = (0, n) ∧ (∀ j, j < segs → CleanAt X c (scrub X c m k ds 0 n).1 j) ∧ gn (scrub X c m k ds 0 n).1 = gn ds ∧ SI c segs (scrub X c m k ds 0 n).1
  | 0, _, _, _, hs, _, hc => ⟨rfl, hc, rfl, hs⟩
  | m + 1, k, ds, n, hs, hk, hc => by
    have hb := clean_bad hg hs (hc k (by omega))
    rw [scrub]
    by_cases q1 : X.bad (blocks ds k) k = []
    · rw [if_pos q1]
      exact scrub_again hg m (k + 1) ds n hs (by omega) hc
    · rw [if_neg q1]
      rcases hc k (by omega) with ⟨L, r, h1, h2, h3, h4⟩ | ⟨_, h2⟩
      · have hh : Hurts X c (blocks ds k) r k L := ⟨h1, h2, by rw [blocks, List.length_map, hs.dl], fun i hi => by
          rw [blocks_get]
          cases hd : ds[i]? with
          | none => exact Or.inl rfl
          | some d =>
            show Hurt (if d.gone then [] else pickB k d.bl []) _
            by_cases q : d.gone = true
            · rw [if_pos q]
              exact Or.inl rfl
            · rw [if_neg q]
              exact Or.inr (Or.inl (h4 i d hd (by simpa using q)))⟩
        have hm := (hg.kept hh (by rw [hb]; exact h3)).2
        rw [hm, if_neg (fun z => z rfl), hb, there_gone c ds, Nat.add_zero]
        obtain ⟨r1, r2, r3, r4⟩ := scrub_again hg m (k + 1) (Sto.write k L 0 ds) n (hs.write (by omega) L) (by omega) (fun j hj => by
          by_cases e : j = k
          · subst e
            exact CleanAt.laid hs h1 h2 h3
          · exact (hc j hj).other hs e L)
        exact ⟨r1, r2, r3.trans (gn_write k L ds), r4⟩
      · exact absurd h2 q1
theorem full_len : ∀ {l : List Int} {a m : Int}, l.Pairwise (· < ·) → (∀ x, x ∈ l → a ≤ x ∧ x < m) → (∀ j, a ≤ j → j < m → j ∈ l) → a ≤ m → (l.length : Int) = m - a
  | [], a, m, _, _, h, ha => by
    by_cases q : a < m
    · cases h a (Int.le_refl _) q
    · simp
      omega
  | x :: r, a, m, hu, hb, h, ha => by
    obtain ⟨u1, u2⟩ := List.pairwise_cons.1 hu
    have hx := hb x List.mem_cons_self
    have ex : x = a := by
      rcases List.mem_cons.1 (h a (Int.le_refl _) (by omega)) with q | q
      · exact q.symm
      · have := u1 a q
        omega
    subst ex
    have := full_len (a := x + 1) (m := m) u2 (fun y hy => ⟨by have := u1 y hy; omega, (hb y (List.mem_cons_of_mem _ hy)).2⟩) (fun j h1 h2 => by
      rcases List.mem_cons.1 (h j (by omega) h2) with q | q
      · omega
      · exact q) (by omega)
    rw [List.length_cons]
    omega
/-- Each disk that is there has a block of each segment. -/
theorem clean_len (hX : SixOk X) (hg : Good X c) (hs : SI c segs ds) (hc : ∀ j, j < segs → CleanAt X c ds j) {i : Nat} {d : Disk} (hd : ds[i]? = some d) (hgd : d.gone = false) : d.bl.length = segs := by
  have hi : i < c.d + c.s := by
    rw [← hs.dl]
    exact (List.getElem?_eq_some_iff.1 hd).1
  obtain ⟨u1, u2, _⟩ := hs.up i d hd
  have := full_len (l := d.bl.map (·.1)) (a := 0) (m := (segs : Int)) (up_keys.1 u1) (fun x hx => by
    obtain ⟨h, hh, rfl⟩ := List.mem_map.1 hx
    exact u2 h hh) (fun j h1 h2 => by
    obtain ⟨k, rfl⟩ : ∃ k : Nat, j = (k : Int) := ⟨j.toNat, by omega⟩
    have hp : pickB (k : Int) d.bl [] ≠ [] := by
      rcases hc k (by omega) with ⟨L, r, q1, _, _, q4⟩ | ⟨_, q2⟩
      · rw [q4 i d hd hgd]
        exact hg.full q1 i hi
      · intro z
        have := bad_none (k := k) (bs := blocks ds k) hX (by rw [blocks, List.length_map, hs.dl]; exact hi) (by
          rw [blocks_get, hd]
          show (if d.gone then [] else pickB k d.bl []) = []
          rw [hgd]
          exact z)
        rw [q2] at this
        cases this
    refine Classical.byContradiction fun z => hp (pickB_none fun h hh e => z (List.mem_map.2 ⟨h, hh, e⟩))) (by omega)
  rw [List.length_map] at this
  omega
/-- Where no block has more than a byte turned a scrub tells nothing but that too much is lost. -/
theorem scrub_lost {s : St} {BL : List (List Bat)} {had : List (Int × Int)} (hg : Good X c) : ∀ (m k : Nat) (ds : List Disk) (e n : Nat), k + m = BL.length → Inv X c { s with disks := ds } BL had → (e = 0 ∨ e = 10) → ((scrub X c m k ds e n).2.1 = 0 ∨ (scrub X c m k ds e n).2.1 = 10)
  | 0, _, _, _, _, _, _, h => h
  | m + 1, k, ds, e, n, he, hi, h => by
    have hk : k < BL.length := by omega
    obtain ⟨l, hl⟩ : ∃ l, BL[k]? = some l := ⟨BL[k], List.getElem?_eq_getElem hk⟩
    obtain ⟨L, hh⟩ := hi.hurts hl
    have hh : Hurts X c (blocks ds k) (Evt.encL l) k L := hh
    rw [scrub]
    by_cases q1 : X.bad (blocks ds k) k = []
    · rw [if_pos q1]
      exact scrub_lost hg m (k + 1) ds e n (by omega) hi h
    · rw [if_neg q1]
      by_cases q3 : (X.bad (blocks ds k) k).length ≤ c.s
      · have hm := (hg.kept hh q3).2
        rw [hm, if_neg (fun z => z rfl)]
        exact scrub_lost hg m (k + 1) _ e _ (by omega) (hi.again hl hh.lay) h
      · have hm := (hg.lost hh (by omega)).2
        rw [if_pos (by rw [hm]; decide), hm]
        exact scrub_lost hg m (k + 1) ds _ n (by omega) hi (by
          by_cases q : e = 0
          · rw [if_pos q]
            exact Or.inr rfl
          · rw [if_neg q]
            exact h)
end
/-- What comes of l, and then of a scrub, a look at the health, a scrub. -/
theorem scrubs {X : Six} {c : Cfg} (hX : SixOk X) (l : List Do) (d1 d2 d3 : Do) (k1 : d1.kind = 8) (k2 : d2.kind = 9) (k3 : d3.kind = 8) (hby : ∀ d, d ∈ l → d.turn < 256) {r2 : St × List Ans} (hr2 : r2 = steps X c (start c) (l ++ [d1, d2, d3])) :
    ∃ a1 a2 a3, r2.2[l.length]? = some a1 ∧ r2.2[l.length + 1]? = some a2 ∧ r2.2[l.length + 2]? = some a3 ∧ (Once l [] → a1.err = 0 ∨ a1.err = 10) ∧
      (a1.err = 0 → (∀ (i : Nat) (d : Disk), r2.1.disks[i]? = some d → d.gone = false → d.bl.length = r2.1.segs) ∧ a2.n = ((gcnt c r2.1.disks * r2.1.segs : Nat) : Int) ∧ a3.err = 0 ∧ a3.n = 0) := by
  have hg : Good X c := six_good hX
  have hl : (steps X c (start c) l).2.length = l.length := steps_length X c l (start c)
  have hsi : SI c (steps X c (start c) l).1.segs (steps X c (start c) l).1.disks := si_steps l (start c) (si_start c)
  have hon : Once l [] → (scrub X c (steps X c (start c) l).1.segs 0 (steps X c (start c) l).1.disks 0 0).2.1 = 0 ∨ (scrub X c (steps X c (start c) l).1.segs 0 (steps X c (start c) l).1.disks 0 0).2.1 = 10 := fun ho => by
    have hinv : ∀ (l : List Do) (s : St) (BL : List (List Bat)) (had : List (Int × Int)), Inv X c s BL had → Once l had → (∀ d, d ∈ l → d.turn < 256) → ∃ BL' had', Inv X c (steps X c s l).1 BL' had' := by
      intro l
      induction l with
      | nil => exact fun s BL had h _ _ => ⟨BL, had, h⟩
      | cons d r ih =>
        intro s BL had h ho hb
        obtain ⟨BL', q1, _, _⟩ := step_inv hg h d (hb d List.mem_cons_self) ho.1
        exact ih (step X c s d).1 BL' (hadOf d had) q1 ho.2 fun x hx => hb x (List.mem_cons_of_mem _ hx)
    obtain ⟨BL, had, hi⟩ := hinv l (start c) [] [] (inv_start X c) ho hby
    exact scrub_lost (s := (steps X c (start c) l).1) hg _ 0 _ 0 0 (by rw [hi.len]; omega) hi (Or.inl rfl)
  generalize hs : steps X c (start c) l = r at *
  have e1 : ∀ (s : St) (d : Do), d.kind = 8 → step X c s d = ({ s with disks := (scrub X c s.segs 0 s.disks 0 0).1 }, ⟨(scrub X c s.segs 0 s.disks 0 0).2.1, (scrub X c s.segs 0 s.disks 0 0).2.2, [], 0, []⟩) := fun s d k => by
    unfold step
    rw [if_neg (by omega), if_neg (by omega), if_neg (by omega), if_pos k]
  have e2 : ∀ (s : St) (d : Do), d.kind = 9 → step X c s d = (s, told (health X s.disks s.segs 0 0)) := fun s d k => by
    unfold step
    rw [if_neg (by omega), if_neg (by omega), if_neg (by omega), if_neg (by omega), if_pos k]
  have hst : steps X c r.1 [d1, d2, d3] = ((step X c (step X c (step X c r.1 d1).1 d2).1 d3).1, [(step X c r.1 d1).2, (step X c (step X c r.1 d1).1 d2).2, (step X c (step X c (step X c r.1 d1).1 d2).1 d3).2]) := rfl
  rw [e2 _ d2 k2, e1 _ d3 k3, e1 _ d1 k1] at hst
  rw [steps_append, hs, hst] at hr2
  subst hr2
  refine ⟨_, _, _, by rw [List.getElem?_append_right (by omega), hl, Nat.sub_self]; rfl, by rw [List.getElem?_append_right (by omega), hl, show l.length + 1 - l.length = 1 by omega]; rfl, by rw [List.getElem?_append_right (by omega), hl, show l.length + 2 - l.length = 2 by omega]; rfl, hon, fun he => ?_⟩
  have he : (scrub X c r.1.segs 0 r.1.disks 0 0).2.1 = 0 := he
  have hc1 := scrub_clean hX r.1.segs 0 r.1.disks 0 hsi (Nat.zero_add _) (fun j hj => absurd hj (Nat.not_lt_zero j)) he
  have hs1 : SI c r.1.segs (scrub X c r.1.segs 0 r.1.disks 0 0).1 := si_scrub r.1.segs 0 r.1.disks 0 0 hsi (Nat.zero_add _)
  obtain ⟨q1, q2, q3, q4⟩ := scrub_again hg r.1.segs 0 (scrub X c r.1.segs 0 r.1.disks 0 0).1 0 hs1 (Nat.zero_add _) hc1
  refine ⟨fun i d hd hgd => clean_len hX hg q4 q2 hd hgd, ?_, congrArg Prod.fst q1, ?_⟩
  · show ((health X (scrub X c r.1.segs 0 r.1.disks 0 0).1 r.1.segs 0 0 : Nat) : Int) = ((gcnt c (scrub X c r.1.segs 0 (scrub X c r.1.segs 0 r.1.disks 0 0).1 0 0).1 * r.1.segs : Nat) : Int)
    rw [health_clean (g := gcnt c (scrub X c r.1.segs 0 r.1.disks 0 0).1) r.1.segs 0 0 (fun j _ hj => by rw [clean_bad hg hs1 (hc1 j (by omega))]; rfl), Nat.zero_add, Nat.mul_comm]
    unfold gcnt
    rw [q3]
  · show (((scrub X c r.1.segs 0 (scrub X c r.1.segs 0 r.1.disks 0 0).1 0 0).2.2 : Nat) : Int) = 0
    rw [q1]
    rfl
/-- No more segments than things that were done. -/
theorem step_segs (X : Six) (c : Cfg) (s : St) (d : Do) : (step X c s d).1.segs ≤ s.segs + 1 := by
  by_cases k1 : d.kind = 1
  · rw [step_put k1]
    unfold put
    split
    · exact Nat.le_succ _
    · split
      · exact Nat.le_succ _
      · split
        · exact Nat.le_succ _
        · split
          · exact Nat.le_succ _
          · split
            · exact Nat.le_succ _
            · unfold laid
              dsimp only
              split
              · exact Nat.le_succ _
              · split
                · exact Nat.le_succ _
                · split
                  · exact Nat.le_succ _
                  · exact Nat.le_refl _
  · unfold step
    rw [if_neg k1]
    split
    · exact Nat.le_succ _
    · split
      · unfold harm
        split
        · exact Nat.le_succ _
        · split
          · exact Nat.le_succ _
          · split
            · exact Nat.le_succ _
            · split
              · exact Nat.le_succ _
              · split
                · exact Nat.le_succ _
                · split
                  · exact Nat.le_succ _
                  · exact Nat.le_succ _
      · split
        · exact Nat.le_succ _
        · split
          · exact Nat.le_succ _
          · exact Nat.le_succ _
theorem steps_segs (X : Six) (c : Cfg) : ∀ (l : List Do) (s : St), (steps X c s l).1.segs ≤ s.segs + l.length
  | [], _ => Nat.le_refl _
  | d :: r, s => by
    have h1 := steps_segs X c r (step X c s d).1
    have h2 := step_segs X c s d
    show (steps X c (step X c s d).1 r).1.segs ≤ s.segs + (r.length + 1)
    omega

end Go.Proofs.YtldjieplbeflfaaGreat.Sto
