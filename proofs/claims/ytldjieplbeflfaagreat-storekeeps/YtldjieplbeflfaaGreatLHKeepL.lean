/-
  StoreKeeps, plainly: as long as no more disks are hurt than there are spare ones all is told.
-/
import Derived.Test.YtldjieplbeflfaaGreatY43
import Derived.Test.YtldjieplbeflfaaGreatY28
import Derived.Test.YtldjieplbeflfaaGreatY29
import Derived.Test.YtldjieplbeflfaaGreatY12
namespace Go.Proofs.YtldjieplbeflfaaGreat
open Evt (Ev Bat)

theorem cnt_filter (M : Nat → Bool) : ∀ N, ((List.range N).filter M).length = cnt M N
  | 0 => rfl
  | N + 1 => by
    rw [List.range_succ, List.filter_append, List.length_append, cnt_filter M N]
    show _ + ([N].filter M).length = cnt M N + if M N then 1 else 0
    by_cases q : M N = true
    · simp [q]
    · simp [q]
theorem mem_few {M : Nat → Bool} {N x : Nat} : x ∈ (List.range N).filter M ↔ x < N ∧ M x = true := by
  rw [List.mem_filter, List.mem_range]

theorem once_at : ∀ {l : List Sto.Do} {P : List (Int × Int)} {k : Nat} {d : Sto.Do}, Sto.Once l P → l[k]? = some d → d.kind = 7 ∧ d.turn ≠ 0 → (d.n, d.seg) ∉ hads (l.take k) P
  | [], _, _, _, _, hd => by cases hd
  | x :: r, P, 0, d, h, hd => by
    cases hd
    exact h.1
  | x :: r, P, k + 1, d, h, hd => once_at (l := r) (P := Sto.hadOf x P) (k := k) h.2 hd

/-! ### What was told, one thing more -/
theorem told_append : ∀ (a b : List (Sto.Do × Sto.Ans)) (cm : List Int), Sto.toldOf (a ++ b) cm = Sto.toldOf a cm ++ Sto.toldOf b (a.foldl (fun cm x => Sto.cmds x.1 x.2 cm) cm)
  | [], _, _ => rfl
  | (d, a) :: r, b, cm => by
    rw [List.cons_append, Sto.told_cons, Sto.told_cons, told_append r b, List.append_assoc]
    rfl
section
variable {X : Sto.Six} {c : Sto.Cfg} {l : List Sto.Do} {k : Nat} {d : Sto.Do} {M M' : Nat → Bool}
def stK (X : Sto.Six) (c : Sto.Cfg) (l : List Sto.Do) (k : Nat) : Sto.St := (Sto.steps X c (Sto.start c) (l.take k)).1
def zipK (X : Sto.Six) (c : Sto.Cfg) (l : List Sto.Do) (k : Nat) : List (Sto.Do × Sto.Ans) := (l.zip (Sto.steps X c (Sto.start c) l).2).take k
def toldK (X : Sto.Six) (c : Sto.Cfg) (l : List Sto.Do) (k : Nat) : List Ev := Sto.toldOf (zipK X c l k) []
def cmK (X : Sto.Six) (c : Sto.Cfg) (l : List Sto.Do) (k : Nat) : List Int := (zipK X c l k).foldl (fun cm x => Sto.cmds x.1 x.2 cm) []
theorem ansK (hd : l[k]? = some d) : (Sto.steps X c (Sto.start c) l).2[k]? = some (Sto.step X c (stK X c l k) d).2 := Sto.steps_at hd
theorem stK_next (hd : l[k]? = some d) : stK X c l (k + 1) = (Sto.step X c (stK X c l k) d).1 := Sto.steps_next hd
theorem zipK_next (hd : l[k]? = some d) : zipK X c l (k + 1) = zipK X c l k ++ [(d, (Sto.step X c (stK X c l k) d).2)] := by
  unfold zipK
  have hz : (l.zip (Sto.steps X c (Sto.start c) l).2)[k]? = some (d, (Sto.step X c (stK X c l k) d).2) := List.getElem?_zip_eq_some.2 ⟨hd, ansK hd⟩
  rw [List.take_add_one, hz]
  rfl
/-- Disk i is gone. -/
def gnK (X : Sto.Six) (c : Sto.Cfg) (l : List Sto.Do) (k i : Nat) : Bool := match (stK X c l k).disks[i]? with | some x => x.gone | none => false
/-- Those that M strikes were hurt; of the others all is as it was laid. -/
structure KW (X : Sto.Six) (c : Sto.Cfg) (l : List Sto.Do) (k : Nat) (M : Nat → Bool) : Prop where
  ok : ∃ BL, Sto.Inv X c (stK X c l k) BL (hads (l.take k) []) ∧ toldK X c l k = Sto.evsOf BL.flatten ++ Sto.evsOf (stK X c l k).tail ∧ Sto.Agrees (stK X c l k) (toldK X c l k) (cmK X c l k) ∧ Sto.Whole X c (stK X c l k) BL ((List.range (c.d + c.s)).filter M)
theorem kw_start : KW X c l 0 (fun _ => false) := by
  have e : (List.range (c.d + c.s)).filter (fun _ => false) = [] := by simp
  refine ⟨[], Sto.inv_start X c, rfl, Sto.agrees_start c, ?_⟩
  rw [e]
  exact Sto.whole_start X c
theorem KW.next (hg : Sto.Good X c) (h : KW X c l k M) (hd : l[k]? = some d) (hb : d.turn < 256) (ho : d.kind = 7 ∧ d.turn ≠ 0 → (d.n, d.seg) ∉ hads (l.take k) []) (hs : cnt M (c.d + c.s) ≤ c.s) (hm : ∀ x, x ∈ Sto.hurtOf X c (stK X c l k) d ((List.range (c.d + c.s)).filter M) → x < c.d + c.s → M' x = true) : KW X c l (k + 1) M' := by
  obtain ⟨BL, i1, i2, i3, i4⟩ := h.ok
  obtain ⟨BL', q1, q2, q3, q4⟩ := Sto.step_inv hg i1 d hb ho
  have hag := Sto.step_agrees (X := X) (c := c) i3 d
  have hto : toldK X c l (k + 1) = toldK X c l k ++ Sto.adds X c (stK X c l k) d := by
    unfold toldK
    rw [zipK_next hd, told_append]
    show _ ++ Sto.toldOf [(d, _)] (cmK X c l k) = _
    rw [Sto.told_cons, Sto.adds_told i3]
    show _ ++ (_ ++ []) = _
    rw [List.append_nil]
  have hcm : cmK X c l (k + 1) = Sto.cmds d (Sto.step X c (stK X c l k) d).2 (cmK X c l k) := by
    unfold cmK
    rw [zipK_next hd, List.foldl_append]
    rfl
  refine ⟨BL', ?_, ?_, ?_, ?_⟩
  · rw [stK_next hd, hads_next hd]
    exact q1
  · rw [stK_next hd, hto, q2, i2]
  · rw [stK_next hd, hto, hcm]
    exact hag
  · rw [stK_next hd]
    have hl : (Sto.step X c (stK X c l k) d).1.disks.length = c.d + c.s := q1.dl
    have hw : Sto.Whole X c (Sto.step X c (stK X c l k) d).1 BL' (Sto.hurtOf X c (stK X c l k) d ((List.range (c.d + c.s)).filter M)) := by
      by_cases k1 : d.kind = 1
      · have e : Sto.hurtOf X c (stK X c l k) d ((List.range (c.d + c.s)).filter M) = (List.range (c.d + c.s)).filter M := by
          unfold Sto.hurtOf
          rw [if_neg (by omega), if_neg (by omega)]
        rw [e]
        exact q3 k1 _ i4
      · rw [q4 k1]
        exact (Sto.step_whole hg i1 i4 (by rw [cnt_filter]; exact hs) d k1).1
    intro i x hx hn
    refine hw i x hx fun z => hn (mem_few.2 ?_)
    have hi : i < c.d + c.s := by
      rw [← hl]
      exact (List.getElem?_eq_some_iff.1 hx).1
    exact ⟨hi, hm i z hi⟩
/-- What is asked is told; a scrub mends all. -/
theorem KW.told (hg : Sto.Good X c) (h : KW X c l k M) (hs : cnt M (c.d + c.s) ≤ c.s) : Sto.Answers d (Sto.step X c (stK X c l k) d).2 (toldK X c l k) := by
  obtain ⟨BL, i1, i2, i3, i4⟩ := h.ok
  by_cases q : d.kind = 2 ∨ d.kind = 3 ∨ d.kind = 4
  · have e : Sto.step X c (stK X c l k) d = (stK X c l k, Sto.looks X c (stK X c l k) d) := by
      unfold Sto.step
      rw [if_neg (by omega), if_pos q]
    rw [e]
    have ha := Sto.all_kept hg i1 i4 (by rw [cnt_filter]; exact hs)
    rw [← i2] at ha
    exact Sto.looks_ok ha i3.ok
  · exact Sto.answers_else q _ _
theorem KW.scrub (hg : Sto.Good X c) (h : KW X c l k M) (hs : cnt M (c.d + c.s) ≤ c.s) (k8 : d.kind = 8) : (Sto.step X c (stK X c l k) d).2.err = 0 := by
  obtain ⟨BL, i1, i2, i3, i4⟩ := h.ok
  exact (Sto.step_whole hg i1 i4 (by rw [cnt_filter]; exact hs) d (by omega)).2 k8
/-- Which disks are gone: that is turned by what is done to them alone. -/
theorem scrub_gone : ∀ (m k : Nat) (ds : List Sto.Disk) (e n i : Nat), ((Sto.scrub X c m k ds e n).1[i]?).map Sto.Disk.gone = (ds[i]?).map Sto.Disk.gone
  | 0, _, _, _, _, _ => rfl
  | m + 1, k, ds, e, n, i => by
    rw [Sto.scrub]
    split
    · exact scrub_gone m (k + 1) ds e n i
    · split
      · exact scrub_gone m (k + 1) ds _ n i
      · exact (scrub_gone m (k + 1) _ e _ i).trans (Sto.write_gone _ _ ds i)
theorem put_gone (s : Sto.St) (i : Nat) : ((Sto.put X c s d).1.disks[i]?).map Sto.Disk.gone = (s.disks[i]?).map Sto.Disk.gone := by
  unfold Sto.put
  split
  · rfl
  · split
    · rfl
    · split
      · rfl
      · split
        · rfl
        · split
          · rfl
          · unfold Sto.laid
            dsimp only
            split
            · rfl
            · split
              · rfl
              · split
                · rfl
                · exact Sto.write_gone _ _ _ i
def isGone (s : Sto.St) (i : Nat) : Bool := match s.disks[i]? with | some x => x.gone | none => false
theorem gone_map {s t : Sto.St} {i : Nat} (h : (t.disks[i]?).map Sto.Disk.gone = (s.disks[i]?).map Sto.Disk.gone) : isGone t i = isGone s i := by
  unfold isGone
  cases h1 : t.disks[i]? <;> cases h2 : s.disks[i]? <;> rw [h1, h2] at h <;> simp at h ⊢
  exact h
theorem gone_else (s : Sto.St) (hk : ¬ (d.kind = 5 ∨ d.kind = 6 ∨ d.kind = 7)) (i : Nat) : isGone (Sto.step X c s d).1 i = isGone s i := by
  apply gone_map
  unfold Sto.step
  by_cases k1 : d.kind = 1
  · rw [if_pos k1]
    exact put_gone s i
  rw [if_neg k1]
  by_cases k2 : d.kind = 2 ∨ d.kind = 3 ∨ d.kind = 4
  · rw [if_pos k2]
  rw [if_neg k2, if_neg hk]
  by_cases k8 : d.kind = 8
  · rw [if_pos k8]
    exact scrub_gone _ _ _ _ _ i
  rw [if_neg k8]
  by_cases k9 : d.kind = 9
  · rw [if_pos k9]
  · rw [if_neg k9]
theorem hurt8 {s : Sto.St} {H : List Nat} {x : Nat} (k8 : d.kind = 8) (h : x ∈ Sto.hurtOf X c s d H) : x ∈ H ∧ isGone s x = true := by
  unfold Sto.hurtOf at h
  rw [if_neg (by omega), if_pos k8, List.mem_filter] at h
  exact h
/-- What harm does. -/
theorem harm_gone (s : Sto.St) (hk : d.kind = 5 ∨ d.kind = 6 ∨ d.kind = 7) : ((Sto.step X c s d).2.err ≠ 0 ∧ ∀ i, isGone (Sto.step X c s d).1 i = isGone s i) ∨ ((Sto.step X c s d).2.err = 0 ∧ 0 ≤ d.n ∧ d.n.toNat < s.disks.length ∧ ∀ i, isGone (Sto.step X c s d).1 i = if i = d.n.toNat then (decide (d.kind = 5) || (decide (d.kind = 7) && isGone s d.n.toNat)) else isGone s i) := by
  have e : Sto.step X c s d = Sto.harm s d := by
    unfold Sto.step
    rw [if_neg (by omega), if_neg (by omega), if_pos hk]
  rw [e]
  have hset : ∀ (x : Sto.Disk), d.n.toNat < s.disks.length → ∀ i, isGone { s with disks := s.disks.set d.n.toNat x } i = if i = d.n.toNat then x.gone else isGone s i := fun x hl i => by
    unfold isGone
    dsimp only
    by_cases q : i = d.n.toNat
    · subst q
      rw [List.getElem?_set_self hl, if_pos rfl]
    · rw [List.getElem?_set_ne (fun z => q z.symm), if_neg q]
  unfold Sto.harm
  split
  · exact Or.inl ⟨Nat.succ_ne_zero _, fun _ => rfl⟩
  · rename_i x hx
    have hl : d.n.toNat < s.disks.length := (List.getElem?_eq_some_iff.1 hx).1
    have hxg : isGone s d.n.toNat = x.gone := by
      unfold isGone
      rw [hx]
    split
    · exact Or.inl ⟨Nat.succ_ne_zero _, fun _ => rfl⟩
    · rename_i h0
      split
      · exact Or.inl ⟨Nat.succ_ne_zero _, fun _ => rfl⟩
      · split
        · rename_i h56
          refine Or.inr ⟨rfl, by omega, hl, fun i => (hset _ hl i).trans ?_⟩
          have h7 : decide (d.kind = 7) = false := decide_eq_false (by omega)
          rw [h7]
          simp
        · rename_i h56
          have h5 : decide (d.kind = 5) = false := decide_eq_false (by omega)
          have h7 : decide (d.kind = 7) = true := decide_eq_true (by omega)
          split
          · exact Or.inl ⟨Nat.succ_ne_zero _, fun _ => rfl⟩
          · split
            · exact Or.inl ⟨Nat.succ_ne_zero _, fun _ => rfl⟩
            · refine Or.inr ⟨rfl, by omega, hl, fun i => (hset _ hl i).trans ?_⟩
              rw [h5, h7, hxg]
              simp
end

end Go.Proofs.YtldjieplbeflfaaGreat
