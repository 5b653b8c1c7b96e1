/-
  Texts of the proof, joined: HHads, HKeepL, HScr, HScrB, KMoreP, KPs.
-/
import Derived.Test.YtleekmmoanlpfaaGreatZ31
import Derived.Test.YtleekmmoanlpfaaGreatZ32
import Derived.Test.YtleekmmoanlpfaaGreatZ12
import Derived.Test.YtleekmmoanlpfaaGreatZ13
import Derived.Test.YtleekmmoanlpfaaGreatZ46
namespace Go.Proofs.YtleekmmoanlpfaaGreat

def hads (l : List Sto.Do) (P : List (Int × Int)) : List (Int × Int) := l.foldl (fun h d => Sto.hadOf d h) P
theorem hads_next {l : List Sto.Do} {k : Nat} {d : Sto.Do} (h : l[k]? = some d) (P : List (Int × Int)) : hads (l.take (k + 1)) P = Sto.hadOf d (hads (l.take k) P) := by
  rw [List.take_add_one, h]
  unfold hads
  rw [List.foldl_append]
  rfl
end Go.Proofs.YtleekmmoanlpfaaGreat

namespace Go.Proofs.YtleekmmoanlpfaaGreat
open Evt (Ev Bat)

theorem cnt_filter (M : Nat → Bool) : ∀ N, ((List.range N).filter M).length = cnt M N
  | 0 => rfl
  | N + 1 => by
    rw [List.range_succ, List.filter_append, List.length_append, cnt_filter M N]
    show _ + ([N].filter M).length = cnt M N + if M N then 1 else 0
    by_cases q : M N = true
    · simp [q]
    · simp [q]
theorem mem_few {M : Nat → Bool} {N x : Nat} : x ∈ (List.range N).filter M ↔ x < N ∧ M x = true := by
  rw [List.mem_filter, List.mem_range]

/-! ### What was told, one thing more -/
theorem told_append : ∀ (a b : List (Sto.Do × Sto.Ans)) (cm : List Int), Sto.toldOf (a ++ b) cm = Sto.toldOf a cm ++ Sto.toldOf b (a.foldl (fun cm x => Sto.cmds x.1 x.2 cm) cm)
  | [], _, _ => rfl
  | (d, a) :: r, b, cm => by
    rw [List.cons_append, Sto.told_cons, Sto.told_cons, told_append r b, List.append_assoc]
    rfl
section
variable {X : Sto.Six} {c : Sto.Cfg} {l : List Sto.Do} {k : Nat} {d : Sto.Do} {M M' : Nat → Bool}
def stK (X : Sto.Six) (c : Sto.Cfg) (l : List Sto.Do) (k : Nat) : Sto.St := (Sto.steps X c (Sto.start c) (l.take k)).1
def zipK (X : Sto.Six) (c : Sto.Cfg) (l : List Sto.Do) (k : Nat) : List (Sto.Do × Sto.Ans) := (l.zip (Sto.steps X c (Sto.start c) l).2).take k
def toldK (X : Sto.Six) (c : Sto.Cfg) (l : List Sto.Do) (k : Nat) : List Ev := Sto.toldOf (zipK X c l k) []
def cmK (X : Sto.Six) (c : Sto.Cfg) (l : List Sto.Do) (k : Nat) : List Int := (zipK X c l k).foldl (fun cm x => Sto.cmds x.1 x.2 cm) []
theorem ansK (hd : l[k]? = some d) : (Sto.steps X c (Sto.start c) l).2[k]? = some (Sto.step X c (stK X c l k) d).2 := Sto.steps_at hd
theorem stK_next (hd : l[k]? = some d) : stK X c l (k + 1) = (Sto.step X c (stK X c l k) d).1 := Sto.steps_next hd
theorem zipK_next (hd : l[k]? = some d) : zipK X c l (k + 1) = zipK X c l k ++ [(d, (Sto.step X c (stK X c l k) d).2)] := by
  unfold zipK
  have hz : (l.zip (Sto.steps X c (Sto.start c) l).2)[k]? = some (d, (Sto.step X c (stK X c l k) d).2) := List.getElem?_zip_eq_some.2 ⟨hd, ansK hd⟩
  rw [List.take_add_one, hz]
  rfl
/-- Those that M strikes were hurt; of the others all is as it was laid. -/
structure KW (X : Sto.Six) (c : Sto.Cfg) (l : List Sto.Do) (k : Nat) (M : Nat → Bool) : Prop where
  ok : ∃ BL, Sto.Inv X c (stK X c l k) BL (hads (l.take k) []) ∧ toldK X c l k = Sto.evsOf BL.flatten ++ Sto.evsOf (stK X c l k).tail ∧ Sto.Agrees (stK X c l k) (toldK X c l k) (cmK X c l k) ∧ Sto.Whole X c (stK X c l k) BL ((List.range (c.d + c.s)).filter M)
theorem KW.next (hg : Sto.Good X c) (h : KW X c l k M) (hd : l[k]? = some d) (hb : d.turn < 256) (ho : d.kind = 7 ∧ d.turn ≠ 0 → (d.n, d.seg) ∉ hads (l.take k) []) (hs : cnt M (c.d + c.s) ≤ c.s) (hm : ∀ x, x ∈ Sto.hurtOf X c (stK X c l k) d ((List.range (c.d + c.s)).filter M) → x < c.d + c.s → M' x = true) : KW X c l (k + 1) M' := by
  obtain ⟨BL, i1, i2, i3, i4⟩ := h.ok
  obtain ⟨BL', q1, q2, q3, q4⟩ := Sto.step_inv hg i1 d hb ho
  have hag := Sto.step_agrees (X := X) (c := c) i3 d
  have hto : toldK X c l (k + 1) = toldK X c l k ++ Sto.adds X c (stK X c l k) d := by
    unfold toldK
    rw [zipK_next hd, told_append]
    show _ ++ Sto.toldOf [(d, _)] (cmK X c l k) = _
    rw [Sto.told_cons, Sto.adds_told i3]
    show _ ++ (_ ++ []) = _
    rw [List.append_nil]
  have hcm : cmK X c l (k + 1) = Sto.cmds d (Sto.step X c (stK X c l k) d).2 (cmK X c l k) := by
    unfold cmK
    rw [zipK_next hd, List.foldl_append]
    rfl
  refine ⟨BL', ?_, ?_, ?_, ?_⟩
  · rw [stK_next hd, hads_next hd]
    exact q1
  · rw [stK_next hd, hto, q2, i2]
  · rw [stK_next hd, hto, hcm]
    exact hag
  · rw [stK_next hd]
    have hl : (Sto.step X c (stK X c l k) d).1.disks.length = c.d + c.s := q1.dl
    have hw : Sto.Whole X c (Sto.step X c (stK X c l k) d).1 BL' (Sto.hurtOf X c (stK X c l k) d ((List.range (c.d + c.s)).filter M)) := by
      by_cases k1 : d.kind = 1
      · have e : Sto.hurtOf X c (stK X c l k) d ((List.range (c.d + c.s)).filter M) = (List.range (c.d + c.s)).filter M := by
          unfold Sto.hurtOf
          rw [if_neg (by omega), if_neg (by omega)]
        rw [e]
        exact q3 k1 _ i4
      · rw [q4 k1]
        exact (Sto.step_whole hg i1 i4 (by rw [cnt_filter]; exact hs) d k1).1
    intro i x hx hn
    refine hw i x hx fun z => hn (mem_few.2 ?_)
    have hi : i < c.d + c.s := by
      rw [← hl]
      exact (List.getElem?_eq_some_iff.1 hx).1
    exact ⟨hi, hm i z hi⟩
/-- What is asked is told; a scrub mends all. -/
theorem KW.told (hg : Sto.Good X c) (h : KW X c l k M) (hs : cnt M (c.d + c.s) ≤ c.s) : Sto.Answers d (Sto.step X c (stK X c l k) d).2 (toldK X c l k) := by
  obtain ⟨BL, i1, i2, i3, i4⟩ := h.ok
  by_cases q : d.kind = 2 ∨ d.kind = 3 ∨ d.kind = 4
  · have e : Sto.step X c (stK X c l k) d = (stK X c l k, Sto.looks X c (stK X c l k) d) := by
      unfold Sto.step
      rw [if_neg (by omega), if_pos q]
    rw [e]
    have ha := Sto.all_kept hg i1 i4 (by rw [cnt_filter]; exact hs)
    rw [← i2] at ha
    exact Sto.looks_ok ha i3.ok
  · exact Sto.answers_else q _ _
theorem KW.scrub (hg : Sto.Good X c) (h : KW X c l k M) (hs : cnt M (c.d + c.s) ≤ c.s) (k8 : d.kind = 8) : (Sto.step X c (stK X c l k) d).2.err = 0 := by
  obtain ⟨BL, i1, i2, i3, i4⟩ := h.ok
  exact (Sto.step_whole hg i1 i4 (by rw [cnt_filter]; exact hs) d (by omega)).2 k8
def isGone (s : Sto.St) (i : Nat) : Bool := match s.disks[i]? with | some x => x.gone | none => false
theorem hurt8 {s : Sto.St} {H : List Nat} {x : Nat} (k8 : d.kind = 8) (h : x ∈ Sto.hurtOf X c s d H) : x ∈ H ∧ isGone s x = true := by
  unfold Sto.hurtOf at h
  rw [if_neg (by omega), if_pos k8, List.mem_filter] at h
  exact h
end

end Go.Proofs.YtleekmmoanlpfaaGreat

namespace Go.Proofs.YtleekmmoanlpfaaGreat.Sto
open Evt (Ev Bat)

/-! ### What chapter 6 promises of whatever blocks -/
section
variable {X : Six} {c : Cfg} {bs : List (List Nat)} {k i : Nat}
theorem bad_none (hX : SixOk X) (hi : i < bs.length) (h : bs.getD i [] = []) : i ∈ X.bad bs k := by
  rw [hX.bad]
  unfold Seg.badL
  rw [List.mem_filter]
  refine ⟨List.mem_range.2 hi, decide_eq_true fun q => ?_⟩
  have q1 := q.1
  unfold lenF at q1
  rw [h, Crc.parse_form (Or.inl (by decide))] at q1
  cases q1
end

/-! ### What disks may have, whatever was done -/
structure SI (c : Cfg) (segs : Nat) (ds : List Disk) : Prop where
  dl : ds.length = c.d + c.s
  up : ∀ (i : Nat) (d : Disk), ds[i]? = some d → Up d.bl ∧ (∀ h, h ∈ d.bl → 0 ≤ h.1 ∧ h.1 < (segs : Int)) ∧ (d.gone = true → d.bl = [])
section
variable {X : Six} {c : Cfg} {segs : Nat} {ds : List Disk}
theorem SI.more (h : SI c segs ds) : SI c (segs + 1) ds := ⟨h.dl, fun i d hd => ⟨(h.up i d hd).1, fun x hx => by
  have := (h.up i d hd).2.1 x hx
  omega, (h.up i d hd).2.2⟩⟩
theorem SI.write (h : SI c segs ds) {k : Nat} (hk : k < segs) (L : List (List Nat)) : SI c segs (Sto.write k L 0 ds) := by
  refine ⟨by rw [write_length]; exact h.dl, fun i d hd => ?_⟩
  rw [write_at] at hd
  obtain ⟨e, he, rfl⟩ := Option.map_eq_some_iff.1 hd
  obtain ⟨u1, u2, u3⟩ := h.up i e he
  by_cases q : e.gone = true
  · rw [if_pos q]
    exact ⟨u1, u2, u3⟩
  · rw [if_neg q]
    refine ⟨ins_sorted u1, fun x hx => ?_, fun z => by cases z⟩
    rcases ins_mem u1 hx with rfl | z
    · show 0 ≤ (k : Int) ∧ (k : Int) < segs
      omega
    · exact u2 x z.1
theorem SI.set (h : SI c segs ds) (i : Nat) (x : Disk) (hx : Up x.bl ∧ (∀ h, h ∈ x.bl → 0 ≤ h.1 ∧ h.1 < (segs : Int)) ∧ (x.gone = true → x.bl = [])) : SI c segs (ds.set i x) := by
  refine ⟨by rw [List.length_set]; exact h.dl, fun j d hd => ?_⟩
  by_cases q : i = j
  · subst q
    have hl : i < ds.length := by
      have := (List.getElem?_eq_some_iff.1 hd).1
      rw [List.length_set] at this
      exact this
    rw [List.getElem?_set_self hl] at hd
    cases hd
    exact hx
  · rw [List.getElem?_set_ne q] at hd
    exact h.up j d hd
/-! ### Scrubbed -/
/-- Disk i is gone. -/
def gn (ds : List Disk) (i : Nat) : Bool := match ds[i]? with | some x => x.gone | none => false
def gcnt (c : Cfg) (ds : List Disk) : Nat := ((List.range (c.d + c.s)).filter (gn ds)).length
theorem gn_write (k : Int) (L : List (List Nat)) (ds : List Disk) : gn (Sto.write k L 0 ds) = gn ds := by
  funext i
  have h := write_gone k L ds i
  unfold gn
  cases h1 : (Sto.write k L 0 ds)[i]? <;> cases h2 : ds[i]? <;> rw [h1, h2] at h <;> simp at h ⊢
  exact h
/-- Segment j: all blocks are there as they were laid, but for those of disks that are gone. -/
def CleanAt (X : Six) (c : Cfg) (ds : List Disk) (j : Nat) : Prop :=
  (∃ L r, X.lay r j c = (0, L) ∧ Evt.Bytes r ∧ gcnt c ds ≤ c.s ∧ ∀ (i : Nat) (d : Disk), ds[i]? = some d → d.gone = false → pickB j d.bl [] = L.getD i []) ∨ ((∀ (i : Nat) (d : Disk), ds[i]? = some d → d.gone = false) ∧ X.bad (blocks ds j) j = [])
theorem blocks_get (ds : List Disk) (k : Int) (i : Nat) : (blocks ds k).getD i [] = match ds[i]? with | some d => if d.gone then [] else pickB k d.bl [] | none => [] := by
  rw [List.getD_eq_getElem?_getD, blocks, List.getElem?_map]
  cases ds[i]? <;> rfl
theorem blocks_other (h : SI c segs ds) {k j : Int} (hj : j ≠ k) (L : List (List Nat)) : blocks (Sto.write k L 0 ds) j = blocks ds j := by
  apply List.ext_getElem?
  intro i
  rw [blocks, blocks, List.getElem?_map, List.getElem?_map, write_at, Option.map_map]
  cases hd : ds[i]? with
  | none => rfl
  | some d =>
    simp only [Option.map_some, Function.comp]
    by_cases q : d.gone = true
    · simp [q]
    · simp [q, pick_other (h.up i d hd).1 hj]
theorem CleanAt.other (hs : SI c segs ds) {k j : Nat} (hj : j ≠ k) (L : List (List Nat)) (h : CleanAt X c ds j) : CleanAt X c (Sto.write k L 0 ds) j := by
  have hat : ∀ (i : Nat) (d : Disk), (Sto.write k L 0 ds)[i]? = some d → ∃ e, ds[i]? = some e ∧ e.gone = d.gone ∧ (d.gone = false → pickB j d.bl [] = pickB j e.bl []) := fun i d hd => by
    rw [write_at] at hd
    obtain ⟨e, he, rfl⟩ := Option.map_eq_some_iff.1 hd
    refine ⟨e, he, ?_, fun _ => ?_⟩
    · by_cases q : e.gone = true
      · rw [if_pos q]
      · rw [if_neg q]
        simpa using q
    · by_cases q : e.gone = true
      · rw [if_pos q]
      · rw [if_neg q]
        exact pick_other (hs.up i e he).1 (by omega)
  rcases h with ⟨L', r, h1, h2, h3, h4⟩ | ⟨h1, h2⟩
  · refine Or.inl ⟨L', r, h1, h2, ?_, fun i d hd hg => ?_⟩
    · unfold gcnt
      rw [gn_write]
      exact h3
    · obtain ⟨e, he, q1, q2⟩ := hat i d hd
      rw [q2 hg]
      exact h4 i e he (q1.trans hg)
  · refine Or.inr ⟨fun i d hd => ?_, ?_⟩
    · obtain ⟨e, he, q1, _⟩ := hat i d hd
      rw [← q1]
      exact h1 i e he
    · rw [blocks_other hs (by omega)]
      exact h2
theorem CleanAt.laid (hs : SI c segs ds) {k : Nat} {L : List (List Nat)} {r : List Nat} (hL : X.lay r k c = (0, L)) (hb : Evt.Bytes r) (hg : gcnt c ds ≤ c.s) : CleanAt X c (Sto.write k L 0 ds) k := by
  refine Or.inl ⟨L, r, hL, hb, ?_, fun i d hd hgd => ?_⟩
  · unfold gcnt
    rw [gn_write]
    exact hg
  · rw [write_at] at hd
    obtain ⟨e, he, rfl⟩ := Option.map_eq_some_iff.1 hd
    by_cases q : e.gone = true
    · rw [if_pos q] at hgd
      rw [hgd] at q
      cases q
    · rw [if_neg q]
      show pickB k (ins k (L.getD (0 + i) []) false e.bl) [] = _
      rw [pick_ins (hs.up i e he).1, Nat.zero_add]
theorem gone_bad (hX : SixOk X) (hs : SI c segs ds) (k : Nat) {i : Nat} (hi : i < c.d + c.s) (h : gn ds i = true) : i ∈ X.bad (blocks ds k) k := by
  refine bad_none hX (by rw [blocks, List.length_map, hs.dl]; exact hi) ?_
  rw [blocks_get]
  unfold gn at h
  cases hd : ds[i]? with
  | none => rfl
  | some d =>
    rw [hd] at h
    have h : d.gone = true := h
    show (if d.gone then [] else _) = []
    rw [if_pos h]
theorem gcnt_bad (hX : SixOk X) (hs : SI c segs ds) (k : Nat) : gcnt c ds ≤ (X.bad (blocks ds k) k).length := by
  have e : X.bad (blocks ds k) k = (List.range (c.d + c.s)).filter (fun i => decide (i ∈ X.bad (blocks ds k) k)) := by
    conv => lhs; rw [hX.bad, show (blocks ds (k : Int)).length = c.d + c.s by rw [blocks, List.length_map, hs.dl]]
    unfold Seg.badL
    refine List.filter_congr fun i hi => ?_
    rw [Bool.eq_iff_iff, decide_eq_true_iff, decide_eq_true_iff, hX.bad, show (blocks ds (k : Int)).length = c.d + c.s by rw [blocks, List.length_map, hs.dl]]
    unfold Seg.badL
    rw [List.mem_filter, decide_eq_true_iff]
    exact ⟨fun q => ⟨hi, q⟩, fun q => q.2⟩
  rw [e]
  unfold gcnt
  rw [← List.countP_eq_length_filter, ← List.countP_eq_length_filter]
  exact List.countP_mono_left fun i hi hg => decide_eq_true (gone_bad hX hs k (List.mem_range.1 hi) hg)
theorem scrub_err (X : Six) (c : Cfg) : ∀ (m k : Nat) (ds : List Disk) (e n : Nat), e ≠ 0 → (scrub X c m k ds e n).2.1 = e
  | 0, _, _, _, _, _ => rfl
  | m + 1, k, ds, e, n, he => by
    rw [scrub]
    split
    · exact scrub_err X c m (k + 1) ds e n he
    · split
      · first | exact scrub_err X c m (k + 1) ds e n he | (rw [if_neg he]; exact scrub_err X c m (k + 1) ds e n he)
      · exact scrub_err X c m (k + 1) _ e _ he
end

end Go.Proofs.YtleekmmoanlpfaaGreat.Sto

namespace Go.Proofs.YtleekmmoanlpfaaGreat.Sto
open Evt (Ev Bat)

section
variable {X : Six} {c : Cfg} {segs : Nat} {ds : List Disk}
theorem health_clean {g : Nat} : ∀ (m k n : Nat), (∀ j, k ≤ j → j < k + m → (X.bad (blocks ds j) j).length = g) → health X ds m k n = n + m * g
  | 0, k, n, _ => by
    show n = _
    omega
  | m + 1, k, n, h => by
    rw [health, health_clean m (k + 1) _ (fun j h1 h2 => h j (by omega) (by omega)), h k (Nat.le_refl _) (by omega), Nat.succ_mul]
    omega
theorem there_gone (c : Cfg) (ds : List Disk) : there ds ((List.range (c.d + c.s)).filter (gn ds)) = 0 := by
  unfold there
  rw [List.length_eq_zero_iff, List.filter_eq_nil_iff]
  intro i hi
  have hg := (List.mem_filter.1 hi).2
  unfold gn at hg
  cases hd : ds[i]? with
  | none => simp
  | some d =>
    rw [hd] at hg
    have hg : d.gone = true := hg
    simp [hg]
end
end Go.Proofs.YtleekmmoanlpfaaGreat.Sto

namespace Go.Proofs.YtleekmmoanlpfaaGreat

/-- Disk i is lost. -/
abbrev dLose (i : Nat) : Sto.Do := ⟨5, (i : Int), 0, 0, 0, ⟨0, []⟩, [], 0⟩
abbrev dAll : Sto.Do := ⟨3, 0, 0, 0, 0, ⟨0, []⟩, [], 0⟩
abbrev dScrub : Sto.Do := ⟨8, 0, 0, 0, 0, ⟨0, []⟩, [], 0⟩
/-- k disks from f on, of n. -/
def loses (n f : Nat) : Nat → List Sto.Do
  | 0 => []
  | k + 1 => loses n f k ++ [dLose ((f % n + k) % n)]
theorem loses_len (n f : Nat) : ∀ k, (loses n f k).length = k
  | 0 => rfl
  | k + 1 => by
    rw [loses, List.length_append, loses_len n f k]
    rfl
section
variable {X : Sto.Six} {c : Sto.Cfg}
theorem step_lose (s : Sto.St) (i : Nat) : Sto.step X c s (dLose i) = Sto.harm s (dLose i) := by
  unfold Sto.step
  rw [if_neg (show ¬ (5 : Int) = 1 by decide), if_neg (show ¬ ((5 : Int) = 2 ∨ (5 : Int) = 3 ∨ (5 : Int) = 4) by decide), if_pos (Or.inl rfl)]
/-- A disk that is lost is gone, whether it was or not. -/
theorem lose_gone (s : Sto.St) {i : Nat} (hi : i < s.disks.length) (j : Nat) : isGone (Sto.step X c s (dLose i)).1 j = if j = i then true else isGone s j := by
  have e : Sto.step X c s (dLose i) = Sto.harm s (dLose i) := step_lose s i
  obtain ⟨x, hx⟩ : ∃ x, s.disks[i]? = some x := ⟨s.disks[i], List.getElem?_eq_getElem hi⟩
  have hn : (dLose i).n.toNat = i := rfl
  rw [e]
  unfold Sto.harm
  rw [hn, hx]
  dsimp only
  rw [if_neg (show ¬ (i : Int) < 0 by omega)]
  by_cases q : x.gone = true
  · rw [if_pos ⟨rfl, q⟩]
    by_cases z : j = i
    · rw [if_pos z, z]
      unfold isGone
      rw [hx]
      exact q
    · rw [if_neg z]
  · rw [if_neg (fun z => q z.2), if_pos (Or.inl rfl)]
    unfold isGone
    dsimp only
    by_cases z : j = i
    · rw [if_pos z, z, List.getElem?_set_self hi]
      rfl
    · rw [if_neg z, List.getElem?_set_ne (fun y => z y.symm)]
theorem lose_same (s : Sto.St) (i : Nat) : Sto.Same s (Sto.step X c s (dLose i)).1 := by
  have e : Sto.step X c s (dLose i) = Sto.harm s (dLose i) := step_lose s i
  rw [e]
  exact Sto.harm_same s _
theorem lose_len (s : Sto.St) (i : Nat) : (Sto.step X c s (dLose i)).1.disks.length = s.disks.length := by
  have e : Sto.step X c s (dLose i) = Sto.harm s (dLose i) := step_lose s i
  rw [e]
  unfold Sto.harm
  split
  · rfl
  · split
    · rfl
    · split
      · rfl
      · split
        · exact List.length_set
        · split
          · rfl
          · split
            · rfl
            · exact List.length_set
theorem lose_inv {s : Sto.St} {BL : List (List Evt.Bat)} (hg : Sto.Good X c) (h : Sto.Inv X c s BL []) (i : Nat) : Sto.Inv X c (Sto.step X c s (dLose i)).1 BL [] := by
  obtain ⟨BL', q1, _, _, q4⟩ := Sto.step_inv hg h (dLose i) (show (0 : Nat) < 256 by decide) (fun z => absurd z.1 (show ¬ (5 : Int) = 7 by decide))
  have e : Sto.hadOf (dLose i) [] = [] := if_neg fun z => absurd z.1 (show ¬ (5 : Int) = 7 by decide)
  rw [q4 (show ¬ (5 : Int) = 1 by decide), e] at q1
  exact q1
/-- Which are gone, behind k of them. -/
def lostM (n f : Nat) : Nat → Nat → Bool
  | 0 => fun _ => false
  | k + 1 => lose ((f % n + k) % n) (lostM n f k)
theorem lostM_mem (n f : Nat) : ∀ k i, lostM n f k i = true → ∃ j, j < k ∧ i = (f % n + j) % n
  | 0, i, h => by cases h
  | k + 1, i, h => by
    by_cases q : i = (f % n + k) % n
    · exact ⟨k, Nat.lt_succ_self k, q⟩
    · have h : lose ((f % n + k) % n) (lostM n f k) i = true := h
      unfold lose at h
      rw [if_neg q] at h
      obtain ⟨j, h1, h2⟩ := lostM_mem n f k i h
      exact ⟨j, by omega, h2⟩
theorem mod_inj {n a j k : Nat} (ha : a < n) (hj : j < n) (hk : k < n) (h : (a + j) % n = (a + k) % n) : j = k := by
  have h1 : (a + j) % n = if a + j < n then a + j else a + j - n := by
    by_cases q : a + j < n
    · rw [if_pos q, Nat.mod_eq_of_lt q]
    · rw [if_neg q, Nat.mod_eq_sub_mod (by omega), Nat.mod_eq_of_lt (by omega)]
  have h2 : (a + k) % n = if a + k < n then a + k else a + k - n := by
    by_cases q : a + k < n
    · rw [if_pos q, Nat.mod_eq_of_lt q]
    · rw [if_neg q, Nat.mod_eq_sub_mod (by omega), Nat.mod_eq_of_lt (by omega)]
  rw [h1, h2] at h
  split at h <;> split at h <;> omega
theorem lostM_cnt {n : Nat} (hn : 1 ≤ n) (f : Nat) : ∀ k, k ≤ n → cnt (lostM n f k) n = k
  | 0, _ => cnt_none n
  | k + 1, hk => by
    have hm : lostM n f k ((f % n + k) % n) = false := by
      by_cases q : lostM n f k ((f % n + k) % n) = true
      · obtain ⟨j, h1, h2⟩ := lostM_mem n f k _ q
        have := mod_inj (Nat.mod_lt f hn) (by omega) (by omega) h2
        omega
      · simpa using q
    show cnt (lose ((f % n + k) % n) (lostM n f k)) n = k + 1
    rw [cnt_lose hm n (Nat.mod_lt _ hn), lostM_cnt hn f k (by omega)]
/-- Behind k that are lost. -/
theorem loses_end {s : Sto.St} {BL : List (List Evt.Bat)} (hg : Sto.Good X c) (h : Sto.Inv X c s BL []) (hn : s.disks.length = c.d + c.s) (h1 : 1 ≤ c.d) (h0 : ∀ i, isGone s i = false) (f : Nat) : ∀ k, Sto.Inv X c (Sto.steps X c s (loses (c.d + c.s) f k)).1 BL [] ∧ (Sto.steps X c s (loses (c.d + c.s) f k)).1.disks.length = c.d + c.s ∧ Sto.Same s (Sto.steps X c s (loses (c.d + c.s) f k)).1 ∧ ∀ i, isGone (Sto.steps X c s (loses (c.d + c.s) f k)).1 i = lostM (c.d + c.s) f k i
  | 0 => ⟨h, hn, Sto.Same.refl s, h0⟩
  | k + 1 => by
    obtain ⟨q1, q2, q3, q4⟩ := loses_end hg h hn h1 h0 f k
    rw [loses, Sto.steps_append]
    show Sto.Inv X c (Sto.step X c (Sto.steps X c s (loses (c.d + c.s) f k)).1 (dLose ((f % (c.d + c.s) + k) % (c.d + c.s)))).1 BL [] ∧ (Sto.step X c (Sto.steps X c s (loses (c.d + c.s) f k)).1 (dLose ((f % (c.d + c.s) + k) % (c.d + c.s)))).1.disks.length = c.d + c.s ∧ Sto.Same s (Sto.step X c (Sto.steps X c s (loses (c.d + c.s) f k)).1 (dLose ((f % (c.d + c.s) + k) % (c.d + c.s)))).1 ∧ ∀ i, isGone (Sto.step X c (Sto.steps X c s (loses (c.d + c.s) f k)).1 (dLose ((f % (c.d + c.s) + k) % (c.d + c.s)))).1 i = lostM (c.d + c.s) f (k + 1) i
    refine ⟨lose_inv hg q1 _, (lose_len _ _).trans q2, ?_, fun i => ?_⟩
    · have z := lose_same (X := X) (c := c) (Sto.steps X c s (loses (c.d + c.s) f k)).1 ((f % (c.d + c.s) + k) % (c.d + c.s))
      exact ⟨z.seen.trans q3.seen, z.u.trans q3.u, z.acc.trans q3.acc, z.tail.trans q3.tail, z.segs.trans q3.segs⟩
    · rw [lose_gone _ (by rw [q2]; exact Nat.mod_lt _ (by omega)), q4 i]
      rfl
end

end Go.Proofs.YtleekmmoanlpfaaGreat

namespace Go.Proofs.YtleekmmoanlpfaaGreat

/-- A batch of a few bytes. -/
def SmallB (b : Evt.Bat) : Prop := (Evt.wrongB b).1 = 0 ∧ (Evt.encB b).length ≤ 30
theorem flat_few {α : Type} {f : α → List Nat} {m : Nat} : ∀ {l : List α}, (∀ x, x ∈ l → (f x).length ≤ m) → (l.flatMap f).length ≤ l.length * m
  | [], _ => Nat.zero_le _
  | x :: r, h => by
    have h1 := h x (List.mem_cons_self ..)
    have h2 := flat_few (l := r) fun y hy => h y (List.mem_cons_of_mem _ hy)
    rw [List.flatMap_cons, List.length_append, List.length_cons, Nat.add_mul, Nat.one_mul]
    omega
theorem small_enc {l : List Evt.Bat} (h : ∀ b, b ∈ l → SmallB b) (hl : l.length ≤ 10) : (Evt.encL l).length ≤ 400 ∧ (Evt.wrongL l).1 = 0 := by
  have h2 := flat_few (f := Evt.encB) (m := 30) (l := l) fun b hb => (h b hb).2
  refine ⟨?_, ?_⟩
  · show (l.flatMap Evt.encB).length + 1 ≤ 400
    have : l.length * 30 ≤ 10 * 30 := Nat.mul_le_mul_right _ hl
    omega
  · unfold Evt.wrongL
    rw [if_neg (by omega), Evt.firstB_none _ _ fun b hb => (h b hb).1]
abbrev dPut (k : Nat) (es : List Evt.Ev) : Sto.Do := ⟨1, 0, 0, 0, 0, ⟨(k : Int), es⟩, [], -1⟩
/-- A setup that may be. -/
structure CfgOk (c : Sto.Cfg) : Prop where
  d1 : 1 ≤ c.d
  d8 : c.d ≤ 8
  s4 : c.s ≤ 4
  b1 : 1 ≤ c.b
  b10 : c.b ≤ 10
section
variable {X : Sto.Six} {c : Sto.Cfg}
theorem laid_comes (hX : Sto.SixOk X) (hc : CfgOk c) {s : Sto.St} {b : Evt.Bat} (v : Int × List Vw.Acc) (hs : s.segs ≤ 39) (hw : (Evt.wrongL (s.tail ++ [b])).1 = 0) (hl : (Evt.encL (s.tail ++ [b])).length ≤ 400) :
    (Sto.laid X c s b v).1 = 0 ∧ (((Sto.laid X c s b v).2.tail = s.tail ++ [b] ∧ (s.tail ++ [b]).length < c.b ∧ (Sto.laid X c s b v).2.segs = s.segs) ∨ ((Sto.laid X c s b v).2.tail = [] ∧ ¬ (s.tail ++ [b]).length < c.b ∧ (Sto.laid X c s b v).2.segs = s.segs + 1)) := by
  have hy : (X.lay (Evt.encL (s.tail ++ [b])) s.segs c).1 = 0 := by
    rw [hX.lay]
    unfold Sto.layX
    rw [if_pos (layE_ok hc.d1 hc.d8 hc.s4 hs (Nat.le_trans hl (by have := hc.d1; omega)))]
  unfold Sto.laid
  dsimp only
  by_cases q : (s.tail ++ [b]).length < c.b
  · rw [if_pos q]
    exact ⟨rfl, Or.inl ⟨rfl, q, rfl⟩⟩
  · rw [if_neg q, if_neg (fun z => z hw), if_neg (fun z => z hy)]
    exact ⟨rfl, Or.inr ⟨rfl, q, rfl⟩⟩
theorem put_comes {s : Sto.St} {d : Sto.Do} (hw : (Evt.wrongB d.bat).1 = 0) (hs : d.bat.cmd ∉ s.seen) (hv : d.ver < 0) (hf : (Vw.fold s.u s.acc d.bat.evs).1.1 = 0) (hl : (Sto.laid X c s d.bat (Vw.fold s.u s.acc d.bat.evs).2).1 = 0) :
    Sto.put X c s d = ((Sto.laid X c s d.bat (Vw.fold s.u s.acc d.bat.evs).2).2, Sto.told (Vw.fold s.u s.acc d.bat.evs).2.1) := by
  unfold Sto.put
  rw [if_neg (fun z => z hw), if_neg hs, if_neg (fun z => by omega), if_neg (fun z => z hf), if_neg (fun z => z hl)]
theorem put_fits {s : Sto.St} {d : Sto.Do} (hw : (Evt.wrongB d.bat).1 = 0) (hs : d.bat.cmd ∉ s.seen) (hv : d.ver < 0) (hf : (Vw.fold s.u s.acc d.bat.evs).1.1 ≠ 0) : Sto.put X c s d = (s, Sto.no (Vw.fold s.u s.acc d.bat.evs).1.1) := by
  unfold Sto.put
  rw [if_neg (fun z => z hw), if_neg hs, if_neg (fun z => by omega), if_pos hf]
/-- n batches were put in; es has come of them; no disk was hurt. -/
structure PutS (X : Sto.Six) (c : Sto.Cfg) (s : Sto.St) (n : Nat) (es : List Evt.Ev) : Prop where
  ok : ∃ BL, Sto.Inv X c s BL [] ∧ Sto.evsOf BL.flatten ++ Sto.evsOf s.tail = es ∧ Sto.Whole X c s BL []
  seen : ∀ x, x ∈ s.seen → x ≤ (n : Int)
  right : Vw.Right s.u s.acc
  u : s.u = (es.length : Int)
  tail : ∀ b, b ∈ s.tail → SmallB b
  tl : s.tail.length < c.b
  segs : s.segs ≤ n
theorem ps_start (hc : CfgOk c) : PutS X c (Sto.start c) 0 [] :=
  ⟨⟨[], Sto.inv_start X c, rfl, Sto.whole_start X c⟩, fun _ h => (by cases h), Vw.right_nil, rfl, fun _ h => (by cases h), hc.b1, Nat.le_refl _⟩
theorem PutS.put {s : Sto.St} {n : Nat} {es evs : List Evt.Ev} (hX : Sto.SixOk X) (hc : CfgOk c) (h : PutS X c s n es) (hn : n ≤ 39) (hb : SmallB ⟨((n + 1 : Nat) : Int), evs⟩) (hf : (Vw.fold s.u s.acc evs).1.1 = 0) :
    (Sto.step X c s (dPut (n + 1) evs)).2.err = 0 ∧ PutS X c (Sto.step X c s (dPut (n + 1) evs)).1 (n + 1) (es ++ evs) ∧ (Sto.step X c s (dPut (n + 1) evs)).1.u = (Vw.fold s.u s.acc evs).2.1 ∧ (Sto.step X c s (dPut (n + 1) evs)).1.acc = (Vw.fold s.u s.acc evs).2.2 ∧ (((Sto.step X c s (dPut (n + 1) evs)).1.tail = s.tail ++ [⟨((n + 1 : Nat) : Int), evs⟩] ∧ (s.tail ++ [(⟨((n + 1 : Nat) : Int), evs⟩ : Evt.Bat)]).length < c.b ∧ (Sto.step X c s (dPut (n + 1) evs)).1.segs = s.segs) ∨ ((Sto.step X c s (dPut (n + 1) evs)).1.tail = [] ∧ ¬ (s.tail ++ [(⟨((n + 1 : Nat) : Int), evs⟩ : Evt.Bat)]).length < c.b ∧ (Sto.step X c s (dPut (n + 1) evs)).1.segs = s.segs + 1)) := by
  have hz : ((n + 1 : Nat) : Int) ∉ s.seen := fun z => by
    have := h.seen _ z
    omega
  have hsm : ∀ b, b ∈ s.tail ++ [(⟨((n + 1 : Nat) : Int), evs⟩ : Evt.Bat)] → SmallB b := fun b hb' => by
    rcases List.mem_append.1 hb' with q | q
    · exact h.tail b q
    · rw [List.mem_singleton.1 q]
      exact hb
  have hlen : (s.tail ++ [(⟨((n + 1 : Nat) : Int), evs⟩ : Evt.Bat)]).length ≤ 10 := by
    rw [List.length_append]
    have := h.tl
    have := hc.b10
    show s.tail.length + 1 ≤ 10
    omega
  obtain ⟨e1, e2⟩ := small_enc hsm hlen
  obtain ⟨l1, l2⟩ := laid_comes hX hc (Vw.fold s.u s.acc evs).2 (Nat.le_trans h.segs hn) e2 e1
  have hput : Sto.put X c s (dPut (n + 1) evs) = ((Sto.laid X c s ⟨((n + 1 : Nat) : Int), evs⟩ (Vw.fold s.u s.acc evs).2).2, Sto.told (Vw.fold s.u s.acc evs).2.1) := put_comes (d := dPut (n + 1) evs) hb.1 hz (show (-1 : Int) < 0 by decide) hf l1
  obtain ⟨q1, q2, q3⟩ := Sto.laid_ok l1
  obtain ⟨BL, i1, i2, i3⟩ := h.ok
  obtain ⟨BL', j1, j2, j3⟩ := Sto.put_inv i1 (dPut (n + 1) evs)
  have hw3 := j3 [] i3
  obtain ⟨k1, k2, _⟩ := Vw.fold_keeps hf
  rw [hput] at j1 j2 hw3
  rw [if_pos ⟨rfl, hz⟩, i2] at j2
  rw [Sto.step_put rfl, hput]
  refine ⟨rfl, ⟨⟨BL', j1, j2, hw3⟩, fun x hx => ?_, ?_, ?_, fun b hb' => ?_, ?_, ?_⟩, q2, q3, l2⟩
  · have hx : x ∈ (Sto.laid X c s ⟨((n + 1 : Nat) : Int), evs⟩ (Vw.fold s.u s.acc evs).2).2.seen := hx
    rw [q1] at hx
    rcases Sto.seen_mem hx with z | z
    · have := h.seen x z
      omega
    · rw [z]
      exact Int.le_refl _
  · show Vw.Right (Sto.laid X c s ⟨((n + 1 : Nat) : Int), evs⟩ (Vw.fold s.u s.acc evs).2).2.u (Sto.laid X c s ⟨((n + 1 : Nat) : Int), evs⟩ (Vw.fold s.u s.acc evs).2).2.acc
    rw [q2, q3]
    exact k1
  · show (Sto.laid X c s ⟨((n + 1 : Nat) : Int), evs⟩ (Vw.fold s.u s.acc evs).2).2.u = _
    rw [q2, k2, h.u, List.length_append]
    omega
  · have hb' : b ∈ (Sto.laid X c s ⟨((n + 1 : Nat) : Int), evs⟩ (Vw.fold s.u s.acc evs).2).2.tail := hb'
    rcases l2 with ⟨z, _⟩ | ⟨z, _⟩
    · rw [z] at hb'
      exact hsm b hb'
    · rw [z] at hb'
      cases hb'
  · show (Sto.laid X c s ⟨((n + 1 : Nat) : Int), evs⟩ (Vw.fold s.u s.acc evs).2).2.tail.length < c.b
    rcases l2 with ⟨z, y, _⟩ | ⟨z, _⟩
    · rw [z]
      exact y
    · rw [z]
      exact hc.b1
  · show (Sto.laid X c s ⟨((n + 1 : Nat) : Int), evs⟩ (Vw.fold s.u s.acc evs).2).2.segs ≤ n + 1
    have := h.segs
    rcases l2 with ⟨_, _, z⟩ | ⟨_, _, z⟩ <;> omega
theorem PutS.refused {s : Sto.St} {n : Nat} {es evs : List Evt.Ev} (h : PutS X c s n es) (hb : SmallB ⟨((n + 1 : Nat) : Int), evs⟩) (hf : (Vw.fold s.u s.acc evs).1.1 ≠ 0) :
    Sto.step X c s (dPut (n + 1) evs) = (s, Sto.no (Vw.fold s.u s.acc evs).1.1) ∧ PutS X c s (n + 1) es := by
  have hz : ((n + 1 : Nat) : Int) ∉ s.seen := fun z => by
    have := h.seen _ z
    omega
  rw [Sto.step_put rfl]
  exact ⟨put_fits (d := dPut (n + 1) evs) hb.1 hz (show (-1 : Int) < 0 by decide) hf, ⟨h.ok, fun x hx => by have := h.seen x hx; omega, h.right, h.u, h.tail, h.tl, Nat.le_succ_of_le h.segs⟩⟩
end
/-! ### One event, two events -/
theorem one_ok {u : Int} {l : List Vw.Acc} {e : Evt.Ev} (hr : Vw.Right u l) (hu : u < 150) (hw : Evt.wrongE e = 0) (hm : Vw.may (Vw.get l e.name) e = true) : Vw.fold u l [e] = ((0, 0), u + 1, Vw.put l e) := by
  have ha := Vw.apply_ok (u := u) (l := l) (e := e) (by rw [hr.ok]) hw (by omega) hm
  rw [Vw.fold_else (by rw [hr.ok]), Vw.foldL_next (by rw [ha]), ha]
  rfl
theorem two_any {u : Int} {l : List Vw.Acc} {e f : Evt.Ev} (hr : Vw.Right u l) (hu : u < 149) (hw : Evt.wrongE e = 0) (hm : Vw.may (Vw.get l e.name) e = true) (hw2 : Evt.wrongE f = 0) :
    (Vw.may (Vw.get (Vw.put l e) f.name) f = true → Vw.fold u l [e, f] = ((0, 0), u + 1 + 1, Vw.put (Vw.put l e) f)) ∧ (Vw.may (Vw.get (Vw.put l e) f.name) f = false → (Vw.fold u l [e, f]).1.1 = 8) := by
  have ha := Vw.apply_ok (u := u) (l := l) (e := e) (by rw [hr.ok]) hw (by omega) hm
  have hr2 := Vw.right_put hr hw (by omega)
  rw [Vw.fold_else (by rw [hr.ok]), Vw.foldL_next (by rw [ha]), ha]
  dsimp only
  refine ⟨fun q => ?_, fun q => ?_⟩
  · have hb := Vw.apply_ok (u := u + 1) (l := Vw.put l e) (e := f) (by rw [hr2.ok]) hw2 (by omega) q
    rw [Vw.foldL_next (by rw [hb]), hb]
    rfl
  · have hb := Vw.apply_fit (u := u + 1) (l := Vw.put l e) (e := f) (by rw [hr2.ok]) hw2 (by omega) q
    rw [Vw.foldL_bad (by rw [hb]; decide), hb]
theorem wrong_ev {a : Nat} {k n : Int} (ha : a = 97 ∨ a = 98) (hk : k = 1 ∧ n = 0 ∨ k = 2 ∨ k = 3) (h0 : 0 ≤ n) (h1 : n ≤ 1000000) : Evt.wrongE ⟨[a], k, n⟩ = 0 := by
  refine Evt.wrongE_ok ?_ (fun z => ?_) (fun z => ?_)
  · rcases ha with rfl | rfl
    · exact show Evt.named [97] by decide
    · exact show Evt.named [98] by decide
  · have z : k < 1 ∨ 4 < k := z
    omega
  · have z : n < 0 ∨ 1000000 < n ∨ (0 < n ∧ k ≠ 2 ∧ k ≠ 3) := z
    omega
theorem small_one {a : Nat} {k n : Int} {i : Nat} (hi : 1 ≤ i ∧ i ≤ 1000) (h : Evt.wrongE ⟨[a], k, n⟩ = 0) : SmallB ⟨(i : Int), [⟨[a], k, n⟩]⟩ := by
  refine ⟨?_, ?_⟩
  · rw [Evt.wrongB_else (fun z => by have z : (i : Int) < 1 ∨ 1000000 < (i : Int) := z; omega) (fun z => by have z : 1 = 0 ∨ 10 < 1 := z; omega), Evt.firstE_none]
    intro e he
    rw [List.mem_singleton.1 he]
    exact h
  · exact Nat.le_of_ble_eq_true rfl
theorem small_two {a b : Nat} {k n k' n' : Int} {i : Nat} (hi : 1 ≤ i ∧ i ≤ 1000) (h : Evt.wrongE ⟨[a], k, n⟩ = 0) (h' : Evt.wrongE ⟨[b], k', n'⟩ = 0) : SmallB ⟨(i : Int), [⟨[a], k, n⟩, ⟨[b], k', n'⟩]⟩ := by
  refine ⟨?_, ?_⟩
  · rw [Evt.wrongB_else (fun z => by have z : (i : Int) < 1 ∨ 1000000 < (i : Int) := z; omega) (fun z => by have z : 2 = 0 ∨ 10 < 2 := z; omega), Evt.firstE_none]
    intro e he
    simp only [List.mem_cons, List.not_mem_nil, or_false] at he
    rcases he with rfl | rfl
    · exact h
    · exact h'
  · exact Nat.le_of_ble_eq_true rfl

/-! ### A stream is opened, and added to -/
abbrev evAdd (n : Int) : Evt.Ev := ⟨[97], 2, n⟩
def putsA (Z : Nat → Int) : Nat → List Sto.Do
  | 0 => [dPut 1 [evT1]]
  | k + 1 => putsA Z k ++ [dPut (k + 2) [evAdd (Z k)]]
def evsA (Z : Nat → Int) : Nat → List Evt.Ev
  | 0 => [evT1]
  | k + 1 => evsA Z k ++ [evAdd (Z k)]
theorem putsA_len (Z : Nat → Int) : ∀ k, (putsA Z k).length = k + 1
  | 0 => rfl
  | k + 1 => by
    rw [putsA, List.length_append, putsA_len Z k]
    rfl
theorem evsA_len (Z : Nat → Int) : ∀ k, (evsA Z k).length = k + 1
  | 0 => rfl
  | k + 1 => by
    rw [evsA, List.length_append, evsA_len Z k]
    rfl
section
variable {X : Sto.Six} {c : Sto.Cfg}
theorem steps_one (s : Sto.St) (l : List Sto.Do) (d : Sto.Do) : (Sto.steps X c s (l ++ [d])).1 = (Sto.step X c (Sto.steps X c s l).1 d).1 := by
  rw [Sto.steps_append]
  rfl
theorem putsA_ps (hX : Sto.SixOk X) (hc : CfgOk c) {Z : Nat → Int} {m : Nat} (hm : m ≤ 30) (hz : ∀ k, k < m → 0 ≤ Z k ∧ Z k ≤ 1000000) : ∀ k, k ≤ m → PutS X c (Sto.steps X c (Sto.start c) (putsA Z k)).1 (k + 1) (evsA Z k) ∧ (Vw.get (Sto.steps X c (Sto.start c) (putsA Z k)).1.acc [97]).opn = true
  | 0, _ => by
    have hp := PutS.put (evs := [evT1]) hX hc (ps_start hc) (by decide) (small_one ⟨Nat.le_refl _, by decide⟩ (by decide)) (show (Vw.fold 0 [] [evT1]).1.1 = 0 by decide)
    show PutS X c (Sto.step X c (Sto.start c) (dPut 1 [evT1])).1 1 [evT1] ∧ (Vw.get (Sto.step X c (Sto.start c) (dPut 1 [evT1])).1.acc [97]).opn = true
    exact ⟨hp.2.1, by rw [hp.2.2.2.1]; show (Vw.get (Vw.fold 0 [] [evT1]).2.2 [97]).opn = true; decide⟩
  | k + 1, hk => by
    obtain ⟨h1, h2⟩ := putsA_ps hX hc hm hz k (by omega)
    obtain ⟨n1, n2⟩ := hz k (by omega)
    have hw : Evt.wrongE (evAdd (Z k)) = 0 := wrong_ev (Or.inl rfl) (Or.inr (Or.inl rfl)) n1 n2
    have hu := h1.u
    rw [evsA_len] at hu
    have hf := one_ok h1.right (by omega) hw (show Vw.may (Vw.get _ [97]) (evAdd (Z k)) = true by
      unfold Vw.may
      rw [if_neg (show ¬ (2 : Int) = 1 by decide), if_pos (Or.inl rfl)]
      exact h2)
    have hp := PutS.put (evs := [evAdd (Z k)]) hX hc h1 (by omega) (small_one ⟨by omega, by omega⟩ hw) (by rw [hf])
    rw [putsA, steps_one, evsA]
    refine ⟨hp.2.1, ?_⟩
    rw [hp.2.2.2.1, hf, Vw.get_put _ h1.right.srt, if_pos rfl]
    exact h2
end

end Go.Proofs.YtleekmmoanlpfaaGreat
