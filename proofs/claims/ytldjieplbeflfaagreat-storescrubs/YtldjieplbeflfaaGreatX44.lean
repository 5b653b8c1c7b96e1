/-
  Texts of the proof, joined: HKeepL.
-/
import Derived.Test.YtldjieplbeflfaaGreatX42
import Derived.Test.YtldjieplbeflfaaGreatX28
import Derived.Test.YtldjieplbeflfaaGreatX29
import Derived.Test.YtldjieplbeflfaaGreatX12
namespace Go.Proofs.YtldjieplbeflfaaGreat
open Evt (Ev Bat)

theorem cnt_filter (M : Nat → Bool) : ∀ N, ((List.range N).filter M).length = cnt M N
  | 0 => rfl
  | N + 1 => by
    rw [List.range_succ, List.filter_append, List.length_append, cnt_filter M N]
    show _ + ([N].filter M).length = cnt M N + if M N then 1 else 0
    by_cases q : M N = true
    · simp [q]
    · simp [q]
theorem mem_few {M : Nat → Bool} {N x : Nat} : x ∈ (List.range N).filter M ↔ x < N ∧ M x = true := by
  rw [List.mem_filter, List.mem_range]

/-! ### What was told, one thing more -/
theorem told_append : ∀ (a b : List (Sto.Do × Sto.Ans)) (cm : List Int), Sto.toldOf (a ++ b) cm = Sto.toldOf a cm ++ Sto.toldOf b (a.foldl (fun cm x => Sto.cmds x.1 x.2 cm) cm)
  | [], _, _ => rfl
  | (d, a) :: r, b, cm => by
    rw [List.cons_append, Sto.told_cons, Sto.told_cons, told_append r b, List.append_assoc]
    rfl
section
variable {X : Sto.Six} {c : Sto.Cfg} {l : List Sto.Do} {k : Nat} {d : Sto.Do} {M M' : Nat → Bool}
def stK (X : Sto.Six) (c : Sto.Cfg) (l : List Sto.Do) (k : Nat) : Sto.St := (Sto.steps X c (Sto.start c) (l.take k)).1
def zipK (X : Sto.Six) (c : Sto.Cfg) (l : List Sto.Do) (k : Nat) : List (Sto.Do × Sto.Ans) := (l.zip (Sto.steps X c (Sto.start c) l).2).take k
def toldK (X : Sto.Six) (c : Sto.Cfg) (l : List Sto.Do) (k : Nat) : List Ev := Sto.toldOf (zipK X c l k) []
def cmK (X : Sto.Six) (c : Sto.Cfg) (l : List Sto.Do) (k : Nat) : List Int := (zipK X c l k).foldl (fun cm x => Sto.cmds x.1 x.2 cm) []
theorem ansK (hd : l[k]? = some d) : (Sto.steps X c (Sto.start c) l).2[k]? = some (Sto.step X c (stK X c l k) d).2 := Sto.steps_at hd
theorem stK_next (hd : l[k]? = some d) : stK X c l (k + 1) = (Sto.step X c (stK X c l k) d).1 := Sto.steps_next hd
theorem zipK_next (hd : l[k]? = some d) : zipK X c l (k + 1) = zipK X c l k ++ [(d, (Sto.step X c (stK X c l k) d).2)] := by
  unfold zipK
  have hz : (l.zip (Sto.steps X c (Sto.start c) l).2)[k]? = some (d, (Sto.step X c (stK X c l k) d).2) := List.getElem?_zip_eq_some.2 ⟨hd, ansK hd⟩
  rw [List.take_add_one, hz]
  rfl
/-- Those that M strikes were hurt; of the others all is as it was laid. -/
structure KW (X : Sto.Six) (c : Sto.Cfg) (l : List Sto.Do) (k : Nat) (M : Nat → Bool) : Prop where
  ok : ∃ BL, Sto.Inv X c (stK X c l k) BL (hads (l.take k) []) ∧ toldK X c l k = Sto.evsOf BL.flatten ++ Sto.evsOf (stK X c l k).tail ∧ Sto.Agrees (stK X c l k) (toldK X c l k) (cmK X c l k) ∧ Sto.Whole X c (stK X c l k) BL ((List.range (c.d + c.s)).filter M)
theorem KW.next (hg : Sto.Good X c) (h : KW X c l k M) (hd : l[k]? = some d) (hb : d.turn < 256) (ho : d.kind = 7 ∧ d.turn ≠ 0 → (d.n, d.seg) ∉ hads (l.take k) []) (hs : cnt M (c.d + c.s) ≤ c.s) (hm : ∀ x, x ∈ Sto.hurtOf X c (stK X c l k) d ((List.range (c.d + c.s)).filter M) → x < c.d + c.s → M' x = true) : KW X c l (k + 1) M' := by
  obtain ⟨BL, i1, i2, i3, i4⟩ := h.ok
  obtain ⟨BL', q1, q2, q3, q4⟩ := Sto.step_inv hg i1 d hb ho
  have hag := Sto.step_agrees (X := X) (c := c) i3 d
  have hto : toldK X c l (k + 1) = toldK X c l k ++ Sto.adds X c (stK X c l k) d := by
    unfold toldK
    rw [zipK_next hd, told_append]
    show _ ++ Sto.toldOf [(d, _)] (cmK X c l k) = _
    rw [Sto.told_cons, Sto.adds_told i3]
    show _ ++ (_ ++ []) = _
    rw [List.append_nil]
  have hcm : cmK X c l (k + 1) = Sto.cmds d (Sto.step X c (stK X c l k) d).2 (cmK X c l k) := by
    unfold cmK
    rw [zipK_next hd, List.foldl_append]
    rfl
  refine ⟨BL', ?_, ?_, ?_, ?_⟩
  · rw [stK_next hd, hads_next hd]
    exact q1
  · rw [stK_next hd, hto, q2, i2]
  · rw [stK_next hd, hto, hcm]
    exact hag
  · rw [stK_next hd]
    have hl : (Sto.step X c (stK X c l k) d).1.disks.length = c.d + c.s := q1.dl
    have hw : Sto.Whole X c (Sto.step X c (stK X c l k) d).1 BL' (Sto.hurtOf X c (stK X c l k) d ((List.range (c.d + c.s)).filter M)) := by
      by_cases k1 : d.kind = 1
      · have e : Sto.hurtOf X c (stK X c l k) d ((List.range (c.d + c.s)).filter M) = (List.range (c.d + c.s)).filter M := by
          unfold Sto.hurtOf
          rw [if_neg (by omega), if_neg (by omega)]
        rw [e]
        exact q3 k1 _ i4
      · rw [q4 k1]
        exact (Sto.step_whole hg i1 i4 (by rw [cnt_filter]; exact hs) d k1).1
    intro i x hx hn
    refine hw i x hx fun z => hn (mem_few.2 ?_)
    have hi : i < c.d + c.s := by
      rw [← hl]
      exact (List.getElem?_eq_some_iff.1 hx).1
    exact ⟨hi, hm i z hi⟩
/-- What is asked is told; a scrub mends all. -/
theorem KW.told (hg : Sto.Good X c) (h : KW X c l k M) (hs : cnt M (c.d + c.s) ≤ c.s) : Sto.Answers d (Sto.step X c (stK X c l k) d).2 (toldK X c l k) := by
  obtain ⟨BL, i1, i2, i3, i4⟩ := h.ok
  by_cases q : d.kind = 2 ∨ d.kind = 3 ∨ d.kind = 4
  · have e : Sto.step X c (stK X c l k) d = (stK X c l k, Sto.looks X c (stK X c l k) d) := by
      unfold Sto.step
      rw [if_neg (by omega), if_pos q]
    rw [e]
    have ha := Sto.all_kept hg i1 i4 (by rw [cnt_filter]; exact hs)
    rw [← i2] at ha
    exact Sto.looks_ok ha i3.ok
  · exact Sto.answers_else q _ _
theorem KW.scrub (hg : Sto.Good X c) (h : KW X c l k M) (hs : cnt M (c.d + c.s) ≤ c.s) (k8 : d.kind = 8) : (Sto.step X c (stK X c l k) d).2.err = 0 := by
  obtain ⟨BL, i1, i2, i3, i4⟩ := h.ok
  exact (Sto.step_whole hg i1 i4 (by rw [cnt_filter]; exact hs) d (by omega)).2 k8
end

end Go.Proofs.YtldjieplbeflfaaGreat
