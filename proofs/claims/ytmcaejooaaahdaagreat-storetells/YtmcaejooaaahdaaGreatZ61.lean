/-
  Texts of the proof, joined: ERefP, ERefPA.
-/
import Derived.Test.YtmcaejooaaahdaaGreatZ16
import Derived.Deep.Cut
import Derived.Deep.CutRange
import Derived.Deep.CutBlock
namespace Go.Proofs.YtmcaejooaaahdaaGreat
open Go.RowKit

theorem Tryz.enters_num : ∀ args w, (callFunc 98 args).run Tryz.prog w = .ok (.enter 98 args) w := enters_of Tryz.func98 (by kernel_rfl) rfl

/-- A batch in the making: its number, its events' value, their cells. -/
abbrev BatC := Int × Value × List EvC
def pr (t : BatC) : Int × Value := (t.1, t.2.1)
def batOf (t : BatC) : Evt.Bat := ⟨t.1, t.2.2.map evOf⟩
/-- Where the outer loop stands. -/
def OS (W0 w : World) (v : Value) (g : Nat → Nat) (N n : Nat) (vo : Value) (i : Nat) : Prop :=
  ∃ (L : List BatC) (A : Nat) (ok : Bool), BBuf w (W0.heap.size + 3) vo (L.map pr) ∧ (∀ t, t ∈ L → EBuf w (W0.heap.size + 3) t.2.1 t.2.2) ∧ PS W0 w v N A ok ∧ i ≤ n ∧ L.length = i ∧ (ok = true → A ≤ 1 + i * 70000) ∧
    ((ok = true ∧ Evt.getBs n ((bl g N).drop 1) = joinB (L.map batOf) (Evt.getBs (n - i) ((bl g N).drop A))) ∨ (ok = false ∧ Evt.getBs n ((bl g N).drop 1) = none))

theorem getL_bad {r r' : List Nat} {n : Nat} (h : Evt.num 1 0 r = some (n, r')) (h2 : Evt.getBs n r' = none) : Evt.parseE r = 2 ∧ Evt.parse r = [] := by
  have : Evt.getL r = none := by
    unfold Evt.getL
    rw [h]
    show (match Evt.getBs n r' with | none => none | some (l, r) => if r = [] then some l else none) = none
    rw [h2]
  unfold Evt.parseE Evt.parse
  rw [this]
  exact ⟨rfl, rfl⟩
theorem getL_long {r r' r2 : List Nat} {n : Nat} {l : List Evt.Bat} (h : Evt.num 1 0 r = some (n, r')) (h2 : Evt.getBs n r' = some (l, r2)) (h3 : r2 ≠ []) : Evt.parseE r = 2 ∧ Evt.parse r = [] := by
  have : Evt.getL r = none := by
    unfold Evt.getL
    rw [h]
    show (match Evt.getBs n r' with | none => none | some (l, r) => if r = [] then some l else none) = none
    rw [h2]
    exact if_neg h3
  unfold Evt.parseE Evt.parse
  rw [this]
  exact ⟨rfl, rfl⟩
theorem getL_good {r r' : List Nat} {n : Nat} {l : List Evt.Bat} (h : Evt.num 1 0 r = some (n, r')) (h2 : Evt.getBs n r' = some (l, [])) : Evt.parseE r = (Evt.wrongL l).1 ∧ Evt.parse r = if (Evt.wrongL l).1 = 0 then l else [] := by
  have : Evt.getL r = some l := by
    unfold Evt.getL
    rw [h]
    show (match Evt.getBs n r' with | none => none | some (l, r) => if r = [] then some l else none) = _
    rw [h2]
    exact if_pos rfl
  unfold Evt.parseE Evt.parse
  rw [this]
  exact ⟨rfl, rfl⟩
theorem owns_lowP {w : World} {N M : Nat} {t : TypeId} {s : Nat} {v : Value} {n : Nat} {xs : List Value} (h : w.ownsRow N t s v n xs) (hM : M ≤ N) : w.ownsRow M t s v n xs := by
  obtain ⟨hl, h⟩ := h
  refine ⟨hl, h.imp id ?_⟩
  rintro ⟨g, cap, cur, rfl, hN, hr⟩
  exact ⟨g, cap, cur, rfl, Nat.le_trans hM hN, hr⟩
theorem ev_end {g : Nat → Nat} {N A3 A4 lg kd A6 nm A7 : Nat} {ok4 ok6 ok7 : Bool} {S : ByteArray} (hg : Bd g) (h6 : (ok4 = true ∧ A4 = A3 + 1 ∧ lg = g A3 ∧ A3 + 1 ≤ N) ∨ (ok4 = false ∧ A4 = N ∧ lg = 0 ∧ N ≤ A3))
    (h9 : (ok6 = true ∧ ok4 = true ∧ A6 = A4 + lg + 1 ∧ A4 + lg + 1 ≤ N ∧ kd = g (A4 + lg)) ∨ (ok6 = false ∧ A6 = N ∧ (ok4 = true → N < A4 + lg + 1))) (h0 : (ok7 = true ∧ ok6 = true ∧ A7 = A6 + 3 ∧ A6 + 3 ≤ N ∧ nm = numV g A6 3) ∨ (ok7 = false ∧ (ok6 = true → N < A6 + 3))) (hS : S = strB (fun k => g (A4 + k)) lg) :
    (ok7 = true ∧ Evt.getE ((bl g N).drop A3) = some (evOf (S, (kd : Int), (nm : Int)), (bl g N).drop A7) ∧ A7 ≤ A3 + 260) ∨ (ok7 = false ∧ Evt.getE ((bl g N).drop A3) = none) := by
  have hg3 := hg A3
  rcases h0 with ⟨q1, q2, q3, q4, q5⟩ | ⟨q1, q2⟩
  · rcases h9 with ⟨_, r2, r3, r4, r5⟩ | ⟨r1, _⟩
    · rcases h6 with ⟨_, s2, s3, s4⟩ | ⟨s1, _⟩
      · refine Or.inl ⟨q1, ?_, by omega⟩
        have e1 : A6 = A3 + 2 + g A3 := by omega
        have e2 : A7 = A3 + 5 + g A3 := by omega
        rw [getE_some (by omega), e2, q5, e1, r5, s3, s2]
        have e3 : nb S = nameAt g A3 := by
          rw [hS, nb_strB (fun k => hg _), s3, s2]
          rfl
        show _ = some ((⟨nb S, _, _⟩ : Evt.Ev), _)
        rw [e3]
      · rw [r2] at s1
        cases s1
    · rw [q2] at r1
      cases r1
  · refine Or.inr ⟨q1, getE_none ?_⟩
    rcases h6 with ⟨s1, s2, s3, s4⟩ | ⟨s1, s2, s3, s4⟩
    · rcases h9 with ⟨r1, r2, r3, r4, r5⟩ | ⟨r1, r2, r3⟩
      · have := q2 r1
        omega
      · have := r3 s1
        omega
    · exact Or.inr s4
theorem inner_bad {g : Nat → Nat} {N A A2 m c : Nat} {ok2 : Bool} (h : (ok2 = true ∧ A2 = A + 4 ∧ A + 4 ≤ N ∧ c = numV g A 3 ∧ m = g (A + 3)) ∨ (ok2 = false ∧ A2 = N ∧ m = 0 ∧ N < A + 4)) (h2 : ok2 = true → Evt.getEs m ((bl g N).drop A2) = none) : Evt.getB ((bl g N).drop A) = none := by
  rcases h with ⟨h1, rfl, h3, _, h5⟩ | ⟨_, _, _, h4⟩
  · rw [getB_drop h3 h5.symm, h2 h1]
  · exact getB_none h4
theorem inner_end {g : Nat → Nat} {N A A2 A3 m c : Nat} {ok2 ok3 : Bool} {es : List EvC} (h : (ok2 = true ∧ A2 = A + 4 ∧ A + 4 ≤ N ∧ c = numV g A 3 ∧ m = g (A + 3)) ∨ (ok2 = false ∧ A2 = N ∧ m = 0 ∧ N < A + 4))
    (h2 : (ok3 = true ∧ ok2 = true ∧ Evt.getEs m ((bl g N).drop A2) = joinE (es.map evOf) (Evt.getEs (m - m) ((bl g N).drop A3))) ∨ (ok3 = false ∧ (ok2 = true → Evt.getEs m ((bl g N).drop A2) = none))) :
    (ok3 = true ∧ Evt.getB ((bl g N).drop A) = some (⟨(c : Nat), es.map evOf⟩, (bl g N).drop A3)) ∨ (ok3 = false ∧ Evt.getB ((bl g N).drop A) = none) := by
  rcases h2 with ⟨q1, q2, q3⟩ | ⟨q1, q2⟩
  · rcases h with ⟨h1, rfl, h3, rfl, h5⟩ | ⟨h1, _⟩
    · refine Or.inl ⟨q1, ?_⟩
      rw [getB_drop h3 h5.symm, q3, Nat.sub_self]
      show some ((⟨((numV g A 3 : Nat) : Int), es.map evOf ++ []⟩ : Evt.Bat), (bl g N).drop A3) = _
      rw [List.append_nil]
    · rw [q2] at h1
      cases h1
  · exact Or.inr ⟨q1, inner_bad h q2⟩

end Go.Proofs.YtmcaejooaaahdaaGreat

namespace Go.Proofs.YtmcaejooaaahdaaGreat
open Go.RowKit

set_option maxHeartbeats 400000 in
theorem num_none (X : Option Addr) (C : Nat) (W0 w : World) (h : PS W0 w (.slice X 0 C) 0 0 true) :
    Calls Tryz.prog 98 #[.int .i64 1, .pointer (some ⟨W0.heap.size + 1, 0, none⟩), .pointer (some ⟨W0.heap.size, 0, none⟩), .pointer (some ⟨W0.heap.size + 1 + 1, 0, none⟩)] w fun e w' => e = .returned (.int .i64 0) ∧ PS W0 w' (.slice X 0 C) 0 0 false := by
  have HP : Hid (PS W0 (w.setCell ⟨W0.heap.size + 1 + 1, 0, none⟩ (.bool false)) (.slice X 0 C) 0 0 false) := h.setNo
  have c0 : w.cell? ⟨W0.heap.size + 1, 0, none⟩ = some (.int .i64 0) := h.at_
  have c1 := h.b_
  have c2 := h.ok_
  have f1 := h.fo
  clear h
  go_enter Tryz.func98, Tryz.ntmps98
  go_wp2_with fail
  refine wp_loop_rounds 1 ?_
  rw [rounds_succ]
  go_wp2_with fail
  go_ret
  exact ⟨rfl, HP.out⟩

theorem parse_empty (g : Nat → Nat) : Evt.parseE (bl g 0) = 2 ∧ Evt.parse (bl g 0) = [] := ⟨rfl, rfl⟩

end Go.Proofs.YtmcaejooaaahdaaGreat
