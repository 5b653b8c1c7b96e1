/-
  Of any three matrices it is no matter which two are multiplied first: where both first products are told, both whole products are told, and are the same. No condition.
-/
import Derived.Test.YtbidimaljeblgabRows
import Derived.Test.YtbidimaljeblgabOpen
import Derived.Test.YtbidimaljeblgabAlive
import Derived.ProofKit
import Derived.OpenShut
import Derived.Carry
namespace Go.Proofs.Ytbidimaljeblgab.gridThree
open Go.ChangeShapes Go.WideShapes Go.ChangeAt Go.RowKit
set_option linter.unusedVariables false

theorem own : ownKnob Try.prog.godebug = none := by kernel_rfl

set_option maxHeartbeats 1000000 in
theorem walk (w : World) (v0 : Value) (n0 : Nat) (L0 : Nat → Nat) (f0 : Nat → Nat → Nat) (g0 : Arg w v0 n0 L0 f0) (v1 : Value) (n1 : Nat) (L1 : Nat → Nat) (f1 : Nat → Nat → Nat) (g1 : Arg w v1 n1 L1 f1) (v2 : Value) (n2 : Nat) (L2 : Nat → Nat) (f2 : Nat → Nat → Nat) (g2 : Arg w v2 n2 L2 f2) :
    Calls Try.prog 3 #[v0, v1, v2] w fun e w' => e = .returned (.bool true) ∧ Below w.heap.size w w' := by
  by_cases h1 : mulE n0 L0 n1 L1 = 0
  · by_cases h2 : mulE n1 L1 n2 L2 = 0
    · obtain ⟨ok0, ok1, e01⟩ := mulE_zero h1
      obtain ⟨_, ok2, e12⟩ := mulE_zero h2
      have m0 := g0.mx ok0
      have m2 := g2.mx ok2
      go_enter Try.func3, Try.ntmps3
      go_wp2_with fail
      refine (alive2_any _).mono ?_
      rintro e u1 ⟨rfl, b1⟩
      go_wp2_with fail
      refine (mulM_good v0 v1 n0 n1 L0 L1 f0 f1 _ (g0.below b1) (g1.below b1) h1).mono ?_
      rintro e u2 ⟨x, rfl, hx, b2⟩
      have b2 := bt b1 b2
      go_wp2_with fail
      refine (mulM_good v1 v2 n1 n2 L1 L2 f1 f2 _ (g1.below b2) (g2.below b2) h2).mono ?_
      rintro e u3 ⟨y, rfl, hy, b3⟩
      have hx := hx.below b3
      have b3 := bt b2 b3
      go_wp2_with fail
      refine (mulM_ok x v2 n0 (L1 0) n2 (L2 0) _ f2 _ hx (m2.below b3) e12).mono ?_
      rintro e u4 ⟨p, rfl, hp, b4⟩
      have hy := hy.below b4
      have b4 := bt b3 b4
      go_wp2_with fail
      refine (mulM_ok v0 y n0 (L0 0) n1 (L2 0) f0 _ _ (m0.below b4) hy e01).mono ?_
      rintro e u5 ⟨q, rfl, hq, b5⟩
      have hp := hp.below b5
      have b5 := bt b4 b5
      go_wp2_with fail
      refine (same_any p q n0 (L2 0) _ _ _ hp hq (fun r _ k _ => ?_)).mono ?_
      · rw [e12, e01]
        exact Gf.mm_assoc g0.bd g1.bd f2 n1 n2 r k
      rintro e u6 ⟨rfl, b6⟩
      have b6 := bt b5 b6
      clear hp hq hx hy m0 m2 g0 g1 g2
      go_wp2_with fail
      go_ret
      exact ⟨rfl, b6⟩
    · have hz : ((mulE n1 L1 n2 L2 : Int) == 0) = false := by rw [beq_eq_false_iff_ne]; omega
      go_enter Try.func3, Try.ntmps3
      go_wp2_with fail
      refine (alive2_any _).mono ?_
      rintro e u1 ⟨rfl, b1⟩
      go_wp2_with fail
      refine (mulM_good v0 v1 n0 n1 L0 L1 f0 f1 _ (g0.below b1) (g1.below b1) h1).mono ?_
      rintro e u2 ⟨x, rfl, hx, b2⟩
      have b2 := bt b1 b2
      go_wp2_with fail
      refine (mulM_bad v1 v2 n1 n2 L1 L2 f1 f2 _ (g1.below b2) (g2.below b2) h2).mono ?_
      rintro e u3 ⟨rfl, b3⟩
      have b3 := bt b2 b3
      clear hx g0 g1 g2 h1 h2
      go_wp2_with fail
      go_ret
      exact ⟨rfl, b3⟩
  · have hz : ((mulE n0 L0 n1 L1 : Int) == 0) = false := by rw [beq_eq_false_iff_ne]; omega
    have hzn : ((mulE n0 L0 n1 L1 : Int) != 0) = true := by rw [bne, hz]; rfl
    go_enter Try.func3, Try.ntmps3
    go_wp2_with fail
    refine (alive2_any _).mono ?_
    rintro e u1 ⟨rfl, b1⟩
    go_wp2_with fail
    refine (mulM_bad v0 v1 n0 n1 L0 L1 f0 f1 _ (g0.below b1) (g1.below b1) h1).mono ?_
    rintro e u2 ⟨rfl, b2⟩
    have b2 := bt b1 b2
    by_cases h2 : mulE n1 L1 n2 L2 = 0
    · go_wp2_with fail
      refine (mulM_good v1 v2 n1 n2 L1 L2 f1 f2 _ (g1.below b2) (g2.below b2) h2).mono ?_
      rintro e u3 ⟨y, rfl, hy, b3⟩
      have b3 := bt b2 b3
      clear hy g0 g1 g2 h1 h2
      go_wp2_with fail
      go_ret
      exact ⟨rfl, b3⟩
    · have hz2 : ((mulE n1 L1 n2 L2 : Int) == 0) = false := by rw [beq_eq_false_iff_ne]; omega
      go_wp2_with fail
      refine (mulM_bad v1 v2 n1 n2 L1 L2 f1 f2 _ (g1.below b2) (g2.below b2) h2).mono ?_
      rintro e u3 ⟨rfl, b3⟩
      have b3 := bt b2 b3
      clear g0 g1 g2 h1 h2
      go_wp2_with fail
      go_ret
      exact ⟨rfl, b3⟩

set_option maxRecDepth 100000 in
theorem lifted (os : Os) (started : os.Started) (H : Type) (enc : TypeId × Value → H) :
    ReturnsInHanded {} Try.checked os 3 .any (Rows.gridThreeSpec.pre6 enc Try.prog Try.f3 Rows.gridThreeRow.domain false) (Rows.gridThreeSpec.post enc Try.prog Try.f3 false true false false) := by
  refine returnsInHanded_of_change (C := Try.checked) own started (by kernel_rfl) Try.func3
    (ChangeSpec.witness6 (enc := enc) (C := Try.checked) false ⟨#[], #[.slice none 0 0, .slice none 0 0, .slice none 0 0], []⟩ 8 (by kernel_rfl) (by kernel_rfl) (by kernel_rfl) (by kernel_rfl)) ?_
  intro W base args ds gs before hval0 hW hcnd _
  have hval : ∀ (j : Nat) t v, Try.f3.params[j]? = some t → args[j]? = some v → Value.okWide Try.prog W .any base t v := hval0
  have hW' := hW
  obtain ⟨p, q, hA0, hV, rfl, hfz, hnd⟩ := hW
  have hA : DataW.TrodAll enc Try.prog W 0 (fun _ => true) true Try.f3.params.toList args.toList ds p := hA0
  rw [Try.params3] at hA hval
  obtain ⟨v0, vs0, d0, ds0, p0, q0, hargs, rfl, rfl, h0, r0⟩ := trodAll_cons hA
  obtain ⟨v1, vs1, d1, ds1, p1, q1, rfl, rfl, rfl, h1, r1⟩ := trodAll_cons r0
  obtain ⟨v2, vs2, d2, ds2, p2, q2, rfl, rfl, rfl, h2, r2⟩ := trodAll_cons r1
  obtain ⟨rfl, rfl, rfl⟩ := trodAll_nil r2
  obtain rfl : args = #[v0, v1, v2] := by cases args; simp_all
  obtain ⟨rfl, rfl⟩ := trodVars_none hV
  obtain ⟨a0, l0, c0, rfl⟩ := okWide_slice Try.underlying23 (hval 0 23 v0 rfl rfl)
  have k0 := h0
  have lt0 : ∀ x ∈ p0, x.block < W.heap.size := by obtain ⟨m, hm⟩ := k0; exact DataW.trod_lt m _ _ _ hm
  obtain ⟨L0, f0, g0⟩ := arg_of h0
  obtain ⟨a1, l1, c1, rfl⟩ := okWide_slice Try.underlying23 (hval 1 23 v1 rfl rfl)
  have k1 := h1
  have lt1 : ∀ x ∈ p1, x.block < W.heap.size := by obtain ⟨m, hm⟩ := k1; exact DataW.trod_lt m _ _ _ hm
  obtain ⟨L1, f1, g1⟩ := arg_of h1
  obtain ⟨a2, l2, c2, rfl⟩ := okWide_slice Try.underlying23 (hval 2 23 v2 rfl rfl)
  have k2 := h2
  have lt2 : ∀ x ∈ p2, x.block < W.heap.size := by obtain ⟨m, hm⟩ := k2; exact DataW.trod_lt m _ _ _ hm
  obtain ⟨L2, f2, g2⟩ := arg_of h2
  clear hA0 hval0
  refine (walk W _ _ L0 f0 g0 _ _ L1 f1 g1 _ _ L2 f2 g2).mono fun e W' ⟨he, bel⟩ => ?_
  subst he
  exact ⟨_, rfl, _, _, _, [], _, [], hW', trodAll_mk1 (shut_bool Try.underlying4 _), (trodAll_cons_mk (Below.trod Try.laidOut (by kernel_rfl) (of_decide_eq_true (by kernel_rfl)) k0 bel lt0) (trodAll_cons_mk (Below.trod Try.laidOut (by kernel_rfl) (of_decide_eq_true (by kernel_rfl)) k1 bel lt1) (trodAll_cons_mk (Below.trod Try.laidOut (by kernel_rfl) (of_decide_eq_true (by kernel_rfl)) k2 bel lt2) trodAll_mk0))), rfl, bel.frame _, fun h => by cases h⟩

theorem over : Rows.gridThreeRow.holds Try.pinned (OpenSpec.ofChange Rows.gridThreeSpec) :=
  OpenClaim.holds_of_wide 3 Try.f3 rfl rfl rfl rfl rfl rfl rfl ⟨rfl, rfl, rfl, rfl, rfl⟩ rfl rfl rfl rfl rfl (by kernel_rfl) Try.func3 (by kernel_rfl)
    (of_decide_eq_true (by kernel_rfl)) (by unfold Func.isWrapper; first | (rw [if_pos (by decide +kernel)]; kernel_rfl) | (rw [if_neg (by decide +kernel)]; exact ⟨rfl, rfl⟩))
    (fun os started H enc _ => lifted os started H enc)
end Go.Proofs.Ytbidimaljeblgab.gridThree

namespace Go.Proofs.Ytbidimaljeblgab
theorem gridThree_holds : Rows.GridThreeSaid := gridThree.over
#print axioms gridThree_holds
end Go.Proofs.Ytbidimaljeblgab
