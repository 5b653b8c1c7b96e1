/-
  Whatever matrices and number there are: what grid's Wrong, One, Mul and Invert tell is what the document's own text tells. No condition.
-/
import Derived.Test.YtbidimaljeblgaaRows
import Derived.Test.YtbidimaljeblgaaTells
import Derived.ProofKit
import Derived.OpenShut
import Derived.Carry
namespace Go.Proofs.Ytbidimaljeblgaa.gridTells
open Go.ChangeShapes Go.WideShapes Go.ChangeAt Go.RowKit
set_option linter.unusedVariables false

theorem own : ownKnob Try.prog.godebug = none := by kernel_rfl

set_option maxHeartbeats 1000000 in
theorem walk (w : World) (v0 : Value) (n0 : Nat) (L0 : Nat → Nat) (f0 : Nat → Nat → Nat) (g0 : Arg w v0 n0 L0 f0) (v1 : Value) (n1 : Nat) (L1 : Nat → Nat) (f1 : Nat → Nat → Nat) (g1 : Arg w v1 n1 L1 f1) (i : Int) (wi : (Lit.int .i64 i).wf = true) :
    Calls Try.prog 7 #[v0, v1, .int .i64 i] w fun e w' => e = .returned (.bool true) ∧ Below w.heap.size w w' := by
  have hw1 := fun w' hb' => wrong_any v0 n0 L0 f0 w' (g0.below (w' := w') hb')
  have hw2 := fun w' hb' => refWrong_any v0 n0 L0 f0 w' (g0.below (w' := w') hb')
  have hm1 := fun w' hb' => mulO v0 v1 n0 n1 L0 L1 f0 f1 w' (g0.below (w' := w') hb') (g1.below hb')
  have hm2 := fun w' hb' => refMulO v0 v1 n0 n1 L0 L1 f0 f1 w' (g0.below (w' := w') hb') (g1.below hb')
  have hu1 := fun w' hb' => undO v0 n0 L0 f0 w' (g0.below (w' := w') hb')
  have hu2 := fun w' hb' => refUndO v0 n0 L0 f0 w' (g0.below (w' := w') hb')
  have ho1 := oneO i
  have ho2 := refOneO i
  generalize wrongE n0 L0 = E0 at hw1 hw2
  generalize mulE n0 L0 n1 L1 = E1 at hm1 hm2
  generalize oneE i = E2 at ho1 ho2
  clear g0 g1
  go_enter Try.func7, Try.ntmps7
  go_wp2_with fail
  refine (hw1 _ (Below.refl _ _)).mono ?_
  rintro e u1 ⟨rfl, b1⟩
  go_wp2_with fail
  refine (hw2 _ b1).mono ?_
  rintro e u2 ⟨rfl, b2⟩
  have b2 := bt b1 b2
  clear hw1 hw2 b1
  go_wp2_with fail
  refine (ho1 _).mono ?_
  rintro e u3 ⟨x3, rfl, o3, b3⟩
  have b3 := bt b2 b3
  clear b2
  go_wp2_with fail
  refine (ho2 _).mono ?_
  rintro e u4 ⟨x4, rfl, o4, b4⟩
  have o3 := o3.below b4
  have b4 := bt b3 b4
  clear b3 ho1 ho2
  go_wp2_with fail
  refine (sameO x3 x4 E2 _ _ _ _ _ o3 o4 (fun _ _ _ _ _ => rfl)).mono ?_
  rintro e u5 ⟨rfl, b5⟩
  have b5 := bt b4 b5
  clear b4 o3 o4
  go_wp2_with fail
  refine (hm1 _ b5).mono ?_
  rintro e u6 ⟨x6, rfl, o6, b6⟩
  have b6 := bt b5 b6
  clear b5
  go_wp2_with fail
  refine (hm2 _ b6).mono ?_
  rintro e u7 ⟨x7, rfl, o7, b7⟩
  have o6 := o6.below b7
  have b7 := bt b6 b7
  clear b6 hm1 hm2
  go_wp2_with fail
  refine (sameO x6 x7 E1 _ _ _ _ _ o6 o7 (fun _ _ _ _ _ => rfl)).mono ?_
  rintro e u8 ⟨rfl, b8⟩
  have b8 := bt b7 b8
  clear b7 o6 o7
  go_wp2_with fail
  refine (hu1 _ b8).mono ?_
  rintro e u9 ⟨x9, E9, r9, rfl, o9, q9, b9⟩
  have b9 := bt b8 b9
  clear b8
  go_wp2_with fail
  refine (hu2 _ b9).mono ?_
  rintro e u10 ⟨x10, E10, r10, rfl, o10, q10, b10⟩
  have o9 := o9.below b10
  have b10 := bt b9 b10
  obtain ⟨rfl, hs⟩ := q9.same q10
  clear b9 hu1 hu2 q9 q10
  go_wp2_with fail
  refine (sameO x9 x10 E9 _ _ _ _ _ o9 o10 hs).mono ?_
  rintro e u11 ⟨rfl, b11⟩
  have b11 := bt b10 b11
  go_wp2_with fail
  go_ret
  exact ⟨rfl, b11⟩

set_option maxRecDepth 100000 in
theorem lifted (os : Os) (started : os.Started) (H : Type) (enc : TypeId × Value → H) :
    ReturnsInHanded {} Try.checked os 7 .any (Rows.gridTellsSpec.pre6 enc Try.prog Try.f7 Rows.gridTellsRow.domain false) (Rows.gridTellsSpec.post enc Try.prog Try.f7 false true false false) := by
  refine returnsInHanded_of_change (C := Try.checked) own started (by kernel_rfl) Try.func7
    (ChangeSpec.witness6 (enc := enc) (C := Try.checked) false ⟨#[], #[.slice none 0 0, .slice none 0 0, .int .i64 0], []⟩ 8 (by kernel_rfl) (by kernel_rfl) (by kernel_rfl) (by kernel_rfl)) ?_
  intro W base args ds gs before hval0 hW hcnd _
  have hval : ∀ (j : Nat) t v, Try.f7.params[j]? = some t → args[j]? = some v → Value.okWide Try.prog W .any base t v := hval0
  have hW' := hW
  obtain ⟨p, q, hA0, hV, rfl, hfz, hnd⟩ := hW
  have hA : DataW.TrodAll enc Try.prog W 0 (fun _ => true) true Try.f7.params.toList args.toList ds p := hA0
  rw [Try.params7] at hA hval
  obtain ⟨v0, vs0, d0, ds0, p0, q0, hargs, rfl, rfl, h0, r0⟩ := trodAll_cons hA
  obtain ⟨v1, vs1, d1, ds1, p1, q1, rfl, rfl, rfl, h1, r1⟩ := trodAll_cons r0
  obtain ⟨v2, vs2, d2, ds2, p2, q2, rfl, rfl, rfl, h2, r2⟩ := trodAll_cons r1
  obtain ⟨rfl, rfl, rfl⟩ := trodAll_nil r2
  obtain rfl : args = #[v0, v1, v2] := by cases args; simp_all
  obtain ⟨rfl, rfl⟩ := trodVars_none hV
  obtain ⟨a0, l0, c0, rfl⟩ := okWide_slice Try.underlying31 (hval 0 31 v0 rfl rfl)
  have k0 := h0
  have lt0 : ∀ x ∈ p0, x.block < W.heap.size := by obtain ⟨m, hm⟩ := k0; exact DataW.trod_lt m _ _ _ hm
  obtain ⟨L0, f0, g0⟩ := arg_of h0
  obtain ⟨a1, l1, c1, rfl⟩ := okWide_slice Try.underlying31 (hval 1 31 v1 rfl rfl)
  have k1 := h1
  have lt1 : ∀ x ∈ p1, x.block < W.heap.size := by obtain ⟨m, hm⟩ := k1; exact DataW.trod_lt m _ _ _ hm
  obtain ⟨L1, f1, g1⟩ := arg_of h1
  obtain ⟨a2, rfl, rfl, rfl, g2⟩ := open_int Try.underlying3 (hval 2 3 v2 rfl rfl) h2
  clear hA0 hval0
  refine (walk W _ _ L0 f0 g0 _ _ L1 f1 g1 a2 g2).mono fun e W' ⟨he, bel⟩ => ?_
  subst he
  exact ⟨_, rfl, _, _, _, [], _, [], hW', trodAll_mk1 (shut_bool Try.underlying4 _), (trodAll_cons_mk (Below.trod Try.laidOut (by kernel_rfl) (of_decide_eq_true (by kernel_rfl)) k0 bel lt0) (trodAll_cons_mk (Below.trod Try.laidOut (by kernel_rfl) (of_decide_eq_true (by kernel_rfl)) k1 bel lt1) (trodAll_cons_mk (shut_int Try.underlying3 g2) trodAll_mk0))), rfl, bel.frame _, fun h => by cases h⟩

theorem over : Rows.gridTellsRow.holds Try.pinned (OpenSpec.ofChange Rows.gridTellsSpec) :=
  OpenClaim.holds_of_wide 7 Try.f7 rfl rfl rfl rfl rfl rfl rfl ⟨rfl, rfl, rfl, rfl, rfl⟩ rfl rfl rfl rfl rfl (by kernel_rfl) Try.func7 (by kernel_rfl)
    (of_decide_eq_true (by kernel_rfl)) (by unfold Func.isWrapper; first | (rw [if_pos (by decide +kernel)]; kernel_rfl) | (rw [if_neg (by decide +kernel)]; exact ⟨rfl, rfl⟩))
    (fun os started H enc _ => lifted os started H enc)
end Go.Proofs.Ytbidimaljeblgaa.gridTells

namespace Go.Proofs.Ytbidimaljeblgaa
theorem gridTells_holds : Rows.GridTellsSaid := gridTells.over
#print axioms gridTells_holds
end Go.Proofs.Ytbidimaljeblgaa
