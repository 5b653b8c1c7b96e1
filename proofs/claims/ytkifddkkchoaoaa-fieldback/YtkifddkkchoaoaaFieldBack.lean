/-
  Whatever two bytes there are: a product can be undone by what times the second byte is 1, and what undoes that is the byte itself; 0 is undone by 0. No condition.
-/
import Derived.Test.YtkifddkkchoaoaaRows
import Derived.Test.YtkifddkkchoaoaaNums
import Derived.ProofKit
import Derived.OpenShut
namespace Go.Proofs.Ytkifddkkchoaoaa.fieldBack
open Go.ChangeShapes Go.WideShapes Go.ChangeAt Go.RowKit
set_option linter.unusedVariables false

theorem own : ownKnob Try.prog.godebug = none := by kernel_rfl

set_option maxHeartbeats 1000000 in
theorem walk (a0 : Int) (a1 : Int) (w0 : (Lit.int .u8 a0).wf = true) (w1 : (Lit.int .u8 a1).wf = true) (w : World) :
    Calls Try.prog 5 #[.int .u8 a0, .int .u8 a1] w fun e w' => e = .returned (.bool true) ∧ Below w.heap.size w w' := by
  obtain ⟨h0, h1⟩ := bounds_u8 w0
  obtain ⟨g0, g1⟩ := bounds_u8 w1
  clear w0 w1
  by_cases hz : a1 = 0
  · subst hz
    go_enter Try.func5, Try.ntmps5
    go_wp2_with fail
    refine (alive_any _).mono ?_
    rintro e u1 ⟨rfl, hb1⟩
    go_wp2_with fail
    refine (inv_any _ _ (by decide) (by decide)).mono ?_
    rw [Gf.invI_zero]
    rintro e u2 ⟨rfl, hb2⟩
    go_wp2_with fail
    go_ret
    exact ⟨rfl, bt hb1 hb2⟩
  · have hz' : (a1 == 0) = false := by simpa using hz
    have m := Gf.mulI_bd a0 a1 h0 h1
    have i := Gf.raiseI_bd a1 254
    have q1 : (Gf.mulI (Gf.mulI a0 a1) (Gf.raiseI a1 254) == a0) = true := by rw [Gf.mulI_back h0 h1 g0 g1 hz]; simp
    have q2 : (Gf.raiseI (Gf.raiseI a1 254) 254 == a1) = true := by rw [Gf.invI_inv g0 g1]; simp
    clear hz
    go_enter Try.func5, Try.ntmps5
    go_wp2_with fail
    refine (alive_any _).mono ?_
    rintro e u1 ⟨rfl, hb1⟩
    go_wp2_with fail
    refine (mul_any _ _ _ h0 h1 g0 g1).mono ?_
    rintro e u2 ⟨rfl, hb2⟩
    go_wp2_with fail
    refine (inv_any _ _ g0 g1).mono ?_
    rintro e u3 ⟨rfl, hb3⟩
    go_wp2_with fail
    refine (mul_any _ _ _ m.1 m.2 i.1 i.2).mono ?_
    rintro e u4 ⟨rfl, hb4⟩
    go_wp2_with fail
    refine (inv_any _ _ g0 g1).mono ?_
    rintro e u5 ⟨rfl, hb5⟩
    go_wp2_with fail
    refine (inv_any _ _ i.1 i.2).mono ?_
    rintro e u6 ⟨rfl, hb6⟩
    go_wp2_with fail
    go_ret
    exact ⟨rfl, bt (bt (bt (bt (bt hb1 hb2) hb3) hb4) hb5) hb6⟩


set_option maxRecDepth 100000 in
theorem lifted (os : Os) (started : os.Started) (H : Type) (enc : TypeId × Value → H) :
    ReturnsInHanded {} Try.checked os 5 .any (Rows.fieldBackSpec.pre6 enc Try.prog Try.f5 Rows.fieldBackRow.domain false) (Rows.fieldBackSpec.post enc Try.prog Try.f5 false true false false) := by
  refine returnsInHanded_of_change (C := Try.checked) own started (by kernel_rfl) Try.func5
    (ChangeSpec.witness6 (enc := enc) (C := Try.checked) false ⟨#[], #[.int .u8 0, .int .u8 0], []⟩ 8 (by kernel_rfl) (by kernel_rfl) (by kernel_rfl) (by kernel_rfl)) ?_
  intro W base args ds gs before hval0 hW hcnd _
  have hval : ∀ (j : Nat) t v, Try.f5.params[j]? = some t → args[j]? = some v → Value.okWide Try.prog W .any base t v := hval0
  have hW' := hW
  obtain ⟨p, q, hA0, hV, rfl, hfz, hnd⟩ := hW
  have hA : DataW.TrodAll enc Try.prog W 0 (fun _ => true) true Try.f5.params.toList args.toList ds p := hA0
  rw [Try.params5] at hA hval
  obtain ⟨v0, vs0, d0, ds0, p0, q0, hargs, rfl, rfl, h0, r0⟩ := trodAll_cons hA
  obtain ⟨v1, vs1, d1, ds1, p1, q1, rfl, rfl, rfl, h1, r1⟩ := trodAll_cons r0
  obtain ⟨rfl, rfl, rfl⟩ := trodAll_nil r1
  obtain rfl : args = #[v0, v1] := by cases args; simp_all
  obtain ⟨rfl, rfl⟩ := trodVars_none hV
  obtain ⟨a0, rfl, rfl, rfl, w0⟩ := open_int Try.underlying5 (hval 0 5 v0 rfl rfl) h0
  obtain ⟨a1, rfl, rfl, rfl, w1⟩ := open_int Try.underlying5 (hval 1 5 v1 rfl rfl) h1
  clear hA0 hval0
  refine (walk a0 a1 w0 w1 W).mono fun e W' ⟨he, bel⟩ => ?_
  subst he
  exact ⟨_, rfl, _, _, _, [], _, [], hW', trodAll_mk1 (shut_bool Try.underlying4 _), (trodAll_cons_mk (shut_int Try.underlying5 w0) (trodAll_cons_mk (shut_int Try.underlying5 w1) trodAll_mk0)), rfl, bel.frame _, fun h => by cases h⟩

theorem over : Rows.fieldBackRow.holds Try.pinned (OpenSpec.ofChange Rows.fieldBackSpec) :=
  OpenClaim.holds_of_wide 5 Try.f5 rfl rfl rfl rfl rfl rfl rfl ⟨rfl, rfl, rfl, rfl, rfl⟩ rfl rfl rfl rfl rfl (by kernel_rfl) Try.func5 (by kernel_rfl)
    (of_decide_eq_true (by kernel_rfl)) (by unfold Func.isWrapper; first | (rw [if_pos (by decide +kernel)]; kernel_rfl) | (rw [if_neg (by decide +kernel)]; exact ⟨rfl, rfl⟩))
    (fun os started H enc _ => lifted os started H enc)
end Go.Proofs.Ytkifddkkchoaoaa.fieldBack

namespace Go.Proofs.Ytkifddkkchoaoaa
theorem fieldBack_holds : Rows.FieldBackSaid := fieldBack.over
#print axioms fieldBack_holds
end Go.Proofs.Ytkifddkkchoaoaa
