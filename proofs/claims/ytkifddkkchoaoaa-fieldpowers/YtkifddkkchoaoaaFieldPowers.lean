/-
  Whatever byte and whatever two numbers there are: where the byte is not 0 and both numbers lie from minus a million to a million, the power of their sum is the powers' product, the 255th power is 1, and 2's powers are two wherever the numbers' difference is no multiple of 255; elsewhere nothing is asked. No condition.
-/
import Derived.Test.YtkifddkkchoaoaaRows
import Derived.Test.YtkifddkkchoaoaaPnums
import Derived.ProofKit
import Derived.OpenShut
namespace Go.Proofs.Ytkifddkkchoaoaa.fieldPowers
open Go.ChangeShapes Go.WideShapes Go.ChangeAt Go.RowKit
set_option linter.unusedVariables false

theorem own : ownKnob Try.prog.godebug = none := by kernel_rfl

set_option maxHeartbeats 2000000 in
theorem walk (a0 : Int) (a1 : Int) (a2 : Int) (w0 : (Lit.int .u8 a0).wf = true) (w1 : (Lit.int .i64 a1).wf = true) (w2 : (Lit.int .i64 a2).wf = true) (w : World) :
    Calls Try.prog 6 #[.int .u8 a0, .int .i64 a1, .int .i64 a2] w fun e w' => e = .returned (.bool true) ∧ Below w.heap.size w w' := by
  obtain ⟨h0, h1⟩ := bounds_u8 w0
  clear w0 w1 w2
  by_cases m0 : a1 < -1000000
  · go_enter Try.func6, Try.ntmps6
    go_wp2_with fail
    refine (alive_any _).mono ?_
    rintro e u1 ⟨rfl, hb1⟩
    go_wp2_with fail
    go_ret
    exact ⟨rfl, hb1⟩
  by_cases m1 : 1000000 < a1
  · go_enter Try.func6, Try.ntmps6
    go_wp2_with fail
    refine (alive_any _).mono ?_
    rintro e u1 ⟨rfl, hb1⟩
    go_wp2_with fail
    go_ret
    exact ⟨rfl, hb1⟩
  by_cases n0 : a2 < -1000000
  · go_enter Try.func6, Try.ntmps6
    go_wp2_with fail
    refine (alive_any _).mono ?_
    rintro e u1 ⟨rfl, hb1⟩
    go_wp2_with fail
    go_ret
    exact ⟨rfl, hb1⟩
  by_cases n1 : 1000000 < a2
  · go_enter Try.func6, Try.ntmps6
    go_wp2_with fail
    refine (alive_any _).mono ?_
    rintro e u1 ⟨rfl, hb1⟩
    go_wp2_with fail
    go_ret
    exact ⟨rfl, hb1⟩
  by_cases hz : a0 = 0
  · have hz' : (a0 == 0) = true := by simpa using hz
    clear hz
    go_enter Try.func6, Try.ntmps6
    go_wp2_with fail
    refine (alive_any _).mono ?_
    rintro e u1 ⟨rfl, hb1⟩
    go_wp2_with fail
    go_ret
    exact ⟨rfl, hb1⟩
  have hz' : (a0 == 0) = false := by simpa using hz
  have b0 : -1000000 ≤ a1 := by omega
  have b1 : a1 ≤ 1000000 := by omega
  have c0 : -1000000 ≤ a2 := by omega
  have c1 : a2 ≤ 1000000 := by omega
  have p := powI_bd a0 a1
  have q := powI_bd a0 a2
  have q1 : (powI a0 (a1 + a2) != Gf.mulI (powI a0 a1) (powI a0 a2)) = false := by rw [powI_add a1 a2 h0 h1 hz]; simp
  have q2 : (powI a0 255 != 1) = false := by rw [powI_255 h0 h1 hz]; simp
  by_cases hd : (a1 - a2) % 255 = 0
  · have hd' : ((a1 - a2).tmod 255 == 0) = true := by simpa using (tmod_zero (a1 - a2)).2 hd
    clear hd hz
    go_enter Try.func6, Try.ntmps6
    go_wp2_with fail
    refine (alive_any _).mono ?_
    rintro e u1 ⟨rfl, hb1⟩
    go_wp2_with fail
    refine (pow_any _ _ _ h0 h1).mono ?_
    rintro e u2 ⟨rfl, hb2⟩
    go_wp2_with fail
    refine (pow_any _ _ _ h0 h1).mono ?_
    rintro e u3 ⟨rfl, hb3⟩
    go_wp2_with fail
    refine (pow_any _ _ _ h0 h1).mono ?_
    rintro e u4 ⟨rfl, hb4⟩
    go_wp2_with fail
    refine (mul_any _ _ _ p.1 p.2 q.1 q.2).mono ?_
    rintro e u5 ⟨rfl, hb5⟩
    go_wp2_with fail
    refine (pow_any _ _ _ h0 h1).mono ?_
    rintro e u6 ⟨rfl, hb6⟩
    go_wp2_with fail
    go_ret
    exact ⟨rfl, bt (bt (bt (bt (bt hb1 hb2) hb3) hb4) hb5) hb6⟩
  · have hd' : ((a1 - a2).tmod 255 == 0) = false := by simpa using fun e => hd ((tmod_zero (a1 - a2)).1 e)
    have q3 : (powI 2 a1 != powI 2 a2) = true := by simpa using powI_two hd
    clear hd hz
    go_enter Try.func6, Try.ntmps6
    go_wp2_with fail
    refine (alive_any _).mono ?_
    rintro e u1 ⟨rfl, hb1⟩
    go_wp2_with fail
    refine (pow_any _ _ _ h0 h1).mono ?_
    rintro e u2 ⟨rfl, hb2⟩
    go_wp2_with fail
    refine (pow_any _ _ _ h0 h1).mono ?_
    rintro e u3 ⟨rfl, hb3⟩
    go_wp2_with fail
    refine (pow_any _ _ _ h0 h1).mono ?_
    rintro e u4 ⟨rfl, hb4⟩
    go_wp2_with fail
    refine (mul_any _ _ _ p.1 p.2 q.1 q.2).mono ?_
    rintro e u5 ⟨rfl, hb5⟩
    go_wp2_with fail
    refine (pow_any _ _ _ h0 h1).mono ?_
    rintro e u6 ⟨rfl, hb6⟩
    go_wp2_with fail
    refine (pow_any _ _ _ (by decide) (by decide)).mono ?_
    rintro e u7 ⟨rfl, hb7⟩
    go_wp2_with fail
    refine (pow_any _ _ _ (by decide) (by decide)).mono ?_
    rintro e u8 ⟨rfl, hb8⟩
    go_wp2_with fail
    go_ret
    exact ⟨rfl, bt (bt (bt (bt (bt (bt (bt hb1 hb2) hb3) hb4) hb5) hb6) hb7) hb8⟩


set_option maxRecDepth 100000 in
theorem lifted (os : Os) (started : os.Started) (H : Type) (enc : TypeId × Value → H) :
    ReturnsInHanded {} Try.checked os 6 .any (Rows.fieldPowersSpec.pre6 enc Try.prog Try.f6 Rows.fieldPowersRow.domain false) (Rows.fieldPowersSpec.post enc Try.prog Try.f6 false true false false) := by
  refine returnsInHanded_of_change (C := Try.checked) own started (by kernel_rfl) Try.func6
    (ChangeSpec.witness6 (enc := enc) (C := Try.checked) false ⟨#[], #[.int .u8 0, .int .i64 0, .int .i64 0], []⟩ 8 (by kernel_rfl) (by kernel_rfl) (by kernel_rfl) (by kernel_rfl)) ?_
  intro W base args ds gs before hval0 hW hcnd _
  have hval : ∀ (j : Nat) t v, Try.f6.params[j]? = some t → args[j]? = some v → Value.okWide Try.prog W .any base t v := hval0
  have hW' := hW
  obtain ⟨p, q, hA0, hV, rfl, hfz, hnd⟩ := hW
  have hA : DataW.TrodAll enc Try.prog W 0 (fun _ => true) true Try.f6.params.toList args.toList ds p := hA0
  rw [Try.params6] at hA hval
  obtain ⟨v0, vs0, d0, ds0, p0, q0, hargs, rfl, rfl, h0, r0⟩ := trodAll_cons hA
  obtain ⟨v1, vs1, d1, ds1, p1, q1, rfl, rfl, rfl, h1, r1⟩ := trodAll_cons r0
  obtain ⟨v2, vs2, d2, ds2, p2, q2, rfl, rfl, rfl, h2, r2⟩ := trodAll_cons r1
  obtain ⟨rfl, rfl, rfl⟩ := trodAll_nil r2
  obtain rfl : args = #[v0, v1, v2] := by cases args; simp_all
  obtain ⟨rfl, rfl⟩ := trodVars_none hV
  obtain ⟨a0, rfl, rfl, rfl, w0⟩ := open_int Try.underlying5 (hval 0 5 v0 rfl rfl) h0
  obtain ⟨a1, rfl, rfl, rfl, w1⟩ := open_int Try.underlying3 (hval 1 3 v1 rfl rfl) h1
  obtain ⟨a2, rfl, rfl, rfl, w2⟩ := open_int Try.underlying3 (hval 2 3 v2 rfl rfl) h2
  clear hA0 hval0
  refine (walk a0 a1 a2 w0 w1 w2 W).mono fun e W' ⟨he, bel⟩ => ?_
  subst he
  exact ⟨_, rfl, _, _, _, [], _, [], hW', trodAll_mk1 (shut_bool Try.underlying4 _), (trodAll_cons_mk (shut_int Try.underlying5 w0) (trodAll_cons_mk (shut_int Try.underlying3 w1) (trodAll_cons_mk (shut_int Try.underlying3 w2) trodAll_mk0))), rfl, bel.frame _, fun h => by cases h⟩

theorem over : Rows.fieldPowersRow.holds Try.pinned (OpenSpec.ofChange Rows.fieldPowersSpec) :=
  OpenClaim.holds_of_wide 6 Try.f6 rfl rfl rfl rfl rfl rfl rfl ⟨rfl, rfl, rfl, rfl, rfl⟩ rfl rfl rfl rfl rfl (by kernel_rfl) Try.func6 (by kernel_rfl)
    (of_decide_eq_true (by kernel_rfl)) (by unfold Func.isWrapper; first | (rw [if_pos (by decide +kernel)]; kernel_rfl) | (rw [if_neg (by decide +kernel)]; exact ⟨rfl, rfl⟩))
    (fun os started H enc _ => lifted os started H enc)
end Go.Proofs.Ytkifddkkchoaoaa.fieldPowers

namespace Go.Proofs.Ytkifddkkchoaoaa
theorem fieldPowers_holds : Rows.FieldPowersSaid := fieldPowers.over
#print axioms fieldPowers_holds
end Go.Proofs.Ytkifddkkchoaoaa
