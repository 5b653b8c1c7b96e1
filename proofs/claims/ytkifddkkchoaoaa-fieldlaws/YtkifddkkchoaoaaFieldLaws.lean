/-
  Whatever three bytes there are: products in whatever order, and however put together, are the same; a sum's product is the products' sum; 1 changes nothing; nothing but 0 times what isn't 0 is 0. No condition.
-/
import Derived.Test.YtkifddkkchoaoaaRows
import Derived.Test.YtkifddkkchoaoaaNums
import Derived.ProofKit
import Derived.OpenShut
namespace Go.Proofs.Ytkifddkkchoaoaa.fieldLaws
open Go.ChangeShapes Go.WideShapes Go.ChangeAt Go.RowKit
set_option linter.unusedVariables false

theorem own : ownKnob Try.prog.godebug = none := by kernel_rfl

set_option maxHeartbeats 2000000 in
theorem walk (a0 : Int) (a1 : Int) (a2 : Int) (w0 : (Lit.int .u8 a0).wf = true) (w1 : (Lit.int .u8 a1).wf = true) (w2 : (Lit.int .u8 a2).wf = true) (w : World) :
    Calls Try.prog 4 #[.int .u8 a0, .int .u8 a1, .int .u8 a2] w fun e w' => e = .returned (.bool true) ∧ Below w.heap.size w w' := by
  obtain ⟨h0, h1⟩ := bounds_u8 w0
  obtain ⟨g0, g1⟩ := bounds_u8 w1
  obtain ⟨k0, k1⟩ := bounds_u8 w2
  clear w0 w1 w2
  have m := Gf.mulI_bd a0 a1 h0 h1
  have n := Gf.mulI_bd a1 a2 g0 g1
  have x := Gf.xorI_bd g0 g1 k0 k1
  have q1 : (Gf.mulI a0 a1 != Gf.mulI a1 a0) = false := by rw [Gf.mulI_comm h0 h1 g0 g1]; simp
  have q2 : (Gf.mulI (Gf.mulI a0 a1) a2 != Gf.mulI a0 (Gf.mulI a1 a2)) = false := by rw [Gf.mulI_assoc a2 h0 h1 g0 g1]; simp
  have q3 : (Gf.mulI a0 (bits .xor .u8 a1 a2) != bits .xor .u8 (Gf.mulI a0 a1) (Gf.mulI a0 a2)) = false := by rw [Gf.mulI_xor a0 g0 g1 k0 k1 h0 h1]; simp
  have q4 : (Gf.mulI a0 1 != a0) = false := by rw [Gf.mulI_one h0 h1]; simp
  have Q5 : Hid (Gf.mulI a0 a1 = 0 ↔ a0 = 0 ∨ a1 = 0) := Gf.mulI_zero h0 h1 g0 g1
  by_cases hz : a0 = 0
  · have z0 : (a0 == 0) = true := by simpa using hz
    have z1 : (Gf.mulI a0 a1 == 0) = true := by simpa using Q5.out.2 (Or.inl hz)
    clear hz
    go_enter Try.func4, Try.ntmps4
    go_wp2_with fail
    refine (alive_any _).mono ?_
    rintro e u1 ⟨rfl, hb1⟩
    go_wp2_with fail
    refine (mul_any _ _ _ h0 h1 g0 g1).mono ?_
    rintro e u2 ⟨rfl, hb2⟩
    go_wp2_with fail
    refine (mul_any _ _ _ g0 g1 k0 k1).mono ?_
    rintro e u3 ⟨rfl, hb3⟩
    go_wp2_with fail
    refine (mul_any _ _ _ g0 g1 h0 h1).mono ?_
    rintro e u4 ⟨rfl, hb4⟩
    go_wp2_with fail
    refine (mul_any _ _ _ m.1 m.2 k0 k1).mono ?_
    rintro e u5 ⟨rfl, hb5⟩
    go_wp2_with fail
    refine (mul_any _ _ _ h0 h1 n.1 n.2).mono ?_
    rintro e u6 ⟨rfl, hb6⟩
    go_wp2_with fail
    refine (mul_any _ _ _ h0 h1 x.1 x.2).mono ?_
    rintro e u7 ⟨rfl, hb7⟩
    go_wp2_with fail
    refine (mul_any _ _ _ h0 h1 k0 k1).mono ?_
    rintro e u8 ⟨rfl, hb8⟩
    go_wp2_with fail
    refine (mul_any _ _ _ h0 h1 (by decide) (by decide)).mono ?_
    rintro e u9 ⟨rfl, hb9⟩
    go_wp2_with fail
    go_ret
    exact ⟨rfl, bt (bt (bt (bt (bt (bt (bt (bt hb1 hb2) hb3) hb4) hb5) hb6) hb7) hb8) hb9⟩
  · have z0 : (a0 == 0) = false := by simpa using hz
    by_cases hy : a1 = 0
    · have z1 : (Gf.mulI a0 a1 == 0) = true := by simpa using Q5.out.2 (Or.inr hy)
      have z2 : (a1 == 0) = true := by simpa using hy
      clear hz hy
      go_enter Try.func4, Try.ntmps4
      go_wp2_with fail
      refine (alive_any _).mono ?_
      rintro e u1 ⟨rfl, hb1⟩
      go_wp2_with fail
      refine (mul_any _ _ _ h0 h1 g0 g1).mono ?_
      rintro e u2 ⟨rfl, hb2⟩
      go_wp2_with fail
      refine (mul_any _ _ _ g0 g1 k0 k1).mono ?_
      rintro e u3 ⟨rfl, hb3⟩
      go_wp2_with fail
      refine (mul_any _ _ _ g0 g1 h0 h1).mono ?_
      rintro e u4 ⟨rfl, hb4⟩
      go_wp2_with fail
      refine (mul_any _ _ _ m.1 m.2 k0 k1).mono ?_
      rintro e u5 ⟨rfl, hb5⟩
      go_wp2_with fail
      refine (mul_any _ _ _ h0 h1 n.1 n.2).mono ?_
      rintro e u6 ⟨rfl, hb6⟩
      go_wp2_with fail
      refine (mul_any _ _ _ h0 h1 x.1 x.2).mono ?_
      rintro e u7 ⟨rfl, hb7⟩
      go_wp2_with fail
      refine (mul_any _ _ _ h0 h1 k0 k1).mono ?_
      rintro e u8 ⟨rfl, hb8⟩
      go_wp2_with fail
      refine (mul_any _ _ _ h0 h1 (by decide) (by decide)).mono ?_
      rintro e u9 ⟨rfl, hb9⟩
      go_wp2_with fail
      go_ret
      exact ⟨rfl, bt (bt (bt (bt (bt (bt (bt (bt hb1 hb2) hb3) hb4) hb5) hb6) hb7) hb8) hb9⟩
    · have z1 : (Gf.mulI a0 a1 == 0) = false := by
        have : ¬ Gf.mulI a0 a1 = 0 := fun e => (Q5.out.1 e).elim hz hy
        simpa using this
      have z2 : (a1 == 0) = false := by simpa using hy
      clear hz hy
      go_enter Try.func4, Try.ntmps4
      go_wp2_with fail
      refine (alive_any _).mono ?_
      rintro e u1 ⟨rfl, hb1⟩
      go_wp2_with fail
      refine (mul_any _ _ _ h0 h1 g0 g1).mono ?_
      rintro e u2 ⟨rfl, hb2⟩
      go_wp2_with fail
      refine (mul_any _ _ _ g0 g1 k0 k1).mono ?_
      rintro e u3 ⟨rfl, hb3⟩
      go_wp2_with fail
      refine (mul_any _ _ _ g0 g1 h0 h1).mono ?_
      rintro e u4 ⟨rfl, hb4⟩
      go_wp2_with fail
      refine (mul_any _ _ _ m.1 m.2 k0 k1).mono ?_
      rintro e u5 ⟨rfl, hb5⟩
      go_wp2_with fail
      refine (mul_any _ _ _ h0 h1 n.1 n.2).mono ?_
      rintro e u6 ⟨rfl, hb6⟩
      go_wp2_with fail
      refine (mul_any _ _ _ h0 h1 x.1 x.2).mono ?_
      rintro e u7 ⟨rfl, hb7⟩
      go_wp2_with fail
      refine (mul_any _ _ _ h0 h1 k0 k1).mono ?_
      rintro e u8 ⟨rfl, hb8⟩
      go_wp2_with fail
      refine (mul_any _ _ _ h0 h1 (by decide) (by decide)).mono ?_
      rintro e u9 ⟨rfl, hb9⟩
      go_wp2_with fail
      go_ret
      exact ⟨rfl, bt (bt (bt (bt (bt (bt (bt (bt hb1 hb2) hb3) hb4) hb5) hb6) hb7) hb8) hb9⟩


set_option maxRecDepth 100000 in
theorem lifted (os : Os) (started : os.Started) (H : Type) (enc : TypeId × Value → H) :
    ReturnsInHanded {} Try.checked os 4 .any (Rows.fieldLawsSpec.pre6 enc Try.prog Try.f4 Rows.fieldLawsRow.domain false) (Rows.fieldLawsSpec.post enc Try.prog Try.f4 false true false false) := by
  refine returnsInHanded_of_change (C := Try.checked) own started (by kernel_rfl) Try.func4
    (ChangeSpec.witness6 (enc := enc) (C := Try.checked) false ⟨#[], #[.int .u8 0, .int .u8 0, .int .u8 0], []⟩ 8 (by kernel_rfl) (by kernel_rfl) (by kernel_rfl) (by kernel_rfl)) ?_
  intro W base args ds gs before hval0 hW hcnd _
  have hval : ∀ (j : Nat) t v, Try.f4.params[j]? = some t → args[j]? = some v → Value.okWide Try.prog W .any base t v := hval0
  have hW' := hW
  obtain ⟨p, q, hA0, hV, rfl, hfz, hnd⟩ := hW
  have hA : DataW.TrodAll enc Try.prog W 0 (fun _ => true) true Try.f4.params.toList args.toList ds p := hA0
  rw [Try.params4] at hA hval
  obtain ⟨v0, vs0, d0, ds0, p0, q0, hargs, rfl, rfl, h0, r0⟩ := trodAll_cons hA
  obtain ⟨v1, vs1, d1, ds1, p1, q1, rfl, rfl, rfl, h1, r1⟩ := trodAll_cons r0
  obtain ⟨v2, vs2, d2, ds2, p2, q2, rfl, rfl, rfl, h2, r2⟩ := trodAll_cons r1
  obtain ⟨rfl, rfl, rfl⟩ := trodAll_nil r2
  obtain rfl : args = #[v0, v1, v2] := by cases args; simp_all
  obtain ⟨rfl, rfl⟩ := trodVars_none hV
  obtain ⟨a0, rfl, rfl, rfl, w0⟩ := open_int Try.underlying5 (hval 0 5 v0 rfl rfl) h0
  obtain ⟨a1, rfl, rfl, rfl, w1⟩ := open_int Try.underlying5 (hval 1 5 v1 rfl rfl) h1
  obtain ⟨a2, rfl, rfl, rfl, w2⟩ := open_int Try.underlying5 (hval 2 5 v2 rfl rfl) h2
  clear hA0 hval0
  refine (walk a0 a1 a2 w0 w1 w2 W).mono fun e W' ⟨he, bel⟩ => ?_
  subst he
  exact ⟨_, rfl, _, _, _, [], _, [], hW', trodAll_mk1 (shut_bool Try.underlying4 _), (trodAll_cons_mk (shut_int Try.underlying5 w0) (trodAll_cons_mk (shut_int Try.underlying5 w1) (trodAll_cons_mk (shut_int Try.underlying5 w2) trodAll_mk0))), rfl, bel.frame _, fun h => by cases h⟩

theorem over : Rows.fieldLawsRow.holds Try.pinned (OpenSpec.ofChange Rows.fieldLawsSpec) :=
  OpenClaim.holds_of_wide 4 Try.f4 rfl rfl rfl rfl rfl rfl rfl ⟨rfl, rfl, rfl, rfl, rfl⟩ rfl rfl rfl rfl rfl (by kernel_rfl) Try.func4 (by kernel_rfl)
    (of_decide_eq_true (by kernel_rfl)) (by unfold Func.isWrapper; first | (rw [if_pos (by decide +kernel)]; kernel_rfl) | (rw [if_neg (by decide +kernel)]; exact ⟨rfl, rfl⟩))
    (fun os started H enc _ => lifted os started H enc)
end Go.Proofs.Ytkifddkkchoaoaa.fieldLaws

namespace Go.Proofs.Ytkifddkkchoaoaa
theorem fieldLaws_holds : Rows.FieldLawsSaid := fieldLaws.over
#print axioms fieldLaws_holds
end Go.Proofs.Ytkifddkkchoaoaa
