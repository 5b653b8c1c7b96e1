/-
  Whatever matrix is undone: what undoes it undoes it from either side, and is undone by it; where nothing undoes it no matrix is told. No condition.
-/
import Derived.Test.YtbidimaljeblgabRows
import Derived.Test.YtbidimaljeblgabOpen
import Derived.Test.YtbidimaljeblgabAlive
import Derived.ProofKit
import Derived.OpenShut
import Derived.Carry
namespace Go.Proofs.Ytbidimaljeblgab.gridBack
open Go.ChangeShapes Go.WideShapes Go.ChangeAt Go.RowKit
set_option linter.unusedVariables false

theorem own : ownKnob Try.prog.godebug = none := by kernel_rfl

set_option maxHeartbeats 1000000 in
theorem walk (w : World) (v0 : Value) (n0 : Nat) (L0 : Nat → Nat) (f0 : Nat → Nat → Nat) (g0 : Arg w v0 n0 L0 f0) :
    Calls Try.prog 4 #[v0] w fun e w' => e = .returned (.bool true) ∧ Below w.heap.size w w' := by
  by_cases h1 : wrongE n0 L0 = 0
  · have m0 := g0.mx h1
    by_cases h2 : L0 0 = n0
    · rw [h2] at m0
      have hlen : ∃ A p, v0 = .slice A n0 p := by
        obtain ⟨A, p, _, _, hv, _⟩ := g0.lies
        exact ⟨A, p, hv⟩
      obtain ⟨A, p, rfl⟩ := hlen
      obtain ⟨d1, d2, _, _⟩ := m0.dim
      clear g0 h1 h2
      go_enter Try.func4, Try.ntmps4
      go_wp2_with fail
      refine (alive2_any _).mono ?_
      rintro e u1 ⟨rfl, b1⟩
      go_wp2_with fail
      refine (undo_any _ n0 f0 _ (m0.below b1)).mono ?_
      rintro e u2 ⟨h | h, b2⟩
      · obtain ⟨vb, r, rfl, hb, hu⟩ := h
        have b2 := bt b1 b2
        go_wp2_with fail
        refine (one_any n0 _ d1 d2).mono ?_
        rintro e u3 ⟨vo, rfl, ho, b3⟩
        have hb := hb.below b3
        have b3 := bt b2 b3
        go_wp2_with fail
        refine (mulM_ok _ vb n0 n0 n0 n0 f0 r _ (m0.below b3) hb rfl).mono ?_
        rintro e u4 ⟨vp, rfl, hp, b4⟩
        have hb := hb.below b4
        have ho := ho.below b4
        have b4 := bt b3 b4
        go_wp2_with fail
        refine (mulM_ok vb _ n0 n0 n0 n0 r f0 _ hb (m0.below b4) rfl).mono ?_
        rintro e u5 ⟨vq, rfl, hq, b5⟩
        have hb := hb.below b5
        have ho := ho.below b5
        have hp := hp.below b5
        have b5 := bt b4 b5
        go_wp2_with fail
        refine (undo_any vb n0 r _ hb).mono ?_
        rintro e u6 ⟨h | h, b6⟩
        · obtain ⟨vc, s, rfl, hc, hs⟩ := h
          have ec : ∀ i, i < n0 → ∀ j, j < n0 → s i j = f0 i j := fun i hi j hj => Gf.Und.uniq hb.bd hc.bd m0.bd hs hu.symm i j hi hj
          have ho := ho.below b6
          have hp := hp.below b6
          have hq := hq.below b6
          have b6 := bt b5 b6
          clear hb hs
          go_wp2_with fail
          refine (same_any vp vo n0 n0 _ _ _ hp ho (fun i hi j hj => (hu i j hi hj).1)).mono ?_
          rintro e u7 ⟨rfl, b7⟩
          have ho := ho.below b7
          have hq := hq.below b7
          have hc := hc.below b7
          have b7 := bt b6 b7
          go_wp2_with fail
          refine (same_any vq vo n0 n0 _ _ _ hq ho (fun i hi j hj => (hu i j hi hj).2)).mono ?_
          rintro e u8 ⟨rfl, b8⟩
          have hc := hc.below b8
          have b8 := bt b7 b8
          go_wp2_with fail
          refine (same_any vc _ n0 n0 _ _ _ hc (m0.below b8) ec).mono ?_
          rintro e u9 ⟨rfl, b9⟩
          have b9 := bt b8 b9
          clear ho hp hq hc m0 ec hu
          go_wp2_with fail
          go_ret
          exact ⟨rfl, b9⟩
        · exact (Gf.Und.not_sing hb.bd m0.bd hu.symm h.2).elim
      · obtain ⟨rfl, _⟩ := h
        have b2 := bt b1 b2
        go_wp2_with fail
        go_ret
        exact ⟨rfl, b2⟩
    · go_enter Try.func4, Try.ntmps4
      go_wp2_with fail
      refine (alive2_any _).mono ?_
      rintro e u1 ⟨rfl, b1⟩
      go_wp2_with fail
      refine (undo_bad2 v0 n0 (L0 0) f0 _ (m0.below b1) h2).mono ?_
      rintro e u2 ⟨rfl, b2⟩
      have b2 := bt b1 b2
      clear m0 g0 h1 h2
      go_wp2_with fail
      go_ret
      exact ⟨rfl, b2⟩
  · have hz : ((wrongE n0 L0 : Int) == 0) = false := by rw [beq_eq_false_iff_ne]; omega
    go_enter Try.func4, Try.ntmps4
    go_wp2_with fail
    refine (alive2_any _).mono ?_
    rintro e u1 ⟨rfl, b1⟩
    go_wp2_with fail
    refine (undo_bad1 v0 n0 L0 f0 _ (g0.below b1) h1).mono ?_
    rintro e u2 ⟨rfl, b2⟩
    have b2 := bt b1 b2
    clear g0 h1
    go_wp2_with fail
    go_ret
    exact ⟨rfl, b2⟩

set_option maxRecDepth 100000 in
theorem lifted (os : Os) (started : os.Started) (H : Type) (enc : TypeId × Value → H) :
    ReturnsInHanded {} Try.checked os 4 .any (Rows.gridBackSpec.pre6 enc Try.prog Try.f4 Rows.gridBackRow.domain false) (Rows.gridBackSpec.post enc Try.prog Try.f4 false true false false) := by
  refine returnsInHanded_of_change (C := Try.checked) own started (by kernel_rfl) Try.func4
    (ChangeSpec.witness6 (enc := enc) (C := Try.checked) false ⟨#[], #[.slice none 0 0], []⟩ 8 (by kernel_rfl) (by kernel_rfl) (by kernel_rfl) (by kernel_rfl)) ?_
  intro W base args ds gs before hval0 hW hcnd _
  have hval : ∀ (j : Nat) t v, Try.f4.params[j]? = some t → args[j]? = some v → Value.okWide Try.prog W .any base t v := hval0
  have hW' := hW
  obtain ⟨p, q, hA0, hV, rfl, hfz, hnd⟩ := hW
  have hA : DataW.TrodAll enc Try.prog W 0 (fun _ => true) true Try.f4.params.toList args.toList ds p := hA0
  rw [Try.params4] at hA hval
  obtain ⟨v0, vs0, d0, ds0, p0, q0, hargs, rfl, rfl, h0, r0⟩ := trodAll_cons hA
  obtain ⟨rfl, rfl, rfl⟩ := trodAll_nil r0
  obtain rfl : args = #[v0] := by cases args; simp_all
  obtain ⟨rfl, rfl⟩ := trodVars_none hV
  obtain ⟨a0, l0, c0, rfl⟩ := okWide_slice Try.underlying23 (hval 0 23 v0 rfl rfl)
  have k0 := h0
  have lt0 : ∀ x ∈ p0, x.block < W.heap.size := by obtain ⟨m, hm⟩ := k0; exact DataW.trod_lt m _ _ _ hm
  obtain ⟨L0, f0, g0⟩ := arg_of h0
  clear hA0 hval0
  refine (walk W _ _ L0 f0 g0).mono fun e W' ⟨he, bel⟩ => ?_
  subst he
  exact ⟨_, rfl, _, _, _, [], _, [], hW', trodAll_mk1 (shut_bool Try.underlying4 _), (trodAll_cons_mk (Below.trod Try.laidOut (by kernel_rfl) (of_decide_eq_true (by kernel_rfl)) k0 bel lt0) trodAll_mk0), rfl, bel.frame _, fun h => by cases h⟩

theorem over : Rows.gridBackRow.holds Try.pinned (OpenSpec.ofChange Rows.gridBackSpec) :=
  OpenClaim.holds_of_wide 4 Try.f4 rfl rfl rfl rfl rfl rfl rfl ⟨rfl, rfl, rfl, rfl, rfl⟩ rfl rfl rfl rfl rfl (by kernel_rfl) Try.func4 (by kernel_rfl)
    (of_decide_eq_true (by kernel_rfl)) (by unfold Func.isWrapper; first | (rw [if_pos (by decide +kernel)]; kernel_rfl) | (rw [if_neg (by decide +kernel)]; exact ⟨rfl, rfl⟩))
    (fun os started H enc _ => lifted os started H enc)
end Go.Proofs.Ytbidimaljeblgab.gridBack

namespace Go.Proofs.Ytbidimaljeblgab
theorem gridBack_holds : Rows.GridBackSaid := gridBack.over
#print axioms gridBack_holds
end Go.Proofs.Ytbidimaljeblgab
