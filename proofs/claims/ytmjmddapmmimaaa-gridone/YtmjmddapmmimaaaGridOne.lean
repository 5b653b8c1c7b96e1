/-
  Whatever matrix is multiplied by One, from either side, is told as it was. No condition.
-/
import Derived.Test.YtmjmddapmmimaaaRows
import Derived.Test.YtmjmddapmmimaaaOpen
import Derived.ProofKit
import Derived.OpenShut
import Derived.Carry
namespace Go.Proofs.Ytmjmddapmmimaaa.gridOne
open Go.ChangeShapes Go.WideShapes Go.ChangeAt Go.RowKit
set_option linter.unusedVariables false

theorem own : ownKnob Try.prog.godebug = none := by kernel_rfl

set_option maxHeartbeats 1000000 in
theorem walk (w : World) (v0 : Value) (n0 : Nat) (L0 : Nat → Nat) (f0 : Nat → Nat → Nat) (g0 : Arg w v0 n0 L0 f0) :
    Calls Try.prog 8 #[v0] w fun e w' => e = .returned (.bool true) ∧ Below w.heap.size w w' := by
  have hw := fun w' hb' => wrong_any v0 n0 L0 f0 w' (g0.below (w' := w') hb')
  by_cases h1 : wrongE n0 L0 = 0
  · have mx := g0.mx h1
    rw [h1] at hw
    obtain ⟨d1, d2, d3, d4⟩ := mx.dim
    obtain ⟨b, o, p, G, O, K, rfl, hm⟩ := mx.lies
    have h0 : (0 : Int) < (n0 : Int) := by omega
    have hm' := fun u (hb : Below w.heap.size w u) => show u.cell? ⟨b, o, none⟩ = some (.slice (some ⟨G 0, O 0, none⟩) (L0 0) (K 0)) by simpa using (hm.below hb).top 0 (by omega)
    clear hm g0 h1
    generalize L0 0 = c at mx hm' d3 d4
    by_cases h2 : 12 < c
    · have h2' : (12 : Int) < (c : Int) := by omega
      go_enter Try.func8, Try.ntmps8
      go_wp2_with fail
      refine (alive2_any _).mono ?_
      rintro e u1 ⟨rfl, b1⟩
      go_wp2_with fail
      refine (hw _ b1).mono ?_
      rintro e u2 ⟨rfl, b2⟩
      have b2 := bt b1 b2
      have ht := hm' _ b2
      clear hw hm' mx
      go_wp2_with fail
      go_ret
      exact ⟨rfl, b2⟩
    · have h2' : ¬ (12 : Int) < (c : Int) := by omega
      go_enter Try.func8, Try.ntmps8
      go_wp2_with fail
      refine (alive2_any _).mono ?_
      rintro e u1 ⟨rfl, b1⟩
      go_wp2_with fail
      refine (hw _ b1).mono ?_
      rintro e u2 ⟨rfl, b2⟩
      have b2 := bt b1 b2
      have ht := hm' _ b2
      clear hw
      go_wp2_with fail
      refine (one_any n0 _ d1 d2).mono ?_
      rintro e u3 ⟨vx, rfl, hx, b3⟩
      have b3 := bt b2 b3
      have ht3 := hm' _ b3
      clear hm' ht
      go_wp2_with fail
      refine (one_any c _ d3 (by omega)).mono ?_
      rintro e u4 ⟨vy, rfl, hy, b4⟩
      have hx := hx.below b4
      have b4 := bt b3 b4
      clear ht3
      go_wp2_with fail
      refine (mulM_ok vx _ n0 n0 n0 c _ f0 _ hx (mx.below b4) rfl).mono ?_
      rintro e u5 ⟨vp, rfl, hp, b5⟩
      have hy := hy.below b5
      have b5 := bt b4 b5
      clear hx
      go_wp2_with fail
      refine (mulM_ok _ vy n0 c c c f0 _ _ (mx.below b5) hy rfl).mono ?_
      rintro e u6 ⟨vq, rfl, hq, b6⟩
      have hp := hp.below b6
      have b6 := bt b5 b6
      clear hy
      go_wp2_with fail
      refine (same_any vp _ n0 c _ f0 _ hp (mx.below b6) (fun r hr k _ => Gf.one_mm mx.bd k hr)).mono ?_
      rintro e u7 ⟨rfl, b7⟩
      have hq := hq.below b7
      have b7 := bt b6 b7
      clear hp
      go_wp2_with fail
      refine (same_any vq _ n0 c _ f0 _ hq (mx.below b7) (fun r _ k hk => Gf.mm_one mx.bd r hk)).mono ?_
      rintro e u8 ⟨rfl, b8⟩
      have b8 := bt b7 b8
      clear hq mx
      go_wp2_with fail
      go_ret
      exact ⟨rfl, b8⟩
  · generalize wrongE n0 L0 = x at hw h1
    have hx : ((x : Int) == 0) = false := by rw [beq_eq_false_iff_ne]; omega
    have hxn : ((x : Int) != 0) = true := by rw [bne, hx]; rfl
    clear g0 h1
    go_enter Try.func8, Try.ntmps8
    go_wp2_with fail
    refine (alive2_any _).mono ?_
    rintro e u1 ⟨rfl, b1⟩
    go_wp2_with fail
    refine (hw _ b1).mono ?_
    rintro e u2 ⟨rfl, b2⟩
    have b2 := bt b1 b2
    clear hw
    go_wp2_with fail
    go_ret
    exact ⟨rfl, b2⟩

set_option maxRecDepth 100000 in
theorem lifted (os : Os) (started : os.Started) (H : Type) (enc : TypeId × Value → H) :
    ReturnsInHanded {} Try.checked os 8 .any (Rows.gridOneSpec.pre6 enc Try.prog Try.f8 Rows.gridOneRow.domain false) (Rows.gridOneSpec.post enc Try.prog Try.f8 false true false false) := by
  refine returnsInHanded_of_change (C := Try.checked) own started (by kernel_rfl) Try.func8
    (ChangeSpec.witness6 (enc := enc) (C := Try.checked) false ⟨#[], #[.slice none 0 0], []⟩ 8 (by kernel_rfl) (by kernel_rfl) (by kernel_rfl) (by kernel_rfl)) ?_
  intro W base args ds gs before hval0 hW hcnd _
  have hval : ∀ (j : Nat) t v, Try.f8.params[j]? = some t → args[j]? = some v → Value.okWide Try.prog W .any base t v := hval0
  have hW' := hW
  obtain ⟨p, q, hA0, hV, rfl, hfz, hnd⟩ := hW
  have hA : DataW.TrodAll enc Try.prog W 0 (fun _ => true) true Try.f8.params.toList args.toList ds p := hA0
  rw [Try.params8] at hA hval
  obtain ⟨v0, vs0, d0, ds0, p0, q0, hargs, rfl, rfl, h0, r0⟩ := trodAll_cons hA
  obtain ⟨rfl, rfl, rfl⟩ := trodAll_nil r0
  obtain rfl : args = #[v0] := by cases args; simp_all
  obtain ⟨rfl, rfl⟩ := trodVars_none hV
  obtain ⟨a0, l0, c0, rfl⟩ := okWide_slice Try.underlying31 (hval 0 31 v0 rfl rfl)
  have k0 := h0
  have lt0 : ∀ x ∈ p0, x.block < W.heap.size := by obtain ⟨m, hm⟩ := k0; exact DataW.trod_lt m _ _ _ hm
  obtain ⟨L0, f0, g0⟩ := arg_of h0
  clear hA0 hval0
  refine (walk W _ _ L0 f0 g0).mono fun e W' ⟨he, bel⟩ => ?_
  subst he
  exact ⟨_, rfl, _, _, _, [], _, [], hW', trodAll_mk1 (shut_bool Try.underlying4 _), (trodAll_cons_mk (Below.trod Try.laidOut (by kernel_rfl) (of_decide_eq_true (by kernel_rfl)) k0 bel lt0) trodAll_mk0), rfl, bel.frame _, fun h => by cases h⟩

theorem over : Rows.gridOneRow.holds Try.pinned (OpenSpec.ofChange Rows.gridOneSpec) :=
  OpenClaim.holds_of_wide 8 Try.f8 rfl rfl rfl rfl rfl rfl rfl ⟨rfl, rfl, rfl, rfl, rfl⟩ rfl rfl rfl rfl rfl (by kernel_rfl) Try.func8 (by kernel_rfl)
    (of_decide_eq_true (by kernel_rfl)) (by unfold Func.isWrapper; first | (rw [if_pos (by decide +kernel)]; kernel_rfl) | (rw [if_neg (by decide +kernel)]; exact ⟨rfl, rfl⟩))
    (fun os started H enc _ => lifted os started H enc)
end Go.Proofs.Ytmjmddapmmimaaa.gridOne

namespace Go.Proofs.Ytmjmddapmmimaaa
theorem gridOne_holds : Rows.GridOneSaid := gridOne.over
#print axioms gridOne_holds
end Go.Proofs.Ytmjmddapmmimaaa
