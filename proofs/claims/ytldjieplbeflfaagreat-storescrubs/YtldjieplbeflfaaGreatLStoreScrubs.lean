/-
  Whatever setup and things to do there are: behind a scrub that says nothing is lost just the blocks of disks that are gone are wrong; scrubbed again, nothing is written. No condition.
-/
import Derived.Test.YtldjieplbeflfaaGreatRows
import Derived.Test.YtldjieplbeflfaaGreatLHOpenS
import Derived.Test.YtldjieplbeflfaaGreatLHScrV
import Derived.Test.YtldjieplbeflfaaGreatLHScrW
import Derived.ProofKit
import Derived.OpenShut
import Derived.Carry
import Derived.Deep.Cut
import Derived.Deep.CutRange
import Derived.SizedLaws
namespace Go.Proofs.YtldjieplbeflfaaGreat.storeScrubs
open Go.ChangeShapes Go.WideShapes Go.ChangeAt Go.RowKit
set_option linter.unusedVariables false

theorem own : ownKnob Tryz.prog.godebug = none := by kernel_rfl

set_option maxHeartbeats 2000000 in
set_option maxRecDepth 100000 in
/-- Too many things. -/
theorem many (w : World) (d s b : Int) (A : Option Addr) (n C : Nat) (hn : n ≤ 9223372036854775800) (h77 : 77 < n) :
    Calls Tryz.prog 5 #[.agg #[.int .i64 d, .int .i64 s, .int .i64 b], .slice A n C] w fun e w' => e = .returned (.bool true) ∧ Below w.heap.size w w' := by
  have b0 : Below w.heap.size w (w.alloc (.cells #[.int .i64 d, .int .i64 s, .int .i64 b] 23)) := (Below.refl _ _).alloc (Nat.le_refl _) _
  have HA := alive_any (w.alloc (.cells #[.int .i64 d, .int .i64 s, .int .i64 b] 23))
  have hwr : IntKind.i64.wrap ((n : Int) + 3) = (n : Int) + 3 := by rw [IntKind.wrap_i64]; omega
  have x1 : (80 : Int) < (n : Int) + 3 := by omega
  go_enter Tryz.func5, Tryz.ntmps5
  go_wp2_with fail
  refine HA.mono ?_
  rintro e w1 ⟨rfl, b1⟩
  have b1 := bt b0 b1
  clear HA b0
  go_wp2_with fail
  go_ret
  exact ⟨rfl, b1⟩
theorem walk (w : World) (d s b : Int) (v : Value) (l : List Sto.Do) (hD : Dos w v l) (hz : ∀ d, d ∈ l → RngD d) (hsz : l.length * 96 ≤ reachBytes) :
    Calls Tryz.prog 5 #[.agg #[.int .i64 d, .int .i64 s, .int .i64 b], v] w fun e w' => e = .returned (.bool true) ∧ Below w.heap.size w w' := by
  have hD' := hD
  obtain ⟨A, C, rfl, hc1, hc2, _⟩ := hD'
  by_cases h77 : l.length ≤ 77
  · by_cases h0 : wrongS d s b = 0
    · obtain ⟨c, ed, es, eb, h1, h2, h3, h4, h5⟩ := setup_ok h0
      obtain ⟨X, hX⟩ := Sto.six
      exact scrub_main w d s b A C l hD hz c ed es eb h1 h2 h3 h4 h5 X hX h77
    · exact scrub_bad w d s b A C l hD h77 h0
  · exact many w d s b A l.length C (by unfold reachBytes at hsz; omega) (by omega)

set_option maxRecDepth 100000 in
theorem lifted (os : Os) (started : os.Started) (H : Type) (enc : TypeId × Value → H) :
    ReturnsInHanded {} Tryz.checked os 5 .any (Rows.storeScrubsSpec.pre6 enc Tryz.prog Tryz.f5 Rows.storeScrubsRow.domain false) (Rows.storeScrubsSpec.post enc Tryz.prog Tryz.f5 false true false false) := by
  refine returnsInHanded_of_change_sized (C := Tryz.checked) own started (by kernel_rfl) Tryz.func5
    (ChangeSpec.witness6 (enc := enc) (C := Tryz.checked) false ⟨#[], #[.agg #[.int .i64 0, .int .i64 0, .int .i64 0], .slice none 0 0], []⟩ 8 (by kernel_rfl) (by kernel_rfl) (by kernel_rfl) (by kernel_rfl)) ?_
  intro W base args ds gs before hval0 hW hcnd hsz _
  have hval : ∀ (j : Nat) t v, Tryz.f5.params[j]? = some t → args[j]? = some v → Value.okWide Tryz.prog W .any base t v := hval0
  have hW' := hW
  obtain ⟨p, q, hA0, hV, rfl, hfz, hnd⟩ := hW
  have hA : DataW.TrodAll enc Tryz.prog W 0 (fun _ => true) true Tryz.f5.params.toList args.toList ds p := hA0
  rw [Tryz.params5] at hA hval hsz
  obtain ⟨v0, vs0, d0, ds0, p0, q0, hargs, rfl, rfl, h0, r0⟩ := trodAll_cons hA
  obtain ⟨v1, vs1, d1, ds1, p1, q1, rfl, rfl, rfl, h1, r1⟩ := trodAll_cons r0
  obtain ⟨rfl, rfl, rfl⟩ := trodAll_nil r1
  obtain rfl : args = #[v0, v1] := by cases args; simp_all
  obtain ⟨rfl, rfl⟩ := trodVars_none hV
  have k0 := h0
  have lt0 : ∀ x ∈ p0, x.block < W.heap.size := by obtain ⟨m, hm⟩ := k0; exact DataW.trod_lt m _ _ _ hm
  obtain ⟨s0, t0, z0, rfl⟩ := setup_of (hval 0 23 v0 rfl rfl) h0
  obtain ⟨a1, l1, c1, rfl⟩ := okWide_slice Tryz.underlying24 (hval 1 24 v1 rfl rfl)
  have k1 := h1
  have lt1 : ∀ x ∈ p1, x.block < W.heap.size := by obtain ⟨m, hm⟩ := k1; exact DataW.trod_lt m _ _ _ hm
  obtain ⟨f1, g1, z1⟩ := dos_of h1
  have y1 := dos_short h1 (fun x hx => by simpa using List.all_eq_true.1 hsz x (DataW.weights_mem_each (j := 1) rfl rfl x hx))
  clear hA0 hval0
  refine (walk W s0 t0 z0 _ _ g1 z1 (by obtain ⟨_, _, hv, _⟩ := g1; cases hv; exact y1)).mono fun e W' ⟨he, bel⟩ => ?_
  subst he
  exact ⟨_, rfl, _, _, _, [], _, [], hW', trodAll_mk1 (shut_bool Tryz.underlying4 _), (trodAll_cons_mk (Below.trod Tryz.laidOut (by kernel_rfl) (of_decide_eq_true (by kernel_rfl)) k0 bel lt0) (trodAll_cons_mk (Below.trod Tryz.laidOut (by kernel_rfl) (of_decide_eq_true (by kernel_rfl)) k1 bel lt1) trodAll_mk0)), rfl, bel.frame _, fun h => by cases h⟩

theorem over : Rows.storeScrubsRow.holds Tryz.pinned (OpenSpec.ofChange Rows.storeScrubsSpec) :=
  OpenClaim.holds_of_wide 5 Tryz.f5 rfl rfl rfl rfl rfl rfl rfl ⟨rfl, rfl, rfl, rfl, rfl⟩ rfl rfl rfl rfl rfl (by kernel_rfl) Tryz.func5 (by kernel_rfl)
    (of_decide_eq_true (by kernel_rfl)) (by unfold Func.isWrapper; first | (rw [if_pos (by decide +kernel)]; kernel_rfl) | (rw [if_neg (by decide +kernel)]; exact ⟨rfl, rfl⟩))
    (fun os started H enc _ => lifted os started H enc)
end Go.Proofs.YtldjieplbeflfaaGreat.storeScrubs

namespace Go.Proofs.YtldjieplbeflfaaGreat
theorem storeScrubs_holds : Rows.StoreScrubsSaid := storeScrubs.over
#print axioms storeScrubs_holds
end Go.Proofs.YtldjieplbeflfaaGreat
