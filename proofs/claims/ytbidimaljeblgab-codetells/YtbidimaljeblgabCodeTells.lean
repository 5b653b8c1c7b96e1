/-
  Whatever list of shards and numbers there are: what code's Wrong, Rows, Spare, Mend and Good tell is what the document's own text tells. No condition.
-/
import Derived.Test.YtbidimaljeblgabRows
import Derived.Test.YtbidimaljeblgabOpenS
import Derived.Test.YtbidimaljeblgabCTells
import Derived.ProofKit
import Derived.OpenShut
import Derived.Carry
namespace Go.Proofs.Ytbidimaljeblgab.codeTells
open Go.ChangeShapes Go.WideShapes Go.ChangeAt Go.RowKit
set_option linter.unusedVariables false

theorem own : ownKnob Try.prog.godebug = none := by kernel_rfl

set_option maxHeartbeats 1000000 in
theorem walk (w : World) (A : Option Addr) (n0 cap0 : Nat) (L0 : Nat → Nat) (f0 : Nat → Nat → Nat) (g0 : Arg w (.slice A n0 cap0) n0 L0 f0) (z0 : n0 ≤ cap0 ∧ cap0 ≤ maxLen ∧ ∀ r, r < n0 → L0 r ≤ maxLen) (d : Int) (w1 : (Lit.int .i64 d).wf = true) (s : Int) (w2 : (Lit.int .i64 s).wf = true) :
    Calls Try.prog 6 #[.slice A n0 cap0, .int .i64 d, .int .i64 s] w fun e w' => e = .returned (.bool true) ∧ Below w.heap.size w w' := by
  have hN : n0 ≤ maxLen := Nat.le_trans z0.1 z0.2.1
  have hcap : Cap (.slice A n0 cap0) := ⟨_, _, _, rfl, z0.1⟩
  have hw1 := codeWrong_any d s
  have hw2 := refWrongC_any d s
  have hg1 := fun w' hb' => goodO _ n0 L0 f0 d w' (g0.below (w' := w') hb') hcap hN
  have hg2 := fun w' hb' => refGoodO _ n0 L0 f0 d w' (g0.below (w' := w') hb') hcap hN
  have hr1 := rowsO d s
  have hr2 := refRowsO d s
  have hs1 := fun w' hb' => spareO _ n0 L0 f0 s w' (g0.below (w' := w') hb')
  have hs2 := fun w' hb' => refSpareO _ n0 L0 f0 s w' (g0.below (w' := w') hb')
  have hm1 := fun w' hb' => mendO _ n0 L0 f0 d w' (g0.below (w' := w') hb') hN
  have hm2 := fun w' hb' => refMendO _ n0 L0 f0 d w' (g0.below (w' := w') hb') hN
  generalize wrongC d s = E0 at hw1 hw2 hr1 hr2
  generalize spareE n0 L0 s = E1 at hs1 hs2
  generalize mendE d n0 L0 = E2 at hm1 hm2
  clear g0 hcap
  go_enter Try.func6, Try.ntmps6
  go_wp2_with fail
  refine (hw1 _).mono ?_
  rintro e u1 ⟨rfl, b1⟩
  go_wp2_with fail
  refine (hw2 _).mono ?_
  rintro e u2 ⟨rfl, b2⟩
  have b2 := bt b1 b2
  clear hw1 hw2 b1
  go_wp2_with fail
  refine (hg1 _ b2).mono ?_
  rintro e u3 ⟨⟨y3, rfl, q3⟩, b3⟩
  have b3 := bt b2 b3
  clear b2
  go_wp2_with fail
  refine (hg2 _ b3).mono ?_
  rintro e u4 ⟨⟨y4, rfl, q4⟩, b4⟩
  have e4 : y4 = y3 := by
    have := q4.trans q3.symm
    cases y3 <;> cases y4 <;> simp at this ⊢
  subst e4
  have b4 := bt b3 b4
  clear b3 hg1 hg2 q3 q4
  go_wp2_with fail
  refine (hr1 _).mono ?_
  rintro e u5 ⟨x5, rfl, o5, b5⟩
  have b5 := bt b4 b5
  clear b4
  go_wp2_with fail
  refine (hr2 _).mono ?_
  rintro e u6 ⟨x6, rfl, o6, b6⟩
  have o5 := o5.below b6
  have b6 := bt b5 b6
  clear b5 hr1 hr2
  go_wp2_with fail
  refine (sameO x5 x6 E0 _ _ _ _ _ o5 o6 (fun _ _ _ _ _ => rfl)).mono ?_
  rintro e u7 ⟨rfl, b7⟩
  have b7 := bt b6 b7
  clear b6 o5 o6
  go_wp2_with fail
  refine (hs1 _ b7).mono ?_
  rintro e u8 ⟨x8, rfl, o8, b8⟩
  have b8 := bt b7 b8
  clear b7
  go_wp2_with fail
  refine (hs2 _ b8).mono ?_
  rintro e u9 ⟨x9, rfl, o9, b9⟩
  have o8 := o8.below b9
  have b9 := bt b8 b9
  clear b8 hs1 hs2
  go_wp2_with fail
  refine (sameO x8 x9 E1 _ _ _ _ _ o8 o9 (fun _ _ _ _ _ => rfl)).mono ?_
  rintro e u10 ⟨rfl, b10⟩
  have b10 := bt b9 b10
  clear b9 o8 o9
  go_wp2_with fail
  refine (hm1 _ b10).mono ?_
  rintro e u11 ⟨x11, r11, rfl, _, q11, o11, b11⟩
  have Q11 : Hid (E2 = 0 → Gf.Bd2 r11 ∧ Gf.Und d.toNat (fun p => Gf.rowF d.toNat (thr L0 n0 p)) r11) := q11
  have b11 := bt b10 b11
  clear b10 q11
  go_wp2_with fail
  refine (hm2 _ b11).mono ?_
  rintro e u12 ⟨x12, r12, rfl, q12, o12, b12⟩
  have Q12 : Hid (E2 = 0 → Gf.Bd2 r12 ∧ Gf.Und d.toNat (fun p => Gf.rowF d.toNat (thr L0 n0 p)) r12) := q12
  have o11 := o11.below b12
  have b12 := bt b11 b12
  clear b11 q12 hm1 hm2
  have hs := sameO x11 x12 E2 _ _ _ _ _ o11 o12 (fun h i _ k _ => mend_same (fun p => Gf.rowF_bd _ _) (Q11.out h).1 (Q12.out h).1 (Q11.out h).2 (Q12.out h).2 i k)
  clear o11 o12
  go_wp2_with fail
  refine hs.mono ?_
  rintro e u13 ⟨rfl, b13⟩
  have b13 := bt b12 b13
  clear hs
  go_wp2_with fail
  go_ret
  exact ⟨rfl, b13⟩

set_option maxRecDepth 100000 in
theorem lifted (os : Os) (started : os.Started) (H : Type) (enc : TypeId × Value → H) :
    ReturnsInHanded {} Try.checked os 6 .any (Rows.codeTellsSpec.pre6 enc Try.prog Try.f6 Rows.codeTellsRow.domain false) (Rows.codeTellsSpec.post enc Try.prog Try.f6 false true false false) := by
  refine returnsInHanded_of_change (C := Try.checked) own started (by kernel_rfl) Try.func6
    (ChangeSpec.witness6 (enc := enc) (C := Try.checked) false ⟨#[], #[.slice none 0 0, .int .i64 0, .int .i64 0], []⟩ 8 (by kernel_rfl) (by kernel_rfl) (by kernel_rfl) (by kernel_rfl)) ?_
  intro W base args ds gs before hval0 hW hcnd _
  have hval : ∀ (j : Nat) t v, Try.f6.params[j]? = some t → args[j]? = some v → Value.okWide Try.prog W .any base t v := hval0
  have hW' := hW
  obtain ⟨p, q, hA0, hV, rfl, hfz, hnd⟩ := hW
  have hA : DataW.TrodAll enc Try.prog W 0 (fun _ => true) true Try.f6.params.toList args.toList ds p := hA0
  rw [Try.params6] at hA hval
  obtain ⟨v0, vs0, d0, ds0, p0, q0, hargs, rfl, rfl, h0, r0⟩ := trodAll_cons hA
  obtain ⟨v1, vs1, d1, ds1, p1, q1, rfl, rfl, rfl, h1, r1⟩ := trodAll_cons r0
  obtain ⟨v2, vs2, d2, ds2, p2, q2, rfl, rfl, rfl, h2, r2⟩ := trodAll_cons r1
  obtain ⟨rfl, rfl, rfl⟩ := trodAll_nil r2
  obtain rfl : args = #[v0, v1, v2] := by cases args; simp_all
  obtain ⟨rfl, rfl⟩ := trodVars_none hV
  obtain ⟨a0, l0, c0, rfl⟩ := okWide_slice Try.underlying22 (hval 0 22 v0 rfl rfl)
  have k0 := h0
  have lt0 : ∀ x ∈ p0, x.block < W.heap.size := by obtain ⟨m, hm⟩ := k0; exact DataW.trod_lt m _ _ _ hm
  obtain ⟨L0, f0, g0, z0⟩ := argS_of h0
  obtain ⟨a1, rfl, rfl, rfl, g1⟩ := open_int Try.underlying3 (hval 1 3 v1 rfl rfl) h1
  obtain ⟨a2, rfl, rfl, rfl, g2⟩ := open_int Try.underlying3 (hval 2 3 v2 rfl rfl) h2
  clear hA0 hval0
  refine (walk W _ _ _ L0 f0 g0 z0 a1 g1 a2 g2).mono fun e W' ⟨he, bel⟩ => ?_
  subst he
  exact ⟨_, rfl, _, _, _, [], _, [], hW', trodAll_mk1 (shut_bool Try.underlying4 _), (trodAll_cons_mk (Below.trod Try.laidOut (by kernel_rfl) (of_decide_eq_true (by kernel_rfl)) k0 bel lt0) (trodAll_cons_mk (shut_int Try.underlying3 g1) (trodAll_cons_mk (shut_int Try.underlying3 g2) trodAll_mk0))), rfl, bel.frame _, fun h => by cases h⟩

theorem over : Rows.codeTellsRow.holds Try.pinned (OpenSpec.ofChange Rows.codeTellsSpec) :=
  OpenClaim.holds_of_wide 6 Try.f6 rfl rfl rfl rfl rfl rfl rfl ⟨rfl, rfl, rfl, rfl, rfl⟩ rfl rfl rfl rfl rfl (by kernel_rfl) Try.func6 (by kernel_rfl)
    (of_decide_eq_true (by kernel_rfl)) (by unfold Func.isWrapper; first | (rw [if_pos (by decide +kernel)]; kernel_rfl) | (rw [if_neg (by decide +kernel)]; exact ⟨rfl, rfl⟩))
    (fun os started H enc _ => lifted os started H enc)
end Go.Proofs.Ytbidimaljeblgab.codeTells

namespace Go.Proofs.Ytbidimaljeblgab
theorem codeTells_holds : Rows.CodeTellsSaid := codeTells.over
#print axioms codeTells_holds
end Go.Proofs.Ytbidimaljeblgab
