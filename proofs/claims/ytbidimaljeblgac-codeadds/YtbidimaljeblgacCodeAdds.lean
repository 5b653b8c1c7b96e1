/-
  Whatever two lists of data there are: where all three have spare shards, those of their sum, byte by byte, are the sum of theirs. No condition.
-/
import Derived.Test.YtbidimaljeblgacRows
import Derived.Test.YtbidimaljeblgacOpenW
import Derived.Test.YtbidimaljeblgacCPlus
import Derived.ProofKit
import Derived.OpenShut
import Derived.Carry
import Derived.SizedLaws
namespace Go.Proofs.Ytbidimaljeblgac.codeAdds
open Go.ChangeShapes Go.WideShapes Go.ChangeAt Go.RowKit
set_option linter.unusedVariables false

theorem own : ownKnob Try.prog.godebug = none := by kernel_rfl

theorem Try.enters_plus : ∀ args w, (callFunc 6 args).run Try.prog w = .ok (.enter 6 args) w := enters_of Try.func6 (by kernel_rfl) rfl

set_option maxHeartbeats 400000 in
theorem same_zero (A : Option Addr) (c : Nat) (w : World) :
    Calls Try.prog 8 #[.slice A 0 c, .slice none 0 0] w fun e w' => e = .returned (.bool true) ∧ Below w.heap.size w w' := by
  go_enter Try.func8, Try.ntmps8
  go_wp2_with fail
  refine wp_loop_rounds 1 ?_
  rw [rounds_succ]
  go_wp2_with fail
  go_ret
  exact ⟨rfl, Below.refl _ _⟩

theorem spareE_zero {n : Nat} {L : Nat → Nat} {s : Int} (h : spareE n L s = 0) : 1 ≤ n ∧ n ≤ 8 ∧ 0 ≤ s ∧ s ≤ 4 ∧ wrongE n L = 0 := by
  unfold spareE at h
  split at h
  · cases h
  · rename_i hw
    have hw' : ¬ ((n : Int) < 1 ∨ 8 < (n : Int) ∨ s < 0 ∨ 4 < s) := fun h => hw (by rw [wrongC_bad h]; decide)
    exact ⟨by omega, by omega, by omega, by omega, h⟩
theorem spare_plus (n : Nat) (fa fb : Nat → Nat → Nat) (i k : Nat) : plusF (Gf.mm n (spareF n) fa) (Gf.mm n (spareF n) fb) i k = Gf.mm n (spareF n) (plusF fa fb) i k :=
  (Gf.dot_xor_right (spareF n i) (fun l => fa l k) (fun l => fb l k) n).symm

set_option maxHeartbeats 400000 in
theorem other (w : World) (A A' : Option Addr) (n n' p p' : Nat) (s : Int) (hne : n ≠ n') :
    Calls Try.prog 3 #[.slice A n p, .slice A' n' p', .int .i64 s] w fun e w' => e = .returned (.bool true) ∧ Below w.heap.size w w' := by
  have h' : ((n : Int) == (n' : Int)) = false := by rw [beq_eq_false_iff_ne]; omega
  clear hne
  go_enter Try.func3, Try.ntmps3
  go_wp2_with fail
  refine (alive3_any _).mono ?_
  rintro e u1 ⟨rfl, b1⟩
  go_wp2_with fail
  go_ret
  exact ⟨rfl, b1⟩

set_option maxHeartbeats 2000000 in
theorem equal (w : World) (va vb : Value) (n : Nat) (La Lb : Nat → Nat) (fa fb : Nat → Nat → Nat) (ha : Arg w va n La fa) (hb : Arg w vb n Lb fb) (hn : n * 24 ≤ reachBytes) (hl : ∀ i, i < n → La i ≤ reachBytes) (s : Int) :
    Calls Try.prog 3 #[va, vb, .int .i64 s] w fun e w' => e = .returned (.bool true) ∧ Below w.heap.size w w' := by
  have HP := fun w' hb' => plus_any va vb n La Lb fa fb w' (ha.below (w' := w') hb') (hb.below hb') hn hl
  have H1 := fun w' hb' => spareO va n La fa s w' (ha.below (w' := w') hb')
  have H2 := fun w' hb' => spareO vb n Lb fb s w' (hb.below (w' := w') hb')
  have bda := ha.bd
  have bdb := hb.bd
  have hbd := plusF_bd bda bdb
  have bdx : Gf.Bd2 (plusF (Gf.mm n (spareF n) fa) (Gf.mm n (spareF n) fb)) := plusF_bd (Gf.mm_bd (spareF_bd n) n fa) (Gf.mm_bd (spareF_bd n) n fb)
  have eg := Try.enters_plus
  obtain ⟨A, p, R, C, rfl, _⟩ := ha.lies
  obtain ⟨A', p', R', C', rfl, _⟩ := hb.lies
  generalize e1 : spareE n La s = E1 at H1
  generalize e2 : spareE n Lb s = E2 at H2
  have Q1 : Hid (spareE n La s = E1) := e1
  have Q2 : Hid (spareE n Lb s = E2) := e2
  clear ha hb e1 e2
  go_enter Try.func3, Try.ntmps3
  go_wp2_with fail
  refine (alive3_any _).mono ?_
  rintro e u1 ⟨rfl, b1⟩
  go_wp2_with fail
  refine (HP _ b1).mono ?_
  rintro e u2 ⟨vc, m, rfl, hm, ac, b2⟩
  have QM : Hid ((m = n ∧ ∀ i, i < n → La i = Lb i) ∨ (m = 0 ∧ ¬ ∀ i, i < n → La i = Lb i)) := hm
  have b2 := bt b1 b2
  clear HP hm
  go_wp2_with fail
  refine (H1 _ b2).mono ?_
  rintro e u3 ⟨vx, rfl, ox, b3⟩
  have ac := ac.below b3
  have b3 := bt b2 b3
  clear H1 b1 b2
  go_wp2_with fail
  refine (H2 _ b3).mono ?_
  rintro e u4 ⟨vy, rfl, oy, b4⟩
  have ac := ac.below b4
  have ox := ox.below b4
  have b4 := bt b3 b4
  clear H2 b3
  have H3 := spareO vc m La (plusF fa fb) s u4 ac
  generalize e3 : spareE m La s = E3 at H3
  have Q3 : Hid (spareE m La s = E3) := e3
  clear e3 ac
  go_wp2_with fail
  refine H3.mono ?_
  rintro e u5 ⟨vz, rfl, oz, b5⟩
  have ox := ox.below b5
  have oy := oy.below b5
  have b5 := bt b4 b5
  clear H3 b4
  by_cases z1 : E1 = 0
  · subst z1
    by_cases z2 : E2 = 0
    · subst z2
      by_cases z3 : E3 = 0
      · subst z3
        obtain ⟨a1, a2, a3, a4, a5⟩ := spareE_zero Q1.out
        obtain ⟨_, _, _, _, c5⟩ := spareE_zero Q2.out
        obtain ⟨c1, _, _, _, _⟩ := spareE_zero Q3.out
        obtain ⟨t, rfl⟩ := Int.eq_ofNat_of_zero_le a3
        rcases QM.out with ⟨rfl, hLL⟩ | ⟨h, _⟩
        · have hL0 : Lb 0 = La 0 := (hLL 0 (by omega)).symm
          obtain ⟨_, _, d3, d4, _⟩ := wrongE_zero a5
          have ht : (t : Int).toNat = t := rfl
          rw [ht] at ox oy oz
          rw [hL0] at oy
          have hre := reachBytes_lt
          have d5 : La 0 ≤ reachBytes := hl 0 (by omega)
          generalize La 0 = c at ox oy oz d3 d4 d5
          rcases Nat.eq_zero_or_pos t with hz | hz
          · subst hz
            rcases ox with ⟨_, mx⟩ | ⟨_, rfl⟩
            · have := mx.dim
              omega
            rcases oy with ⟨_, mx⟩ | ⟨_, rfl⟩
            · have := mx.dim
              omega
            rcases oz with ⟨_, mx⟩ | ⟨_, rfl⟩
            · have := mx.dim
              omega
            have HN := plus_any (.slice none 0 0) (.slice none 0 0) 0 (fun _ => c) (fun _ => c) fa fb u5 ⟨bda, none, 0, fun _ => none, fun _ => 0, rfl, fun r hr => absurd hr (Nat.not_lt_zero r)⟩ ⟨bdb, none, 0, fun _ => none, fun _ => 0, rfl, fun r hr => absurd hr (Nat.not_lt_zero r)⟩ (by omega) (fun i hi => absurd hi (Nat.not_lt_zero i))
            clear Q1 Q2 Q3 QM
            go_wp2_with fail
            refine HN.mono ?_
            rintro e u6 ⟨v6, m6, rfl, hm6, a6, b6⟩
            have e6 : m6 = 0 := by omega
            subst e6
            obtain ⟨A6, p6, R6, C6, rfl, _⟩ := a6.lies
            have b6 := bt b5 b6
            clear HN hm6 a6
            go_wp2_with fail
            refine (same_zero A6 p6 u6).mono ?_
            rintro e u7 ⟨rfl, b7⟩
            have b7 := bt b6 b7
            go_wp2_with fail
            go_ret
            exact ⟨rfl, b7⟩
          · rcases ox with ⟨_, mx⟩ | ⟨h, _⟩
            · rcases oy with ⟨_, my⟩ | ⟨h, _⟩
              · rcases oz with ⟨_, mz⟩ | ⟨h, _⟩
                · have HN := plus_any vx vy t (fun _ => c) (fun _ => c) _ _ u5 mx.arg my.arg (by unfold reachBytes; omega) (fun i _ => d5)
                  obtain ⟨bx, ox', px, Gx, Ox, Kx, rfl, _⟩ := mx.lies
                  obtain ⟨by', oy', py, Gy, Oy, Ky, rfl, _⟩ := my.lies
                  clear Q1 Q2 Q3 QM
                  go_wp2_with fail
                  refine HN.mono ?_
                  rintro e u6 ⟨v6, m6, rfl, hm6, a6, b6⟩
                  have e6 : m6 = t := by
                    rcases hm6 with ⟨h, _⟩ | ⟨_, h⟩
                    · exact h
                    · exact absurd (fun _ _ => trivial) h
                  subst e6
                  have hs := same_any v6 vz m6 c _ _ u6 (a6.mx (wrongE_ok hz (by omega) d3 d4 (fun _ _ => rfl))) (mz.below b6) (fun i _ k _ => spare_plus m fa fb i k)
                  have b6 := bt b5 b6
                  clear HN hm6 a6 mx my mz
                  go_wp2_with fail
                  refine hs.mono ?_
                  rintro e u7 ⟨rfl, b7⟩
                  have b7 := bt b6 b7
                  clear hs
                  go_wp2_with fail
                  go_ret
                  exact ⟨rfl, b7⟩
                · omega
              · omega
            · omega
        · omega
      · have z3' : ((E3 : Int) == 0) = false := by rw [beq_eq_false_iff_ne]; omega
        have z3n : ((E3 : Int) != 0) = true := by rw [bne, z3']; rfl
        clear z3 Q1 Q2 Q3 QM ox oy oz
        go_wp2_with fail
        go_ret
        exact ⟨rfl, b5⟩
    · have z2' : ((E2 : Int) == 0) = false := by rw [beq_eq_false_iff_ne]; omega
      have z2n : ((E2 : Int) != 0) = true := by rw [bne, z2']; rfl
      clear z2 Q1 Q2 Q3 QM ox oy oz
      go_wp2_with fail
      go_ret
      exact ⟨rfl, b5⟩
  · have z1' : ((E1 : Int) == 0) = false := by rw [beq_eq_false_iff_ne]; omega
    have z1n : ((E1 : Int) != 0) = true := by rw [bne, z1']; rfl
    clear z1 Q1 Q2 Q3 QM ox oy oz
    go_wp2_with fail
    go_ret
    exact ⟨rfl, b5⟩

theorem walk (w : World) (va : Value) (n0 : Nat) (L0 : Nat → Nat) (f0 : Nat → Nat → Nat) (g0 : Arg w va n0 L0 f0) (z0 : n0 * 24 ≤ reachBytes ∧ ∀ r, r < n0 → L0 r ≤ reachBytes) (vb : Value) (n1 : Nat) (L1 : Nat → Nat) (f1 : Nat → Nat → Nat) (g1 : Arg w vb n1 L1 f1) (z1 : n1 * 24 ≤ reachBytes ∧ ∀ r, r < n1 → L1 r ≤ reachBytes) (s : Int) (ws : (Lit.int .i64 s).wf = true) :
    Calls Try.prog 3 #[va, vb, .int .i64 s] w fun e w' => e = .returned (.bool true) ∧ Below w.heap.size w w' := by
  by_cases h : n0 = n1
  · subst h
    exact equal w va vb n0 L0 L1 f0 f1 g0 g1 z0.1 z0.2 s
  · obtain ⟨A, p, R, C, rfl, _⟩ := g0.lies
    obtain ⟨A', p', R', C', rfl, _⟩ := g1.lies
    exact other w A A' n0 n1 p p' s h

set_option maxRecDepth 100000 in
theorem lifted (os : Os) (started : os.Started) (H : Type) (enc : TypeId × Value → H) :
    ReturnsInHanded {} Try.checked os 3 .any (Rows.codeAddsSpec.pre6 enc Try.prog Try.f3 Rows.codeAddsRow.domain false) (Rows.codeAddsSpec.post enc Try.prog Try.f3 false true false false) := by
  refine returnsInHanded_of_change_sized (C := Try.checked) own started (by kernel_rfl) Try.func3
    (ChangeSpec.witness6 (enc := enc) (C := Try.checked) false ⟨#[], #[.slice none 0 0, .slice none 0 0, .int .i64 0], []⟩ 8 (by kernel_rfl) (by kernel_rfl) (by kernel_rfl) (by kernel_rfl)) ?_
  intro W base args ds gs before hval0 hW hcnd hsz _
  have hval : ∀ (j : Nat) t v, Try.f3.params[j]? = some t → args[j]? = some v → Value.okWide Try.prog W .any base t v := hval0
  have hW' := hW
  obtain ⟨p, q, hA0, hV, rfl, hfz, hnd⟩ := hW
  have hA : DataW.TrodAll enc Try.prog W 0 (fun _ => true) true Try.f3.params.toList args.toList ds p := hA0
  rw [Try.params3] at hA hval hsz
  obtain ⟨v0, vs0, d0, ds0, p0, q0, hargs, rfl, rfl, h0, r0⟩ := trodAll_cons hA
  obtain ⟨v1, vs1, d1, ds1, p1, q1, rfl, rfl, rfl, h1, r1⟩ := trodAll_cons r0
  obtain ⟨v2, vs2, d2, ds2, p2, q2, rfl, rfl, rfl, h2, r2⟩ := trodAll_cons r1
  obtain ⟨rfl, rfl, rfl⟩ := trodAll_nil r2
  obtain rfl : args = #[v0, v1, v2] := by cases args; simp_all
  obtain ⟨rfl, rfl⟩ := trodVars_none hV
  obtain ⟨a0, l0, c0, rfl⟩ := okWide_slice Try.underlying22 (hval 0 22 v0 rfl rfl)
  have k0 := h0
  have lt0 : ∀ x ∈ p0, x.block < W.heap.size := by obtain ⟨m, hm⟩ := k0; exact DataW.trod_lt m _ _ _ hm
  obtain ⟨L0, f0, g0, z0⟩ := argW_of h0 (fun x hx => by simpa using List.all_eq_true.1 hsz x (DataW.weights_mem_each (j := 0) rfl rfl x hx))
  obtain ⟨a1, l1, c1, rfl⟩ := okWide_slice Try.underlying22 (hval 1 22 v1 rfl rfl)
  have k1 := h1
  have lt1 : ∀ x ∈ p1, x.block < W.heap.size := by obtain ⟨m, hm⟩ := k1; exact DataW.trod_lt m _ _ _ hm
  obtain ⟨L1, f1, g1, z1⟩ := argW_of h1 (fun x hx => by simpa using List.all_eq_true.1 hsz x (DataW.weights_mem_each (j := 1) rfl rfl x hx))
  obtain ⟨a2, rfl, rfl, rfl, g2⟩ := open_int Try.underlying3 (hval 2 3 v2 rfl rfl) h2
  clear hA0 hval0
  refine (walk W _ _ L0 f0 g0 z0 _ _ L1 f1 g1 z1 a2 g2).mono fun e W' ⟨he, bel⟩ => ?_
  subst he
  exact ⟨_, rfl, _, _, _, [], _, [], hW', trodAll_mk1 (shut_bool Try.underlying4 _), (trodAll_cons_mk (Below.trod Try.laidOut (by kernel_rfl) (of_decide_eq_true (by kernel_rfl)) k0 bel lt0) (trodAll_cons_mk (Below.trod Try.laidOut (by kernel_rfl) (of_decide_eq_true (by kernel_rfl)) k1 bel lt1) (trodAll_cons_mk (shut_int Try.underlying3 g2) trodAll_mk0))), rfl, bel.frame _, fun h => by cases h⟩

theorem over : Rows.codeAddsRow.holds Try.pinned (OpenSpec.ofChange Rows.codeAddsSpec) :=
  OpenClaim.holds_of_wide 3 Try.f3 rfl rfl rfl rfl rfl rfl rfl ⟨rfl, rfl, rfl, rfl, rfl⟩ rfl rfl rfl rfl rfl (by kernel_rfl) Try.func3 (by kernel_rfl)
    (of_decide_eq_true (by kernel_rfl)) (by unfold Func.isWrapper; first | (rw [if_pos (by decide +kernel)]; kernel_rfl) | (rw [if_neg (by decide +kernel)]; exact ⟨rfl, rfl⟩))
    (fun os started H enc _ => lifted os started H enc)
end Go.Proofs.Ytbidimaljeblgac.codeAdds

namespace Go.Proofs.Ytbidimaljeblgac
theorem codeAdds_holds : Rows.CodeAddsSaid := codeAdds.over
#print axioms codeAdds_holds
end Go.Proofs.Ytbidimaljeblgac
