/-
  Whatever data and number of spare shards there are, and whichever shards are gone: where they are no more than there are spare ones all are there again, as they were; where they are more that is said. No condition.
-/
import Derived.Test.YtbidimaljeblgabRows
import Derived.Test.YtbidimaljeblgabOpenS
import Derived.Test.YtbidimaljeblgabOpenI
import Derived.Test.YtbidimaljeblgabCGone
import Derived.ProofKit
import Derived.OpenShut
import Derived.Carry
namespace Go.Proofs.Ytbidimaljeblgab.codeMends
open Go.ChangeShapes Go.WideShapes Go.ChangeAt Go.RowKit
set_option linter.unusedVariables false

theorem own : ownKnob Try.prog.godebug = none := by kernel_rfl

set_option maxHeartbeats 400000 in
theorem bad (w : World) (v : Value) (n0 : Nat) (L0 : Nat → Nat) (f0 : Nat → Nat → Nat) (g0 : Arg w v n0 L0 f0) (s : Int) (A2 : Option Addr) (n2 cap2 : Nat) (hx : spareE n0 L0 s ≠ 0) :
    Calls Try.prog 7 #[v, .int .i64 s, .slice A2 n2 cap2] w fun e w' => e = .returned (.bool true) ∧ Below w.heap.size w w' := by
  have hA := fun w' hb' => all_bad _ n0 L0 f0 s w' (g0.below (w' := w') hb') hx
  obtain ⟨A, cap, R, C, rfl, _⟩ := g0.lies
  clear g0 hx
  go_enter Try.func7, Try.ntmps7
  go_wp2_with fail
  refine (alive3_any _).mono ?_
  rintro e u1 ⟨rfl, b1⟩
  go_wp2_with fail
  refine (hA _ b1).mono ?_
  rintro e u2 ⟨rfl, b2⟩
  have b2 := bt b1 b2
  clear hA
  go_wp2_with fail
  go_ret
  exact ⟨rfl, b2⟩

set_option maxHeartbeats 2000000 in
theorem ok (w : World) (v : Value) (n s c : Nat) (f : Nat → Nat → Nat) (mx : Mx w v n c f) (h2 : n ≤ 8) (h4 : s ≤ 4) (A2 : Option Addr) (len cap2 : Nat) (Z : Nat → Int) (gz : Ints w (.slice A2 len cap2) len Z) (hlen : len ≤ maxLen) :
    Calls Try.prog 7 #[v, .int .i64 (s : Int), .slice A2 len cap2] w fun e w' => e = .returned (.bool true) ∧ Below w.heap.size w w' := by
  have hbf := mx.bd
  obtain ⟨d1, d2, d3, d4⟩ := mx.dim
  have hAll := fun w' hb' => all_any _ n s c f w' (mx.below (w' := w') hb') h2 h4
  have hbdA : Gf.Bd2 (Gf.mm n (Gf.rowF n) f) := Gf.mm_bd (Gf.rowF_bd n) n f
  obtain ⟨bl, ol, pl, Gl, Ol, Kl, rfl, _⟩ := mx.lies
  have h00 : ((n : Int) + (s : Int) == 0) = false := by rw [beq_eq_false_iff_ne]; omega
  have hzc : Hid (∀ i, i < len → ∃ b o, A2 = some ⟨b, o, none⟩ ∧ w.cell? ⟨b, o + i, none⟩ = some (.int .i64 (Z i))) := by
    obtain ⟨A', cap', hv, hr⟩ := gz.lies
    cases hv
    exact hr
  obtain ⟨i0, hi, hh⟩ := Option.map_eq_some_iff.1 Try.infoRow
  simp only [Prod.mk.injEq] at hh
  obtain ⟨hz0, hz1, hz2⟩ := hh
  unfold maxLen at hlen
  clear gz
  go_enter Try.func7, Try.ntmps7
  go_wp2_with fail
  refine (alive3_any _).mono ?_
  rintro e u1 ⟨rfl, b1⟩
  go_wp2_with fail
  refine (hAll _ b1).mono ?_
  rintro e u2 ⟨g, cp, rfl, hcp, ⟨G, O, K, hL⟩, b2⟩
  have b2 := bt b1 b2
  have hbX := (Below.refl u2.heap.size u2).alloc (Nat.le_refl _) (.cells #[] 34)
  have hown0 : (u2.alloc (.cells #[] 34)).ownsRow u2.heap.size 34 1 (.slice (some ⟨u2.heap.size, 0, none⟩) 0 0) 0 [] := World.ownsRow_made u2 #[] 0 (Nat.le_refl _) (by unfold maxLen; omega) rfl
  have hn1 := list_cells (fun r hr => (hL.below hbX).mat.top r hr)
  clear hAll mx b1
  go_wp2_with (at_builtin; refine wpList_append_own _ rfl (.tmp 31) (.tmp 32) 22 rfl u2.heap.size 34 i0 (.slice none 0 0) 1 24 Try.underlying22 hi hz0 hz1 hz2 rfl (by decide) _ _ _ rfl hown0 ⟨g, 0, none⟩ (n + s) cp ((List.range (n + s)).map fun r => .slice (some ⟨G r, O r, none⟩) c (K r)) rfl (by simp) hn1 (by intro u hu; obtain ⟨_, _, rfl⟩ := List.mem_map.1 hu; rfl) (by unfold maxLen; omega) (by omega) hbX.size ?_; intro v1 u3 hown1 hgrow1 _; rw [Nat.zero_add, List.nil_append] at hown1; obtain ⟨gL, capL, rfl, hgL, hcapL, hrow⟩ := rowC_owns hown1 (by omega))
  have b3 : Below u2.heap.size u2 u3 := hbX.grown hgrow1 hbX.size (fun x hx => (hown0.lt x hx).1)
  have hT : RowC u3 gL 34 (n + s) (goneV (fun _ => false) c G O K) := hrow.congr (fun i hi => by simp [List.getD, hi, goneV])
  have lg := hL.top.lt
  have lG : ∀ i, i < n + s → G i < u2.heap.size := fun i hi => hL.lt hi d3
  have hL3 := hL.below b3
  have b3 := bt b2 b3
  clear hown0 hn1 hown1 hgrow1 hrow hL
  go_loopw [10, 36] (fun x y wr => ∃ (i : Nat) (M : Nat → Bool), i ≤ len ∧ y = .int .i64 i ∧ x = .int .i64 (cnt M (n + s) : Nat) ∧ RowC wr gL 34 (n + s) (goneV M c G O K) ∧ Off (fun k => k = gL) u3 wr) (fun _ y _ => len - (intOf y).toNat)
  case atStart => exact ⟨0, fun _ => false, Nat.zero_le _, rfl, by rw [cnt_none]; rfl, hT, Off.refl _ _⟩
  case round =>
    clear hT
    obtain ⟨i, M, hi', rfl, rfl, hT, ho⟩ := hrel
    have hbo : Below w.heap.size w wr := b3.trans (ho.below b3.size (fun k hk => by rw [hk]; exact Nat.le_trans b2.size hgL))
    have hcl := cnt_le M (n + s)
    by_cases hlt : i < len
    · have hlt' : (i : Int) < (len : Int) := by omega
      obtain ⟨bz, oz, hA2, hcz⟩ := hzc.out i hlt
      subst hA2
      have hcz := (hbo.cell (p := ⟨bz, oz + i, none⟩) (World.block_lt_of_cell? _ _ hcz)).trans hcz
      generalize Z i = z at hcz
      by_cases hz : 0 ≤ z
      · obtain ⟨k, rfl⟩ := Int.eq_ofNat_of_zero_le hz
        by_cases hk : k < n + s
        · have hk' : (k : Int) < (n : Int) + (s : Int) := by omega
          have tk := hT.cell hk
          cases hM : M k with
          | true =>
            rw [show goneV M c G O K k = .slice none 0 0 from if_pos hM] at tk
            clear hM
            go_wp2_with fail
            exact ⟨⟨i + 1, M, by omega, by go_num, rfl, hT, ho⟩, by simp [intOf]; omega⟩
          | false =>
            rw [show goneV M c G O K k = .slice (some ⟨G k, O k, none⟩) c (K k) from if_neg (by rw [hM]; decide)] at tk
            have zk := hT.frozen k
            have hc' : (0 : Int) < (c : Int) := by omega
            have hc1 := cnt_lose hM (n + s) hk
            have HC1 : Hid (cnt (lose k M) (n + s) = cnt M (n + s) + 1) := hc1
            clear hM hc1
            go_wp2_with fail
            exact ⟨⟨i + 1, lose k M, by omega, by go_num, by rw [HC1.out]; go_num, gone_step hT, ho.set rfl _⟩, by simp [intOf]; omega⟩
        · have hk' : ¬ (k : Int) < (n : Int) + (s : Int) := by omega
          go_wp2_with fail
          exact ⟨⟨i + 1, M, by omega, by go_num, rfl, hT, ho⟩, by simp [intOf]; omega⟩
      · go_wp2_with fail
        exact ⟨⟨i + 1, M, by omega, by go_num, rfl, hT, ho⟩, by simp [intOf]; omega⟩
    · have e8 : i = len := by omega
      subst e8
      have hLr := hL3.off ho (by omega) (fun j hj _ => by have := lG j hj; omega)
      have hM := mendO _ (n + s) (goneL M c) (Gf.mm n (Gf.rowF n) f) n wr (arg_gone (cap := capL) hbdA hT (fun j hj k hk => hLr.row j hj k hk)) (by unfold maxLen; omega)
      by_cases hcs : s < cnt M (n + s)
      · rw [gone_lost d3 d1 h2 h4 hcs] at hM
        have hcs' : (s : Int) < (cnt M (n + s) : Int) := by omega
        clear hT hL3 hLr lG
        go_wp2_with fail
        refine hM.mono ?_
        rintro e u5 ⟨v5, r, rfl, _, _, hout, b5⟩
        rcases hout with ⟨h, _⟩ | ⟨_, rfl⟩
        · cases h
        have b5 := bt hbo b5
        clear hM
        go_wp2_with fail
        go_ret
        exact ⟨rfl, b5⟩
      · obtain ⟨e0, hnt⟩ := gone_ok (M := M) d3 d4 d1 h2 h4 (by omega)
        rw [e0, gone_len (by omega)] at hM
        have hcs' : ¬ (s : Int) < (cnt M (n + s) : Int) := by omega
        clear hT hL3 lG
        go_wp2_with fail
        refine hM.mono ?_
        rintro e u5 ⟨v5, r, rfl, _, hu, hout, b5⟩
        obtain ⟨hr, hu⟩ := hu (by trivial)
        rcases hout with ⟨_, m5⟩ | ⟨h, _⟩
        · have hs := same_any v5 _ (n + s) c _ _ u5 m5 ((hLr.below b5).mx (cap := cp) hbdA ⟨by omega, by omega, d3, d4⟩) (fun j hj k hk => mended (f := Gf.mm n (Gf.rowF n) f) hbf hr hu (fun _ _ => rfl) j)
          obtain ⟨b6, o6, p6, G6, O6, K6, rfl, _⟩ := m5.lies
          have b5 := bt hbo b5
          clear hM hu hr m5 hLr
          go_wp2_with fail
          refine hs.mono ?_
          rintro e u6 ⟨rfl, b6⟩
          have b6 := bt b5 b6
          clear hs
          go_wp2_with fail
          go_ret
          exact ⟨rfl, b6⟩
        · omega

theorem walk (w : World) (A : Option Addr) (n0 cap0 : Nat) (L0 : Nat → Nat) (f0 : Nat → Nat → Nat) (g0 : Arg w (.slice A n0 cap0) n0 L0 f0) (z0 : n0 ≤ cap0 ∧ cap0 ≤ maxLen ∧ ∀ r, r < n0 → L0 r ≤ maxLen) (s : Int) (w1 : (Lit.int .i64 s).wf = true) (A2 : Option Addr) (n2 cap2 : Nat) (Z : Nat → Int) (g2 : Ints w (.slice A2 n2 cap2) n2 Z) (z2 : n2 ≤ cap2 ∧ cap2 ≤ maxLen) :
    Calls Try.prog 7 #[.slice A n0 cap0, .int .i64 s, .slice A2 n2 cap2] w fun e w' => e = .returned (.bool true) ∧ Below w.heap.size w w' := by
  by_cases hx : spareE n0 L0 s ≠ 0
  · exact bad w _ n0 L0 f0 g0 s A2 n2 cap2 hx
  · have hx' : spareE n0 L0 s = 0 := by omega
    unfold spareE at hx'
    split at hx'
    · cases hx'
    · rename_i hw
      have hw' : ¬ ((n0 : Int) < 1 ∨ 8 < (n0 : Int) ∨ s < 0 ∨ 4 < s) := fun h => hw (by rw [wrongC_bad h]; decide)
      have mx := g0.mx hx'
      obtain ⟨m, rfl⟩ := Int.eq_ofNat_of_zero_le (show 0 ≤ s by omega)
      exact ok w _ n0 m (L0 0) f0 mx (by omega) (by omega) A2 n2 cap2 Z g2 (Nat.le_trans z2.1 z2.2)

set_option maxRecDepth 100000 in
theorem lifted (os : Os) (started : os.Started) (H : Type) (enc : TypeId × Value → H) :
    ReturnsInHanded {} Try.checked os 7 .any (Rows.codeMendsSpec.pre6 enc Try.prog Try.f7 Rows.codeMendsRow.domain false) (Rows.codeMendsSpec.post enc Try.prog Try.f7 false true false false) := by
  refine returnsInHanded_of_change (C := Try.checked) own started (by kernel_rfl) Try.func7
    (ChangeSpec.witness6 (enc := enc) (C := Try.checked) false ⟨#[], #[.slice none 0 0, .int .i64 0, .slice none 0 0], []⟩ 8 (by kernel_rfl) (by kernel_rfl) (by kernel_rfl) (by kernel_rfl)) ?_
  intro W base args ds gs before hval0 hW hcnd _
  have hval : ∀ (j : Nat) t v, Try.f7.params[j]? = some t → args[j]? = some v → Value.okWide Try.prog W .any base t v := hval0
  have hW' := hW
  obtain ⟨p, q, hA0, hV, rfl, hfz, hnd⟩ := hW
  have hA : DataW.TrodAll enc Try.prog W 0 (fun _ => true) true Try.f7.params.toList args.toList ds p := hA0
  rw [Try.params7] at hA hval
  obtain ⟨v0, vs0, d0, ds0, p0, q0, hargs, rfl, rfl, h0, r0⟩ := trodAll_cons hA
  obtain ⟨v1, vs1, d1, ds1, p1, q1, rfl, rfl, rfl, h1, r1⟩ := trodAll_cons r0
  obtain ⟨v2, vs2, d2, ds2, p2, q2, rfl, rfl, rfl, h2, r2⟩ := trodAll_cons r1
  obtain ⟨rfl, rfl, rfl⟩ := trodAll_nil r2
  obtain rfl : args = #[v0, v1, v2] := by cases args; simp_all
  obtain ⟨rfl, rfl⟩ := trodVars_none hV
  obtain ⟨a0, l0, c0, rfl⟩ := okWide_slice Try.underlying22 (hval 0 22 v0 rfl rfl)
  have k0 := h0
  have lt0 : ∀ x ∈ p0, x.block < W.heap.size := by obtain ⟨m, hm⟩ := k0; exact DataW.trod_lt m _ _ _ hm
  obtain ⟨L0, f0, g0, z0⟩ := argS_of h0
  obtain ⟨a1, rfl, rfl, rfl, g1⟩ := open_int Try.underlying3 (hval 1 3 v1 rfl rfl) h1
  obtain ⟨a2, l2, c2, rfl⟩ := okWide_slice Try.underlying42 (hval 2 42 v2 rfl rfl)
  have k2 := h2
  have lt2 : ∀ x ∈ p2, x.block < W.heap.size := by obtain ⟨m, hm⟩ := k2; exact DataW.trod_lt m _ _ _ hm
  obtain ⟨Z2, g2, z2⟩ := ints_of h2
  clear hA0 hval0
  refine (walk W _ _ _ L0 f0 g0 z0 a1 g1 _ _ _ Z2 g2 z2).mono fun e W' ⟨he, bel⟩ => ?_
  subst he
  exact ⟨_, rfl, _, _, _, [], _, [], hW', trodAll_mk1 (shut_bool Try.underlying4 _), (trodAll_cons_mk (Below.trod Try.laidOut (by kernel_rfl) (of_decide_eq_true (by kernel_rfl)) k0 bel lt0) (trodAll_cons_mk (shut_int Try.underlying3 g1) (trodAll_cons_mk (Below.trod Try.laidOut (by kernel_rfl) (of_decide_eq_true (by kernel_rfl)) k2 bel lt2) trodAll_mk0))), rfl, bel.frame _, fun h => by cases h⟩

theorem over : Rows.codeMendsRow.holds Try.pinned (OpenSpec.ofChange Rows.codeMendsSpec) :=
  OpenClaim.holds_of_wide 7 Try.f7 rfl rfl rfl rfl rfl rfl rfl ⟨rfl, rfl, rfl, rfl, rfl⟩ rfl rfl rfl rfl rfl (by kernel_rfl) Try.func7 (by kernel_rfl)
    (of_decide_eq_true (by kernel_rfl)) (by unfold Func.isWrapper; first | (rw [if_pos (by decide +kernel)]; kernel_rfl) | (rw [if_neg (by decide +kernel)]; exact ⟨rfl, rfl⟩))
    (fun os started H enc _ => lifted os started H enc)
end Go.Proofs.Ytbidimaljeblgab.codeMends

namespace Go.Proofs.Ytbidimaljeblgab
theorem codeMends_holds : Rows.CodeMendsSaid := codeMends.over
#print axioms codeMends_holds
end Go.Proofs.Ytbidimaljeblgab
