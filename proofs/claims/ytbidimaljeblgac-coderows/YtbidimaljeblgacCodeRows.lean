/-
  Whatever numbers of data and of spare shards there are: of the rows of all shards any as many as data are, each once, can be undone. No condition.
-/
import Derived.Test.YtbidimaljeblgacRows
import Derived.Test.YtbidimaljeblgacOpenI
import Derived.Test.YtbidimaljeblgacCPick
import Derived.ProofKit
import Derived.OpenShut
import Derived.Carry
namespace Go.Proofs.Ytbidimaljeblgac.codeRows
open Go.ChangeShapes Go.WideShapes Go.ChangeAt Go.RowKit
set_option linter.unusedVariables false

theorem own : ownKnob Try.prog.godebug = none := by kernel_rfl

set_option maxHeartbeats 400000 in
theorem bad (w : World) (d s : Int) (A2 : Option Addr) (n2 cap2 : Nat) (hx : d < 1 ∨ 8 < d ∨ s < 0 ∨ 4 < s) :
    Calls Try.prog 4 #[.int .i64 d, .int .i64 s, .slice A2 n2 cap2] w fun e w' => e = .returned (.bool true) ∧ Below w.heap.size w w' := by
  have hA := fun w => codeRows_bad d s w hx
  clear hx
  go_enter Try.func4, Try.ntmps4
  go_wp2_with fail
  refine (alive3_any _).mono ?_
  rintro e u1 ⟨rfl, b1⟩
  go_wp2_with fail
  refine (hA _).mono ?_
  rintro e u2 ⟨rfl, b2⟩
  have b2 := bt b1 b2
  clear hA
  go_wp2_with fail
  go_ret
  exact ⟨rfl, b2⟩

set_option maxHeartbeats 2000000 in
theorem ok (w : World) (n s : Nat) (h1 : 1 ≤ n) (h2 : n ≤ 8) (h4 : s ≤ 4) (A2 : Option Addr) (len cap2 : Nat) (Z : Nat → Int) (gz : Ints w (.slice A2 len cap2) len Z) (hlen : len ≤ maxLen) :
    Calls Try.prog 4 #[.int .i64 (n : Int), .int .i64 (s : Int), .slice A2 len cap2] w fun e w' => e = .returned (.bool true) ∧ Below w.heap.size w w' := by
  have hR := fun w => codeRows_any n s w h1 h2 h4
  have hzc : Hid (∀ i, i < len → ∃ b o, A2 = some ⟨b, o, none⟩ ∧ w.cell? ⟨b, o + i, none⟩ = some (.int .i64 (Z i))) := by
    obtain ⟨A', cap', hv, hr⟩ := gz.lies
    cases hv
    exact hr
  obtain ⟨i0, hi, hh⟩ := Option.map_eq_some_iff.1 Try.infoRow
  simp only [Prod.mk.injEq] at hh
  obtain ⟨hz0, hz1, hz2⟩ := hh
  have hmm := @run_makeMap Try.prog
  unfold maxLen at hlen
  clear gz
  go_enter Try.func4, Try.ntmps4
  go_wp2_with fail
  refine (alive3_any _).mono ?_
  rintro e u1 ⟨rfl, b1⟩
  go_wp2_with fail
  refine (hR _).mono ?_
  rintro e u2 ⟨g, cp, rfl, hcp, ⟨G, K, hm⟩, b2⟩
  have b2 := bt b1 b2
  clear hR b1
  go_wp2_with fail
  clear hmm
  go_loopw [9, 35] (fun v y wr => ∃ (i : Nat) (P : List Nat), i ≤ len ∧ y = .int .i64 i ∧ P.length ≤ n ∧ P.Nodup ∧ (∀ r, r ∈ P → r < n + s) ∧ wr.ownsRow u2.heap.size 24 1 v P.length (P.map fun r => .slice (some ⟨G r, 0, none⟩) n (K r)) ∧ Had wr u2.heap.size P.length (n + s) P ∧ Below u2.heap.size u2 wr) (fun _ y _ => len - (intOf y).toNat)
  case atStart => exact ⟨0, [], Nat.zero_le _, rfl, Nat.zero_le _, List.nodup_nil, (fun r hr => absurd hr (by simp)), World.ownsRow_nil _ _ _ 1, had_start u2 _, (Below.refl _ _).alloc (Nat.le_refl _) _⟩
  case round =>
    obtain ⟨i, P, hi', rfl, hPn, hPd, hPl, hown, hH, hb⟩ := hrel
    have hbw : Below w.heap.size w wr := bt b2 hb
    obtain ⟨Am, cm, rfl⟩ := owns_shape hown
    by_cases hlt : i < len
    · have hlt' : (i : Int) < (len : Int) := by omega
      obtain ⟨bz, oz, hA2, hcz⟩ := hzc.out i hlt
      subst hA2
      have hcz := (hbw.cell (p := ⟨bz, oz + i, none⟩) (World.block_lt_of_cell? _ _ hcz)).trans hcz
      generalize Z i = z at hcz
      by_cases hz : 0 ≤ z
      · obtain ⟨k, rfl⟩ := Int.eq_ofNat_of_zero_le hz
        by_cases hk : k < n + s
        · have hk' : (k : Int) < (n : Int) + (s : Int) := by omega
          have hlook := hH.look k hk (by omega)
          by_cases hin : k ∈ P
          · rw [decide_eq_true hin] at hlook
            clear hin
            go_wp2_with fail
            exact ⟨⟨i + 1, P, by omega, by go_num, hPn, hPd, hPl, hown, hH, hb⟩, by simp [intOf]; omega⟩
          · rw [decide_eq_false hin] at hlook
            have HIN : Hid (¬ k ∈ P) := hin
            clear hin
            by_cases hfull : P.length < n
            · have hfull' : (P.length : Int) < (n : Int) := by omega
              obtain ⟨D, hoM, hat⟩ := hH
              have hisM := isMap_of hoM
              have hneM := had_ne ⟨D, hoM, hat⟩ hown
              have HAT : Hid (∀ j : Nat, j < n + s → D.atKey (.int .i64 (j : Int)) (.lit (.bool false)) = .lit (.bool (decide (j ∈ P)))) := hat
              clear hat
              go_wp2_with (first
                | (at_mapUpdate; refine wpList_mapUpdate_own _ rfl (.tmp 59) (.tmp 60) (.const (.bool true)) 35 rfl 3 4 keyed Try.mapIntBool (plainElem Try.prog 4) u2.heap.size P.length D rfl hoM (by unfold maxLen; omega) (.int .i64 (k : Int)) (.bool true) (.int .i64 (k : Int)) rfl rfl (key64 k (by omega)) (.lit (.bool true)) [] (plainElem_bool Try.underlying4 true) ?_; intro w2 hM2 hgM; have o2 := hown.kept hgM (Or.inr hneM.symm); have hH2 := Had.put (k := k) (N := n + s) HAT.out hisM hM2; have b4 : Below u2.heap.size u2 w2 := hb.grown hgM hb.size (fun x hx => (by cases hx; exact Nat.le_refl _)); have tk := (hm.below b4).top k hk; have hbX := (Below.refl w2.heap.size w2).alloc (Nat.le_refl _) (.cells #[.slice (some ⟨G k, 0, none⟩) n (K k)] 24); have oX := owns_below o2 hbX; have HX := hH2.alloc (.cells #[.slice (some ⟨G k, 0, none⟩) n (K k)] 24); have bX := b4.trans (hbX.mono b4.size); rw [Nat.zero_add] at tk)
                | (at_builtin; refine wpList_append_own _ rfl (.tmp 61) (.tmp 66) 32 rfl u2.heap.size 24 i0 (.slice none 0 0) 1 24 Try.underlying32 hi hz0 hz1 hz2 rfl (by decide) _ _ _ rfl oX ⟨w2.heap.size, 0, none⟩ 1 1 [.slice (some ⟨G k, 0, none⟩) n (K k)] rfl rfl cell_one (by intro u hu; simp at hu; subst hu; rfl) (by unfold maxLen; omega) (by omega) bX.size ?_; intro v3 w3 hown3 hgrow3 _))
              have hH3 := HX.kept hgrow3 (had_ne HX oX)
              have hb3 : Below u2.heap.size u2 w3 := bX.grown hgrow3 bX.size (fun x hx => (oX.lt x hx).1)
              have q3 : w3.ownsRow u2.heap.size 24 1 v3 (P ++ [k]).length ((P ++ [k]).map fun r => .slice (some ⟨G r, 0, none⟩) n (K r)) := by
                rw [List.length_append, List.map_append]
                exact hown3
              have hH4 : Had w3 u2.heap.size (P ++ [k]).length (n + s) (P ++ [k]) := by
                rw [List.length_append]
                exact hH3
              clear hown3 hgrow3 HX oX hH3 hM2 hgM hoM hH2 o2 tk
              go_wp2_with fail
              exact ⟨⟨i + 1, P ++ [k], by omega, by go_num, by rw [List.length_append]; exact hfull, nodup_snoc hPd HIN.out, fun r hr => by
                rcases List.mem_append.1 hr with h | h
                · exact hPl r h
                · simp at h
                  omega, q3, hH4, hb3⟩, by simp [intOf]; omega⟩
            · have hfull' : ¬ (P.length : Int) < (n : Int) := by omega
              go_wp2_with fail
              exact ⟨⟨i + 1, P, by omega, by go_num, hPn, hPd, hPl, hown, hH, hb⟩, by simp [intOf]; omega⟩
        · have hk' : ¬ (k : Int) < (n : Int) + (s : Int) := by omega
          go_wp2_with fail
          exact ⟨⟨i + 1, P, by omega, by go_num, hPn, hPd, hPl, hown, hH, hb⟩, by simp [intOf]; omega⟩
      · go_wp2_with fail
        exact ⟨⟨i + 1, P, by omega, by go_num, hPn, hPd, hPl, hown, hH, hb⟩, by simp [intOf]; omega⟩
    · have e8 : i = len := by omega
      subst e8
      by_cases hfull : P.length < n
      · have hfull' : (P.length : Int) < (n : Int) := by omega
        go_wp2_with fail
        go_ret
        exact ⟨rfl, hbw⟩
      · have hfull' : ¬ (P.length : Int) < (n : Int) := by omega
        have hU := pick_undo h1 h2 (by omega) hPd (fun r hr => by have := hPl r hr; omega) wr _ (arg_of_owns (fun r => some ⟨G r, 0, none⟩) (fun _ => n) K (Gf.rowF n) (Gf.rowF_bd n) hown (fun r hr j hj => ⟨G r, 0, rfl, (hm.below hb).row r (hPl r hr) j hj⟩))
        clear hown hH hm
        go_wp2_with fail
        refine hU.mono ?_
        rintro e u5 ⟨v5, rfl, b5⟩
        have b5 := bt hbw b5
        clear hU
        go_wp2_with fail
        go_ret
        exact ⟨rfl, b5⟩

theorem walk (w : World) (d : Int) (w0 : (Lit.int .i64 d).wf = true) (s : Int) (w1 : (Lit.int .i64 s).wf = true) (A2 : Option Addr) (n2 cap2 : Nat) (Z : Nat → Int) (g2 : Ints w (.slice A2 n2 cap2) n2 Z) (z2 : n2 ≤ cap2 ∧ cap2 ≤ maxLen) :
    Calls Try.prog 4 #[.int .i64 d, .int .i64 s, .slice A2 n2 cap2] w fun e w' => e = .returned (.bool true) ∧ Below w.heap.size w w' := by
  by_cases hx : d < 1 ∨ 8 < d ∨ s < 0 ∨ 4 < s
  · exact bad w d s A2 n2 cap2 hx
  · obtain ⟨n, rfl⟩ := Int.eq_ofNat_of_zero_le (show 0 ≤ d by omega)
    obtain ⟨m, rfl⟩ := Int.eq_ofNat_of_zero_le (show 0 ≤ s by omega)
    exact ok w n m (by omega) (by omega) (by omega) A2 n2 cap2 Z g2 (Nat.le_trans z2.1 z2.2)

set_option maxRecDepth 100000 in
theorem lifted (os : Os) (started : os.Started) (H : Type) (enc : TypeId × Value → H) :
    ReturnsInHanded {} Try.checked os 4 .any (Rows.codeRowsSpec.pre6 enc Try.prog Try.f4 Rows.codeRowsRow.domain false) (Rows.codeRowsSpec.post enc Try.prog Try.f4 false true false false) := by
  refine returnsInHanded_of_change (C := Try.checked) own started (by kernel_rfl) Try.func4
    (ChangeSpec.witness6 (enc := enc) (C := Try.checked) false ⟨#[], #[.int .i64 0, .int .i64 0, .slice none 0 0], []⟩ 8 (by kernel_rfl) (by kernel_rfl) (by kernel_rfl) (by kernel_rfl)) ?_
  intro W base args ds gs before hval0 hW hcnd _
  have hval : ∀ (j : Nat) t v, Try.f4.params[j]? = some t → args[j]? = some v → Value.okWide Try.prog W .any base t v := hval0
  have hW' := hW
  obtain ⟨p, q, hA0, hV, rfl, hfz, hnd⟩ := hW
  have hA : DataW.TrodAll enc Try.prog W 0 (fun _ => true) true Try.f4.params.toList args.toList ds p := hA0
  rw [Try.params4] at hA hval
  obtain ⟨v0, vs0, d0, ds0, p0, q0, hargs, rfl, rfl, h0, r0⟩ := trodAll_cons hA
  obtain ⟨v1, vs1, d1, ds1, p1, q1, rfl, rfl, rfl, h1, r1⟩ := trodAll_cons r0
  obtain ⟨v2, vs2, d2, ds2, p2, q2, rfl, rfl, rfl, h2, r2⟩ := trodAll_cons r1
  obtain ⟨rfl, rfl, rfl⟩ := trodAll_nil r2
  obtain rfl : args = #[v0, v1, v2] := by cases args; simp_all
  obtain ⟨rfl, rfl⟩ := trodVars_none hV
  obtain ⟨a0, rfl, rfl, rfl, g0⟩ := open_int Try.underlying3 (hval 0 3 v0 rfl rfl) h0
  obtain ⟨a1, rfl, rfl, rfl, g1⟩ := open_int Try.underlying3 (hval 1 3 v1 rfl rfl) h1
  obtain ⟨a2, l2, c2, rfl⟩ := okWide_slice Try.underlying31 (hval 2 31 v2 rfl rfl)
  have k2 := h2
  have lt2 : ∀ x ∈ p2, x.block < W.heap.size := by obtain ⟨m, hm⟩ := k2; exact DataW.trod_lt m _ _ _ hm
  obtain ⟨Z2, g2, z2⟩ := ints_of h2
  clear hA0 hval0
  refine (walk W a0 g0 a1 g1 _ _ _ Z2 g2 z2).mono fun e W' ⟨he, bel⟩ => ?_
  subst he
  exact ⟨_, rfl, _, _, _, [], _, [], hW', trodAll_mk1 (shut_bool Try.underlying4 _), (trodAll_cons_mk (shut_int Try.underlying3 g0) (trodAll_cons_mk (shut_int Try.underlying3 g1) (trodAll_cons_mk (Below.trod Try.laidOut (by kernel_rfl) (of_decide_eq_true (by kernel_rfl)) k2 bel lt2) trodAll_mk0))), rfl, bel.frame _, fun h => by cases h⟩

theorem over : Rows.codeRowsRow.holds Try.pinned (OpenSpec.ofChange Rows.codeRowsSpec) :=
  OpenClaim.holds_of_wide 4 Try.f4 rfl rfl rfl rfl rfl rfl rfl ⟨rfl, rfl, rfl, rfl, rfl⟩ rfl rfl rfl rfl rfl (by kernel_rfl) Try.func4 (by kernel_rfl)
    (of_decide_eq_true (by kernel_rfl)) (by unfold Func.isWrapper; first | (rw [if_pos (by decide +kernel)]; kernel_rfl) | (rw [if_neg (by decide +kernel)]; exact ⟨rfl, rfl⟩))
    (fun os started H enc _ => lifted os started H enc)
end Go.Proofs.Ytbidimaljeblgac.codeRows

namespace Go.Proofs.Ytbidimaljeblgac
theorem codeRows_holds : Rows.CodeRowsSaid := codeRows.over
#print axioms codeRows_holds
end Go.Proofs.Ytbidimaljeblgac
