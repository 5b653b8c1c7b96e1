/-
  Whatever bytes are laid out: as blocks of another segment, or each in the place of the one ahead, all of them are wrong ones. No condition.
-/
import Derived.Test.YtmlboaejkmffjaeRows
import Derived.Test.YtmlboaejkmffjaeTRot
import Derived.ProofKit
import Derived.OpenShut
import Derived.Carry
namespace Go.Proofs.Ytmlboaejkmffjae.stripePlace
open Go.ChangeShapes Go.WideShapes Go.ChangeAt Go.RowKit
set_option linter.unusedVariables false

theorem own : ownKnob Try.prog.godebug = none := by kernel_rfl

set_option maxHeartbeats 400000 in
set_option maxRecDepth 100000 in
theorem early (w : World) (v0 : Value) (n0 : Nat) (f0 : Nat → Nat) (g0 : Byts w v0 n0 f0) (seg other d s : Int) (hE : Seg.layE n0 seg d s ≠ 0) :
    Calls Try.prog 3 #[v0, .int .i64 seg, .int .i64 other, .int .i64 d, .int .i64 s] w fun e w' => e = .returned (.bool true) ∧ Below w.heap.size w w' := by
  have H1 := fun w' (hb : Below w.heap.size w w') => lay_any v0 n0 f0 seg d s w' (g0.below hb)
  have hx' : (((Seg.layE n0 seg d s : Nat) : Int) == 0) = false := by rw [beq_eq_false_iff_ne]; omega
  have hxn : (((Seg.layE n0 seg d s : Nat) : Int) != 0) = true := by rw [bne, hx']; rfl
  generalize Seg.layE n0 seg d s = E at H1 hx' hxn
  obtain ⟨A0, C0, rfl⟩ := g0.shape
  clear g0 hE
  go_enter Try.func3, Try.ntmps3
  go_wp2_with fail
  refine (alive6_any _).mono ?_
  rintro e u1 ⟨rfl, b1⟩
  go_wp2_with fail
  refine (H1 _ b1).mono ?_
  rintro e u2 ⟨x2, rfl, _, b2⟩
  have b2 := bt b1 b2
  clear H1
  go_wp2_with fail
  go_ret
  exact ⟨rfl, b2⟩

set_option maxHeartbeats 400000 in
set_option maxRecDepth 100000 in
theorem same (w : World) (v0 : Value) (n0 : Nat) (f0 : Nat → Nat) (g0 : Byts w v0 n0 f0) (seg d s : Int) (hE : Seg.layE n0 seg d s = 0) :
    Calls Try.prog 3 #[v0, .int .i64 seg, .int .i64 seg, .int .i64 d, .int .i64 s] w fun e w' => e = .returned (.bool true) ∧ Below w.heap.size w w' := by
  have H1 := fun w' (hb : Below w.heap.size w w') => lay_any v0 n0 f0 seg d s w' (g0.below hb)
  rw [hE] at H1
  obtain ⟨A0, C0, rfl⟩ := g0.shape
  clear g0 hE
  go_enter Try.func3, Try.ntmps3
  go_wp2_with fail
  refine (alive6_any _).mono ?_
  rintro e u1 ⟨rfl, b1⟩
  go_wp2_with fail
  refine (H1 _ b1).mono ?_
  rintro e u2 ⟨x2, rfl, _, b2⟩
  have b2 := bt b1 b2
  clear H1
  go_wp2_with fail
  go_ret
  exact ⟨rfl, b2⟩

set_option maxHeartbeats 1000000 in
set_option maxRecDepth 100000 in
theorem main (w : World) (v0 : Value) (n0 : Nat) (f0 : Nat → Nat) (g0 : Byts w v0 n0 f0) (seg d s : Nat) (other : Int) (h1 : 1 ≤ d) (h2 : d ≤ 8) (h3 : s ≤ 4) (h4 : seg ≤ 39) (h5 : n0 ≤ 400 * d) (ho : ¬ other = (seg : Int)) :
    Calls Try.prog 3 #[v0, .int .i64 (seg : Int), .int .i64 other, .int .i64 (d : Int), .int .i64 (s : Int)] w fun e w' => e = .returned (.bool true) ∧ Below w.heap.size w w' := by
  have H1 := fun w' (hb : Below w.heap.size w w') => lay_ok v0 n0 f0 seg d s w' (g0.below hb) h1 h2 h3 h4 h5
  have ho' : (other == (seg : Int)) = false := by rw [beq_eq_false_iff_ne]; exact ho
  have HO1 : Hid ((Seg.badL other (fun _ => Seg.layN n0 d + 11) (Seg.blk f0 n0 seg d) (d + s)).length = d + s) := other_wrong h1 h2 h4 h5 (by omega) ho
  have HO2 : Hid (2 ≤ d + s → (Seg.badL (seg : Int) (fun _ => Seg.layN n0 d + 11) (rot (Seg.blk f0 n0 seg d) (d + s)) (d + s)).length = d + s) := fun h => rot_wrong h1 h2 h4 h5 (by omega) h
  have HBD : Hid (Gf.Bd2 (Seg.blk f0 n0 seg d)) := Seg.blk_bd h1 h5 h4 h2
  obtain ⟨A0, C0, rfl⟩ := g0.shape
  have hN12 : d + s ≤ 12 := by omega
  have hds : (d : Int) + (s : Int) = ((d + s : Nat) : Int) := by omega
  obtain ⟨M, hM⟩ : ∃ M, d + s = M + 1 := ⟨d + s - 1, by omega⟩
  rw [hM] at H1 HO1 HO2 hN12
  clear g0 h5 ho hM hds
  generalize Seg.layN n0 d + 11 = n at H1 HO1 HO2
  generalize Seg.blk f0 n0 seg d = g at H1 HO1 HO2 HBD
  go_enter Try.func3, Try.ntmps3
  go_wp2_with fail
  refine (alive6_any _).mono ?_
  rintro e u1 ⟨rfl, b1⟩
  go_wp2_with fail
  refine (H1 _ b1).mono ?_
  rintro e u2 ⟨x2, U2, rfl, P2, b2⟩
  have b2 := bt b1 b2
  have LL := P2.lls HBD.out
  have HB := bad_any x2 (M + 1) _ g other u2 LL (by omega)
  obtain ⟨A, C, rfl⟩ := LL.shape
  obtain ⟨A', C', hv, hcc, hcm, hc⟩ := LL.lies
  cases hv
  have hcc' : ((M + 1 : Nat) : Int) ≤ (C : Int) := by omega
  have each : ∀ r, r < M + 1 → ∃ u, ∃ b o, A = some ⟨b, o, none⟩ ∧ u2.cell? ⟨b, o + r, none⟩ = some u ∧ Byts u2 u n (g r) := fun r hr => by
    obtain ⟨b, o, u, e1, e2, e3⟩ := hc r hr
    exact ⟨u, b, o, e1, e2, e3⟩
  obtain ⟨U, hU⟩ := Deep.choose_lt each
  clear P2 LL H1 hc each
  obtain ⟨b, o, rfl, t0, y0⟩ := hU 0 (by omega)
  rw [Nat.add_zero] at t0
  have HU : Hid (∀ r, r < M + 1 → u2.cell? ⟨b, o + r, none⟩ = some (U r) ∧ Byts u2 (U r) n (g r)) := fun r hr => by
    obtain ⟨b', o', e1, e2, e3⟩ := hU r hr
    cases e1
    exact ⟨e2, e3⟩
  clear hU y0
  go_wp2_with fail
  refine HB.mono ?_
  rintro e u3 ⟨v3, rfl, N3, b3⟩
  obtain ⟨A3, C3, rfl, _⟩ := nums_cells N3
  rw [HO1.out]
  have t3 := (b3.cell (p := ⟨b, o, none⟩) (World.block_lt_of_cell? _ _ t0)).trans t0
  have HU3 : Hid (∀ r, r < M + 1 → u3.cell? ⟨b, o + r, none⟩ = some (U r) ∧ Byts u3 (U r) n (g r)) := fun r hr => ⟨(b3.cell (p := ⟨b, o + r, none⟩) (World.block_lt_of_cell? _ _ (HU.out r hr).1)).trans (HU.out r hr).1, (HU.out r hr).2.below b3⟩
  have b3 := bt b2 b3
  clear HB t0 HU N3
  obtain ⟨R0, K0, hU0⟩ : ∃ R K, U 0 = .slice R n K := (HU3.out 0 (by omega)).2.shape
  rw [hU0] at t3
  have rb1 : RB u3 (u3.alloc (.cells #[] 22)).drew (.slice (some ⟨u3.heap.size, 0, none⟩) 0 0) [] := rb_new (w := u3.drew) (Below.refl _ _).drew
  have rb2 : RB u3 ((u3.alloc (.cells #[] 22)).alloc (.cells #[.slice R0 n K0] 22)).drew (.slice (some ⟨u3.heap.size, 0, none⟩) 0 0) [] := (rb_new (w := u3.drew) (Below.refl _ _).drew).alloc _
  have tm2 : Tm ((u3.alloc (.cells #[] 22)).alloc (.cells #[.slice R0 n K0] 22)).drew (.slice (some ⟨u3.heap.size, 0, none⟩) 0 0) (u3.heap.size + 1) ((.slice R0 n K0)) := by
    have q := tm_new (u := (.slice R0 n K0)) rb1
    rw [show (u3.alloc (.cells #[] 22)).drew.heap.size = u3.heap.size + 1 by show (u3.alloc (.cells #[] 22)).heap.size = _; simp] at q
    exact q
  have sz3 : ((u3.alloc (.cells #[.slice R0 n K0] 22)).drew).heap.size = u3.heap.size + 1 := by
    show (u3.alloc (.cells #[.slice R0 n K0] 22)).heap.size = _
    simp
  have bl3 : Below u3.heap.size u3 (u3.alloc (.cells #[.slice R0 n K0] 22)).drew := ((Below.refl u3.heap.size u3).alloc (Nat.le_refl _) _).drew
  have rb3 : RB u3 ((u3.alloc (.cells #[.slice R0 n K0] 22)).alloc (.cells #[] 22)).drew (.slice (some ⟨u3.heap.size + 1, 0, none⟩) 0 0) [] := by
    have q := rb_new (w := (u3.alloc (.cells #[.slice R0 n K0] 22)).drew) bl3
    rw [sz3] at q
    exact q
  have tm3 : Tm ((u3.alloc (.cells #[.slice R0 n K0] 22)).alloc (.cells #[] 22)).drew (.slice (some ⟨u3.heap.size + 1, 0, none⟩) 0 0) u3.heap.size ((.slice R0 n K0)) := by
    refine ⟨?_, fun e => ?_⟩
    · have q := one_new u3.drew ((.slice R0 n K0))
      exact q.of_block (((Below.refl _ ((u3.drew).alloc (.cells #[.slice R0 n K0] 22))).alloc (Nat.le_refl _) (.cells #[] 22)).block u3.heap.size q.lt)
    · simp [Value.ownBlock] at e
  have TD : u3.drew.cell? ⟨b, o, none⟩ = some ((.slice R0 n K0)) ∧ Below u3.heap.size u3 u3.drew := ⟨t3, (Below.refl _ _).drew⟩
  have HYL : ((List.range M).map (fun i => U (i + 1))).length = M := by simp
  have H1O : ∀ r, r < M + 1 → (U r).oneCell' = true := fun r hr => by
    obtain ⟨_, A', C', e, _⟩ := (HU3.out r hr).2
    rw [e]
    rfl
  have H1C : ∀ u ∈ (List.range M).map (fun i => U (i + 1)), u.oneCell' = true := fun u hu => by
    obtain ⟨r, hr, rfl⟩ := List.mem_map.1 hu
    exact H1O _ (by have := List.mem_range.1 hr; omega)
  have H1D : ∀ u ∈ [Value.slice R0 n K0], u.oneCell' = true := fun u hu => by
    simp at hu
    rw [hu]
    rfl
  have HFIN : Hid (∀ wx v, RB u3 wx v ((List.range M).map (fun i => U (i + 1)) ++ [Value.slice R0 n K0]) → Lls wx v (M + 1) (fun _ => n) (rot g (M + 1)) ∧ Below u3.heap.size u3 wx) := fun wx v hR => by
    refine ⟨?_, hR.bel⟩
    have e : (List.range (M + 1)).map (fun i => if i + 1 < M + 1 then U (i + 1) else (.slice R0 n K0)) = (List.range M).map (fun i => U (i + 1)) ++ [Value.slice R0 n K0] := by
      rw [List.range_succ, List.map_append]
      refine congr (congrArg _ (List.map_congr_left (fun i hi => ?_))) ?_
      · rw [if_pos (by have := List.mem_range.1 hi; omega)]
      · show [if M + 1 < M + 1 then U (M + 1) else (.slice R0 n K0)] = [Value.slice R0 n K0]
        rw [if_neg (Nat.lt_irrefl _)]
    have hown := hR.own
    rw [← e] at hown
    rw [show ((List.range (M + 1)).map (fun i => if i + 1 < M + 1 then U (i + 1) else (.slice R0 n K0))).length = M + 1 by simp] at hown
    refine lls_own (w := u3) hown (fun i hi => ?_) hR.bel (fun i k => ?_)
    · unfold rot
      by_cases q : i + 1 < M + 1
      · rw [if_pos q, if_pos q]
        exact (HU3.out (i + 1) q).2
      · rw [if_neg q, if_neg q]
        rw [← hU0]
        exact (HU3.out 0 (by omega)).2
    · show rot g (M + 1) i k < 256
      unfold rot
      split
      · exact HBD.out _ _
      · exact HBD.out _ _
  clear HO1 sz3 bl3
  go_upto_region 8 with fail
  by_cases hC : C = 1
  · obtain rfl : M = 0 := by omega
    subst hC
    have HSR : ∀ W, W.cell? ⟨b, o, none⟩ = some ((.slice R0 n K0)) ∧ Below u3.heap.size u3 W → ∀ j u, ((List.range 0).map (fun i => U (i + 1)))[j]? = some u → W.cell? ((⟨b, o, none⟩ : Addr).add j) = some u := fun W _ j u hj => by simp at hj
    go_cut [13] from 38 to 46 (fun v wx => RB u3 wx v ((List.range 0).map (fun i => U (i + 1)) ++ [Value.slice R0 n K0]))
    case first =>
      go_region_held3 (fun w' => w'.cell? ⟨b, o, none⟩ = some ((.slice R0 n K0)) ∧ Below u3.heap.size u3 w')
        (first | with_reducible exact TD | with_reducible assumption | with_reducible exact keepOa (by assumption) | with_reducible exact keepOd (by assumption))
        (first | (refine app_rb rfl (.tmp 38) (.tmp 40) rfl (ys := (List.range 0).map (fun i => U (i + 1))) rfl rfl (by first | exact rb1 | exact rb2 | exact rb3) HYL (HSR _ (by assumption)) H1C (by simp <;> omega) ?_; intro v6 w6 R6 TR; (first | (have T6 := TR _ _ tm2) | (have T6 := TR _ _ tm3) | skip); have S6 := keepO (wX := u3) R6.bel ⟨t3, Below.refl _ _⟩)
               | (refine app_rb rfl (.tmp 41) (.tmp 45) rfl (ys := [Value.slice R0 n K0]) rfl rfl (by first | exact R6 | exact R6.alloc _) rfl (by first | exact T6.cells | exact (tm_new R6).cells) H1D (by simp <;> omega) ?_; intro v7 w7 R7 TR7; have S7 := keepO (wX := u3) R7.bel ⟨t3, Below.refl _ _⟩))
      all_goals go_wp2_with fail
      all_goals go_meet
      all_goals exact R7
    case rest =>
      have b4 := bt b3 hcut.bel
      clear rb1 rb2 tm2 rb3 tm3
      go_wp2_with fail
      go_ret
      exact ⟨rfl, b4⟩
  · have hC' : ¬ (C : Int) = 1 := by omega
    have h1M : (1 : Int) ≤ (M : Int) + 1 := by omega
    have h1N : 1 ≤ M + 1 := by omega
    have hCi : (M : Int) + 1 ≤ (C : Int) := by omega
    have hCb : C ≤ 9223372036854775807 := hcm
    have h1C : (1 : Int) ≤ (C : Int) := by omega
    have h1D : 1 ≤ C := by omega
    have HSR : ∀ W, W.cell? ⟨b, o, none⟩ = some ((.slice R0 n K0)) ∧ Below u3.heap.size u3 W → ∀ j u, ((List.range M).map (fun i => U (i + 1)))[j]? = some u → W.cell? ((⟨b, o + 1, none⟩ : Addr).add j) = some u := fun W hW j u hj => by
      rcases Nat.lt_or_ge j M with q | q
      · simp [q] at hj
        rw [WideShapes.add_plain, ← hj, Nat.add_assoc, Nat.add_comm 1 j]
        exact (hW.2.cell (p := ⟨b, o + (j + 1), none⟩) (World.block_lt_of_cell? _ _ (HU3.out (j + 1) (by omega)).1)).trans (HU3.out (j + 1) (by omega)).1
      · simp [List.getElem?_eq_none (show ((List.range M).map (fun i => U (i + 1))).length ≤ j by simpa using q)] at hj
    go_cut [13] from 38 to 46 (fun v wx => RB u3 wx v ((List.range M).map (fun i => U (i + 1)) ++ [Value.slice R0 n K0]))
    case first =>
      go_region_held3 (fun w' => w'.cell? ⟨b, o, none⟩ = some ((.slice R0 n K0)) ∧ Below u3.heap.size u3 w')
        (first | with_reducible exact TD | with_reducible assumption | with_reducible exact keepOa (by assumption) | with_reducible exact keepOd (by assumption))
        (first | (refine app_rb rfl (.tmp 38) (.tmp 40) rfl (ys := (List.range M).map (fun i => U (i + 1))) rfl rfl (by first | exact rb1 | exact rb2 | exact rb3) HYL (HSR _ (by assumption)) H1C (by simp <;> omega) ?_; intro v6 w6 R6 TR; (first | (have T6 := TR _ _ tm2) | (have T6 := TR _ _ tm3) | skip); have S6 := keepO (wX := u3) R6.bel ⟨t3, Below.refl _ _⟩)
               | (refine app_rb rfl (.tmp 41) (.tmp 45) rfl (ys := [Value.slice R0 n K0]) rfl rfl (by first | exact R6 | exact R6.alloc _) rfl (by first | exact T6.cells | exact (tm_new R6).cells) H1D (by simp <;> omega) ?_; intro v7 w7 R7 TR7; have S7 := keepO (wX := u3) R7.bel ⟨t3, Below.refl _ _⟩))
      all_goals go_wp2_with fail
      all_goals go_meet
      all_goals exact R7
    case rest =>
      obtain ⟨L4, b4⟩ := HFIN.out _ _ hcut
      have b4 := bt b3 b4
      have HB := bad_any u13 (M + 1) _ _ (seg : Int) wc L4 (by omega)
      obtain ⟨A4, C4, rfl⟩ := L4.shape
      clear rb1 rb2 tm2 rb3 tm3 hcut L4
      by_cases hM0 : M = 0
      · subst hM0
        clear HB
        go_wp2_with fail
        go_ret
        exact ⟨rfl, b4⟩
      · have HO2 := HO2.out (by omega)
        have HO3 : Hid ((Seg.badL (seg : Int) (fun _ => n) (rot g (M + 1)) (M + 1)).length = M + 1) := HO2
        have hM1 : (((M + 1 : Nat) : Int) == 1) = false := by rw [beq_eq_false_iff_ne]; omega
        have hM2 : ¬ (M : Int) = 0 := by omega
        clear HO2
        go_wp2_with fail
        refine HB.mono ?_
        rintro e u6 ⟨v6, rfl, N6, b6⟩
        obtain ⟨A6, C6, rfl, _⟩ := nums_cells N6
        rw [HO3.out]
        have b6 := bt b4 b6
        clear HB N6
        go_wp2_with fail
        go_ret
        exact ⟨rfl, b6⟩

theorem walk (w : World) (v0 : Value) (n0 : Nat) (f0 : Nat → Nat) (g0 : Byts w v0 n0 f0) (seg : Int) (_ : (Lit.int .i64 seg).wf = true) (other : Int) (_ : (Lit.int .i64 other).wf = true) (d : Int) (_ : (Lit.int .i64 d).wf = true) (s : Int) (_ : (Lit.int .i64 s).wf = true) :
    Calls Try.prog 3 #[v0, .int .i64 seg, .int .i64 other, .int .i64 d, .int .i64 s] w fun e w' => e = .returned (.bool true) ∧ Below w.heap.size w w' := by
  by_cases hE : Seg.layE n0 seg d s = 0
  · by_cases ho : other = seg
    · subst ho
      exact same w v0 n0 f0 g0 other d s hE
    · obtain ⟨q1, q2, q3, q4, q5, q6, q7⟩ := layE_inv hE
      obtain ⟨d', rfl⟩ := Int.eq_ofNat_of_zero_le (show 0 ≤ d by omega)
      obtain ⟨s', rfl⟩ := Int.eq_ofNat_of_zero_le q3
      obtain ⟨g', rfl⟩ := Int.eq_ofNat_of_zero_le q5
      exact main w v0 n0 f0 g0 g' d' s' other (by omega) (by omega) (by omega) (by omega) (by omega) ho
  · exact early w v0 n0 f0 g0 seg other d s hE

set_option maxRecDepth 100000 in
theorem lifted (os : Os) (started : os.Started) (H : Type) (enc : TypeId × Value → H) :
    ReturnsInHanded {} Try.checked os 3 .any (Rows.stripePlaceSpec.pre6 enc Try.prog Try.f3 Rows.stripePlaceRow.domain false) (Rows.stripePlaceSpec.post enc Try.prog Try.f3 false true false false) := by
  refine returnsInHanded_of_change (C := Try.checked) own started (by kernel_rfl) Try.func3
    (ChangeSpec.witness6 (enc := enc) (C := Try.checked) false ⟨#[], #[.slice none 0 0, .int .i64 0, .int .i64 0, .int .i64 0, .int .i64 0], []⟩ 8 (by kernel_rfl) (by kernel_rfl) (by kernel_rfl) (by kernel_rfl)) ?_
  intro W base args ds gs before hval0 hW hcnd _
  have hval : ∀ (j : Nat) t v, Try.f3.params[j]? = some t → args[j]? = some v → Value.okWide Try.prog W .any base t v := hval0
  have hW' := hW
  obtain ⟨p, q, hA0, hV, rfl, hfz, hnd⟩ := hW
  have hA : DataW.TrodAll enc Try.prog W 0 (fun _ => true) true Try.f3.params.toList args.toList ds p := hA0
  rw [Try.params3] at hA hval
  obtain ⟨v0, vs0, d0, ds0, p0, q0, hargs, rfl, rfl, h0, r0⟩ := trodAll_cons hA
  obtain ⟨v1, vs1, d1, ds1, p1, q1, rfl, rfl, rfl, h1, r1⟩ := trodAll_cons r0
  obtain ⟨v2, vs2, d2, ds2, p2, q2, rfl, rfl, rfl, h2, r2⟩ := trodAll_cons r1
  obtain ⟨v3, vs3, d3, ds3, p3, q3, rfl, rfl, rfl, h3, r3⟩ := trodAll_cons r2
  obtain ⟨v4, vs4, d4, ds4, p4, q4, rfl, rfl, rfl, h4, r4⟩ := trodAll_cons r3
  obtain ⟨rfl, rfl, rfl⟩ := trodAll_nil r4
  obtain rfl : args = #[v0, v1, v2, v3, v4] := by cases args; simp_all
  obtain ⟨rfl, rfl⟩ := trodVars_none hV
  obtain ⟨a0, l0, c0, rfl⟩ := okWide_slice Try.underlying22 (hval 0 22 v0 rfl rfl)
  have k0 := h0
  have lt0 : ∀ x ∈ p0, x.block < W.heap.size := by obtain ⟨m, hm⟩ := k0; exact DataW.trod_lt m _ _ _ hm
  obtain ⟨f0, g0⟩ := byt_of h0
  obtain ⟨a1, rfl, rfl, rfl, g1⟩ := open_int Try.underlying3 (hval 1 3 v1 rfl rfl) h1
  obtain ⟨a2, rfl, rfl, rfl, g2⟩ := open_int Try.underlying3 (hval 2 3 v2 rfl rfl) h2
  obtain ⟨a3, rfl, rfl, rfl, g3⟩ := open_int Try.underlying3 (hval 3 3 v3 rfl rfl) h3
  obtain ⟨a4, rfl, rfl, rfl, g4⟩ := open_int Try.underlying3 (hval 4 3 v4 rfl rfl) h4
  clear hA0 hval0
  refine (walk W _ _ _ g0 a1 g1 a2 g2 a3 g3 a4 g4).mono fun e W' ⟨he, bel⟩ => ?_
  subst he
  exact ⟨_, rfl, _, _, _, [], _, [], hW', trodAll_mk1 (shut_bool Try.underlying4 _), (trodAll_cons_mk (Below.trod Try.laidOut (by kernel_rfl) (of_decide_eq_true (by kernel_rfl)) k0 bel lt0) (trodAll_cons_mk (shut_int Try.underlying3 g1) (trodAll_cons_mk (shut_int Try.underlying3 g2) (trodAll_cons_mk (shut_int Try.underlying3 g3) (trodAll_cons_mk (shut_int Try.underlying3 g4) trodAll_mk0))))), rfl, bel.frame _, fun h => by cases h⟩

theorem over : Rows.stripePlaceRow.holds Try.pinned (OpenSpec.ofChange Rows.stripePlaceSpec) :=
  OpenClaim.holds_of_wide 3 Try.f3 rfl rfl rfl rfl rfl rfl rfl ⟨rfl, rfl, rfl, rfl, rfl⟩ rfl rfl rfl rfl rfl (by kernel_rfl) Try.func3 (by kernel_rfl)
    (of_decide_eq_true (by kernel_rfl)) (by unfold Func.isWrapper; first | (rw [if_pos (by decide +kernel)]; kernel_rfl) | (rw [if_neg (by decide +kernel)]; exact ⟨rfl, rfl⟩))
    (fun os started H enc _ => lifted os started H enc)
end Go.Proofs.Ytmlboaejkmffjae.stripePlace

namespace Go.Proofs.Ytmlboaejkmffjae
theorem stripePlace_holds : Rows.StripePlaceSaid := stripePlace.over
#print axioms stripePlace_holds
end Go.Proofs.Ytmlboaejkmffjae
