/-
  Whatever small setup there is, and whatever is put in: what is read is the same, of however many shards, and batches to a segment. No condition.
-/
import Derived.Test.YtleekmmoanlpfaaGreatRows
import Derived.Test.YtleekmmoanlpfaaGreatZ49
import Derived.Test.YtleekmmoanlpfaaGreatZ48
import Derived.ProofKit
import Derived.OpenShut
import Derived.Carry
import Derived.Deep.Cut
import Derived.Deep.CutRange
namespace Go.Proofs.YtleekmmoanlpfaaGreat.topShape
open Go.ChangeShapes Go.WideShapes Go.ChangeAt Go.RowKit
set_option linter.unusedVariables false

theorem own : ownKnob Tryz.prog.godebug = none := by kernel_rfl

theorem sz1 (z : Int) : ∀ t, t ∈ [((⟨#[97]⟩, 2, z) : EvT)] → t.1.size ≤ 10 := fun t ht => by
  rw [List.mem_singleton.1 ht]
  exact show (⟨#[97]⟩ : ByteArray).size ≤ 10 by decide
set_option maxHeartbeats 400000 in
set_option maxRecDepth 100000 in
theorem bad (w : World) (d s b : Int) (A : Option Addr) (m C : Nat) (h : ¬ (Small d s ∧ 1 ≤ b ∧ b ≤ 10 ∧ m ≤ 12)) (hm : m ≤ 9223372036854775807) :
    Calls Tryz.prog 7 #[.int .i64 d, .int .i64 s, .int .i64 b, .slice A m C] w fun e w' => e = .returned (.bool true) ∧ Below w.heap.size w w' := by
  have HA := aliveT_any w
  by_cases hs : Small d s
  · have HS : Hid (∀ w1, Calls Tryz.prog 9 #[.int .i64 d, .int .i64 s] w1 fun e w' => e = .returned (.bool true) ∧ Below w1.heap.size w1 w') := fun w1 => small_yes w1 d s hs
    by_cases hb1 : 1 ≤ b
    · by_cases hb2 : b ≤ 10
      · have hm12 : ¬ m ≤ 12 := fun q => h ⟨hs, hb1, hb2, q⟩
        have hm13 : 12 < (m : Int) := by omega
        clear h hs
        go_enter Tryz.func7, Tryz.ntmps7
        go_wp2_with fail
        refine HA.mono ?_
        rintro e w1 ⟨rfl, b1⟩
        have HS1 := HS.out w1
        clear HA HS
        go_wp2_with fail
        refine HS1.mono ?_
        rintro e w2 ⟨rfl, b2⟩
        have b2 := bt b1 b2
        clear HS1 b1
        go_wp2_with fail
        go_ret
        exact ⟨rfl, b2⟩
      · clear h hs
        go_enter Tryz.func7, Tryz.ntmps7
        go_wp2_with fail
        refine HA.mono ?_
        rintro e w1 ⟨rfl, b1⟩
        have HS1 := HS.out w1
        clear HA HS
        go_wp2_with fail
        refine HS1.mono ?_
        rintro e w2 ⟨rfl, b2⟩
        have b2 := bt b1 b2
        clear HS1 b1
        go_wp2_with fail
        go_ret
        exact ⟨rfl, b2⟩
    · clear h hs
      go_enter Tryz.func7, Tryz.ntmps7
      go_wp2_with fail
      refine HA.mono ?_
      rintro e w1 ⟨rfl, b1⟩
      have HS1 := HS.out w1
      clear HA HS
      go_wp2_with fail
      refine HS1.mono ?_
      rintro e w2 ⟨rfl, b2⟩
      have b2 := bt b1 b2
      clear HS1 b1
      go_wp2_with fail
      go_ret
      exact ⟨rfl, b2⟩
  · have HS : Hid (∀ w1, Calls Tryz.prog 9 #[.int .i64 d, .int .i64 s] w1 fun e w' => e = .returned (.bool false) ∧ Below w1.heap.size w1 w') := fun w1 => small_no w1 d s hs
    clear h hs
    go_enter Tryz.func7, Tryz.ntmps7
    go_wp2_with fail
    refine HA.mono ?_
    rintro e w1 ⟨rfl, b1⟩
    have HS1 := HS.out w1
    clear HA HS
    go_wp2_with fail
    refine HS1.mono ?_
    rintro e w2 ⟨rfl, b2⟩
    have b2 := bt b1 b2
    clear HS1 b1
    go_wp2_with fail
    go_ret
    exact ⟨rfl, b2⟩
set_option maxHeartbeats 2000000 in
set_option maxRecDepth 100000 in
theorem good (w : World) (d s b : Nat) (h1 : 1 ≤ d) (h2 : d ≤ 8) (h3 : s ≤ 4) (h4 : 1 ≤ b) (h5 : b ≤ 10) (A : Option Addr) (m C : Nat) (Z : Nat → Int) (gz : Ints w (.slice A m C) m Z) (hm : m ≤ 12) :
    Calls Tryz.prog 7 #[.int .i64 (d : Int), .int .i64 (s : Int), .int .i64 (b : Int), .slice A m C] w fun e w' => e = .returned (.bool true) ∧ Below w.heap.size w w' := by
  have HA := aliveT_any w
  have HS : Hid (∀ w1, Calls Tryz.prog 9 #[.int .i64 (d : Int), .int .i64 (s : Int)] w1 fun e w' => e = .returned (.bool true) ∧ Below w1.heap.size w1 w') := fun w1 => small_yes w1 d s ⟨by omega, by omega, by omega, by omega⟩
  have hzc : Hid (∀ i, i < m → ∃ b o, A = some ⟨b, o, none⟩ ∧ w.cell? ⟨b, o + i, none⟩ = some (.int .i64 (Z i))) := by
    obtain ⟨A', cap', hv, hr⟩ := gz.lies
    cases hv
    exact hr
  have hm' : (m : Int) ≤ 12 := by omega
  clear gz
  go_enter Tryz.func7, Tryz.ntmps7
  go_wp2_with fail
  refine HA.mono ?_
  rintro e w1 ⟨rfl, b1⟩
  have HS1 := HS.out w1
  clear HA HS
  go_wp2_with fail
  refine HS1.mono ?_
  rintro e w2 ⟨rfl, b2⟩
  have b02 := bt b1 b2
  have HO := openT_any w2 ⟨#[97]⟩
  clear HS1 b1 b2
  go_wp2_with fail
  refine HO.mono ?_
  rintro e w3 ⟨rfl, b3⟩
  have b03 := bt b02 b3
  have V3 := varN_new w3 #[.string ⟨#[97]⟩, .int .i64 1, .int .i64 0] 32
  have b04 := bel_al (o := .cells #[.string ⟨#[97]⟩, .int .i64 1, .int .i64 0] 32) b03
  have HP := putT_any (w3.alloc (.cells #[.string ⟨#[97]⟩, .int .i64 1, .int .i64 0] 32)) 1 (some ⟨w3.heap.size, 0, none⟩) 1 1
  clear HO b02 b3 b03
  go_wp2_with fail
  refine HP.mono ?_
  rintro e w8 ⟨rfl, b5⟩
  have V5 := V3.below b5
  have b05 := bt b04 b5
  obtain ⟨p1, hp1⟩ : ∃ p, p = w3.heap.size := ⟨_, rfl⟩
  rw [← hp1] at V5
  rw [← hp1]
  have L0 := ld_new b05 [(dPut 1 [evT1], .slice (some ⟨p1, 0, none⟩) 1 1, ByteArray.empty)] 1 rfl (by decide) fun q hq => by
    rw [List.mem_singleton.1 hq]
    exact doG_evs [(⟨#[97]⟩, 1, 0)] V5 (by simp [Value.ownBlock]) rfl (show 0 < 256 by decide) (et_a 1 0) (by decide) (by decide)
  clear HP V5 V3 b5 b04 b05 hp1
  go_upto_region 6 with fail
  have L0 : LD w (w8.alloc (.cells #[.int .i64 1, .int .i64 0, .int .i64 0, .int .i64 0, .int .u8 0, .int .i64 1, .slice (some ⟨p1, 0, none⟩) 1 1, .string ByteArray.empty, .int .i64 (-1)] 29)) (.slice (some ⟨w8.heap.size, 0, none⟩) 1 1) _ := L0
  have H0 : Hid ((∃ qs, LD w (w8.alloc (.cells #[.int .i64 1, .int .i64 0, .int .i64 0, .int .i64 0, .int .u8 0, .int .i64 1, .slice (some ⟨p1, 0, none⟩) 1 1, .string ByteArray.empty, .int .i64 (-1)] 29)) (.slice (some ⟨w8.heap.size, 0, none⟩) 1 1) qs ∧ qs.map (fun q => q.1) = putsA Z 0) ∧ ∀ j, j < 0 → 0 ≤ Z j ∧ Z j ≤ 1000000) := ⟨⟨_, L0, rfl⟩, fun j hj => absurd hj (Nat.not_lt_zero j)⟩
  obtain ⟨w9, hw9⟩ : ∃ x, x = w8.alloc (.cells #[.int .i64 1, .int .i64 0, .int .i64 0, .int .i64 0, .int .u8 0, .int .i64 1, .slice (some ⟨p1, 0, none⟩) 1 1, .string ByteArray.empty, .int .i64 (-1)] 29) := ⟨_, rfl⟩
  rw [← hw9] at L0 H0 ⊢
  clear hw9
  generalize w8.heap.size = p3 at *
  clear L0
  go_wp2_with fail
  go_loopw [9, 44] (fun v x wr => ∃ k : Nat, k ≤ m ∧ x = .int .i64 k ∧ Hid ((∃ qs, LD w wr v qs ∧ qs.map (fun q => q.1) = putsA Z k) ∧ ∀ j, j < k → 0 ≤ Z j ∧ Z j ≤ 1000000)) (fun _ x _ => m - (intOf x).toNat)
  case atStart => exact ⟨0, Nat.zero_le _, rfl, H0⟩
  case round =>
    obtain ⟨k, hk, rfl, HS⟩ := hrel
    by_cases hlt : k < m
    · have hlt' : (k : Int) < (m : Int) := by omega
      obtain ⟨⟨qs, hL, hq⟩, hzz⟩ := HS.out
      have hql : qs.length = k + 1 := by rw [← putsA_len Z k, ← hq, List.length_map]
      obtain ⟨bz, oz, hA2, hcz⟩ := hzc.out k hlt
      subst hA2
      have hcz := (hL.bel.cell (p := ⟨bz, oz + k, none⟩) (World.block_lt_of_cell? _ _ hcz)).trans hcz
      have hbw := hL.bel
      by_cases hz0 : 0 ≤ Z k
      · by_cases hz1 : Z k ≤ 1000000
        · have HN : Hid (∀ j, j < k + 1 → 0 ≤ Z j ∧ Z j ≤ 1000000) := fun j hj => by
            by_cases q : j < k
            · exact hzz j q
            · obtain rfl : j = k := by omega
              exact ⟨hz0, hz1⟩
          have HD : Hid (LD w wr u9 qs ∧ qs.map (fun q => q.1) = putsA Z k) := ⟨hL, hq⟩
          have HO := addT_any wr ⟨#[97]⟩ (Z k)
          obtain ⟨z, hz⟩ : ∃ z, z = Z k := ⟨_, rfl⟩
          have HZ : Hid (z = Z k) := hz
          rw [← hz] at hcz hz0 hz1 HO
          clear hL HS hq hzz hz
          go_wp2_with fail
          refine HO.mono ?_
          rintro e wa ⟨rfl, ba⟩
          have V3 := varN_new wa #[.string ⟨#[97]⟩, .int .i64 2, .int .i64 z] 32
          have ba2 := bel_al (o := .cells #[.string ⟨#[97]⟩, .int .i64 2, .int .i64 z] 32) ba
          have HP := putT_any (wa.alloc (.cells #[.string ⟨#[97]⟩, .int .i64 2, .int .i64 z] 32)) ((k : Int) + 2) (some ⟨wa.heap.size, 0, none⟩) 1 1
          clear HO
          go_wp2_with fail
          refine HP.mono ?_
          rintro e wb ⟨rfl, bb⟩
          have V5 := V3.below bb
          have bb2 := bt ba2 bb
          obtain ⟨p1, hp1⟩ : ∃ p, p = wa.heap.size := ⟨_, rfl⟩
          have hpl : wr.heap.size ≤ p1 := by rw [hp1]; exact ba.size
          rw [← hp1] at V5
          rw [← hp1]
          obtain ⟨hL, hq⟩ := HD.out
          have hne : u9.ownBlock ≠ some p1 := fun e => by
            have := (hL.rd.own.lt _ e).2
            omega
          have hL1 := hL.below bb2
          obtain ⟨v', w', hrun, hL', _, _⟩ := app_ld hL1 [(dPut (k + 2) [evAdd z], .slice (some ⟨p1, 0, none⟩) 1 1, ByteArray.empty)] 1 rfl (by omega) (fun q hq => by
            rw [List.mem_singleton.1 hq]
            exact doG_evs [(⟨#[97]⟩, 2, z)] V5 hne rfl (show 0 < 256 by decide) (et_a 2 z) (show 1 ≤ 1000 by decide) (sz1 z))
          have HNX : Hid ((∃ qs, LD w w' v' qs ∧ qs.map (fun q => q.1) = putsA Z (k + 1)) ∧ ∀ j, j < k + 1 → 0 ≤ Z j ∧ Z j ≤ 1000000) := ⟨⟨_, hL', by rw [List.map_append, hq, putsA, HZ.out]; rfl⟩, HN.out⟩
          have hrun : (Builtin.append_ #[34, 34] 34 #[u9, .slice (some ⟨wb.heap.size, 0, none⟩) 1 1]).run Tryz.prog (wb.alloc (.cells #[.int .i64 1, .int .i64 0, .int .i64 0, .int .i64 0, .int .u8 0, .int .i64 ((k : Int) + 2), .slice (some ⟨p1, 0, none⟩) 1 1, .string ByteArray.empty, .int .i64 (-1)] 29)) = .ok v' w' := hrun
          clear hL hL1 hL' hq hql HN HD HZ V3 V5 HP ba ba2 bb bb2 hne hpl hp1
          go_wp2_with (at_builtin; refine Lib.wpList_append_run _ rfl _ _ _ _ rfl _ _ rfl rfl _ _ hrun ?_)
          exact ⟨⟨k + 1, by omega, by go_num, HNX⟩, by simp [intOf]; omega⟩
        · clear HS hzz hL hq
          generalize Z k = z at *
          go_wp2_with fail
          go_ret
          exact ⟨rfl, hbw⟩
      · clear HS hzz hL hq
        generalize Z k = z at *
        go_wp2_with fail
        go_ret
        exact ⟨rfl, hbw⟩
    · obtain rfl : k = m := by omega
      obtain ⟨⟨qs, hL, hq⟩, hzz⟩ := HS.out
      have hql : qs.length = k + 1 := by rw [← putsA_len Z k, ← hq, List.length_map]
      obtain ⟨v', w', hrun, hL', _, _⟩ := app_ld hL [(dAll, .slice none 0 0, ByteArray.empty)] 1 rfl (by omega) (fun q hq => by rw [List.mem_singleton.1 hq]; exact doG_plain _ _ _ rfl (show 0 < 256 by decide) rfl)
      have hrun : (Builtin.append_ #[34, 34] 34 #[u9, .slice (some ⟨wr.heap.size, 0, none⟩) 1 1]).run Tryz.prog (wr.alloc (.cells #[.int .i64 3, .int .i64 0, .int .i64 0, .int .i64 0, .int .u8 0, .int .i64 0, .slice none 0 0, .string ByteArray.empty, .int .i64 0] 29)) = .ok v' w' := hrun
      have hD := hL'.dos
      have hb0 := hL'.bel
      obtain ⟨A', C', hv, hc1, hc2⟩ := hL'.shape
      have hlen : (qs ++ [(dAll, .slice none 0 0, ByteArray.empty)] : List DoC).length = k + 2 := by rw [List.length_append, hql]; rfl
      rw [hlen] at hv hc1
      rw [List.map_append, hq] at hD
      have hD : Dos w' v' (putsA Z k ++ [dAll]) := hD
      subst hv
      have hc2 : C' ≤ 9223372036854775807 := by unfold maxLen at hc2; exact hc2
      obtain ⟨X, hX⟩ := Sto.six
      have y1 := shape (c := ⟨d, s, b⟩) hX ⟨h1, h2, h3, h4, h5⟩ (Z := Z) (m := k) (by omega) hzz
      have x1 := shape (c := ⟨1, 0, 1⟩) hX ⟨show 1 ≤ 1 by decide, show 1 ≤ 8 by decide, show 0 ≤ 4 by decide, show 1 ≤ 1 by decide, show 1 ≤ 10 by decide⟩ (Z := Z) (m := k) (by omega) hzz
      have hll : (putsA Z k ++ [dAll]).length = k + 2 := by rw [List.length_append, putsA_len]; rfl
      have HP1 := playR hX ⟨d, s, b⟩ (d : Int) (s : Int) (b : Int) rfl rfl rfl h1 h2 h3 h4 h5 _ _ _ hD (by rw [hll]; omega)
      have HP9 : Hid (∀ w2, Below w'.heap.size w' w2 → Calls Tryz.prog 13 #[.agg #[.int .i64 1, .int .i64 0, .int .i64 1], .slice A' (k + 2) C'] w2 fun e w3 => PlayR e w2 w3 ⟨1, 0, 1⟩ (Sto.steps X ⟨1, 0, 1⟩ (Sto.start ⟨1, 0, 1⟩) (putsA Z k ++ [dAll]))) := fun w2 hb => playR hX ⟨1, 0, 1⟩ 1 0 1 rfl rfl rfl (show 1 ≤ 1 by decide) (show 1 ≤ 8 by decide) (show 0 ≤ 4 by decide) (show 1 ≤ 1 by decide) (show 1 ≤ 10 by decide) _ _ _ (hD.below hb) (by rw [hll]; omega)
      have hr1 : (Sto.steps X ⟨d, s, b⟩ (Sto.start ⟨d, s, b⟩) (putsA Z k ++ [dAll])).2.length = k + 2 := (Sto.steps_length ..).trans hll
      have hr9 : (Sto.steps X ⟨1, 0, 1⟩ (Sto.start ⟨1, 0, 1⟩) (putsA Z k ++ [dAll])).2.length = k + 2 := (Sto.steps_length ..).trans hll
      generalize Sto.steps X ⟨d, s, b⟩ (Sto.start ⟨d, s, b⟩) (putsA Z k ++ [dAll]) = r1 at *
      generalize Sto.steps X ⟨1, 0, 1⟩ (Sto.start ⟨1, 0, 1⟩) (putsA Z k ++ [dAll]) = r9 at *
      have hel := evsA_len Z k
      have HY : Hid (r1.2[k + 1]? = some ⟨0, ((evsA Z k).length : Int), evsA Z k, 0, []⟩ ∧ r1.2.length = k + 2 ∧ (evsA Z k).length = k + 1) := ⟨y1, hr1, hel⟩
      have HX : Hid (r9.2[k + 1]? = some ⟨0, ((evsA Z k).length : Int), evsA Z k, 0, []⟩ ∧ r9.2.length = k + 2) := ⟨x1, hr9⟩
      clear hL hL' HS hq hql hD hlen hll y1 x1 hr1 hr9 hX hzz hel
      go_wp2_with (at_builtin; refine Lib.wpList_append_run _ rfl _ _ _ _ rfl _ _ rfl rfl _ _ hrun ?_)
      refine HP1.mono ?_
      rintro e wa ⟨vd1, vt1, vs1, va1, vr1, rfl, hS1, hR1, ba, _⟩
      obtain ⟨Ad1, nd1, Cd1, rfl⟩ : ∃ A n C, vd1 = .slice A n C := by
        obtain ⟨A, C, h, _⟩ := hS1.dk
        exact ⟨A, _, C, h⟩
      obtain ⟨At1, nt1, Ct1, rfl⟩ : ∃ A n C, vt1 = .slice A n C := by
        obtain ⟨A, C, h, _⟩ := hS1.tl
        exact ⟨A, _, C, h⟩
      obtain ⟨As1, ns1, Cs1, rfl⟩ : ∃ A n C, vs1 = .slice A n C := by
        obtain ⟨A, C, h, _⟩ := hS1.sn
        exact ⟨A, _, C, h⟩
      obtain ⟨Aa1, na1, Ca1, rfl⟩ : ∃ A n C, va1 = .slice A n C := by
        obtain ⟨A, C, h⟩ := hS1.ac.shape
        exact ⟨A, _, C, h⟩
      have bz : Below wa.heap.size wa (wa.alloc (.cells #[.int .i64 (d : Int), .int .i64 (s : Int), .int .i64 (b : Int), .slice Ad1 nd1 Cd1, .int .i64 (r1.1.segs : Int), .slice At1 nt1 Ct1, .slice As1 ns1 Cs1, .int .i64 r1.1.u, .slice Aa1 na1 Ca1] 44)) := (Below.refl _ _).alloc (Nat.le_refl _) _
      have HP2 := HP9.out _ (bt ba bz)
      have hR1 := hR1.below bz
      have hb2 := bt hb0 (bt ba bz)
      clear HP1 HP9 hS1 ba hrun hb0 bz
      go_wp2_with fail
      refine HP2.mono ?_
      rintro e wb ⟨vd2, vt2, vs2, va2, vr2, rfl, hS2, hR2, bb, _⟩
      obtain ⟨Ad2, nd2, Cd2, rfl⟩ : ∃ A n C, vd2 = .slice A n C := by
        obtain ⟨A, C, h, _⟩ := hS2.dk
        exact ⟨A, _, C, h⟩
      obtain ⟨At2, nt2, Ct2, rfl⟩ : ∃ A n C, vt2 = .slice A n C := by
        obtain ⟨A, C, h, _⟩ := hS2.tl
        exact ⟨A, _, C, h⟩
      obtain ⟨As2, ns2, Cs2, rfl⟩ : ∃ A n C, vs2 = .slice A n C := by
        obtain ⟨A, C, h, _⟩ := hS2.sn
        exact ⟨A, _, C, h⟩
      obtain ⟨Aa2, na2, Ca2, rfl⟩ : ∃ A n C, va2 = .slice A n C := by
        obtain ⟨A, C, h⟩ := hS2.ac.shape
        exact ⟨A, _, C, h⟩
      obtain ⟨wz, hwz⟩ : ∃ x, x = wb.alloc (.cells #[.int .i64 1, .int .i64 0, .int .i64 1, .slice Ad2 nd2 Cd2, .int .i64 (r9.1.segs : Int), .slice At2 nt2 Ct2, .slice As2 ns2 Cs2, .int .i64 r9.1.u, .slice Aa2 na2 Ca2] 44) := ⟨_, rfl⟩
      have bz : Below wb.heap.size wb (wb.alloc (.cells #[.int .i64 1, .int .i64 0, .int .i64 1, .slice Ad2 nd2 Cd2, .int .i64 (r9.1.segs : Int), .slice At2 nt2 Ct2, .slice As2 ns2 Cs2, .int .i64 r9.1.u, .slice Aa2 na2 Ca2] 44)) := (Below.refl _ _).alloc (Nat.le_refl _) _
      have hR2 := hR2.below bz
      have hR1 := hR1.below (bt bb bz)
      have hb3 := bt hb2 (bt bb bz)
      rw [← hwz] at hR1 hR2 hb3
      obtain ⟨y1, y5, y6⟩ := HY.out
      obtain ⟨x1, x6⟩ := HX.out
      obtain ⟨B1, D1, rfl, p5, p6, p7⟩ := hR1
      obtain ⟨B2, D2, rfl, q5, q6, q7⟩ := hR2
      obtain ⟨i1, o1, rfl, ve1, _, k0, _, k2, _, _, hev1, _⟩ := p7 _ _ y1
      obtain ⟨i2, o2, rfl, ve2, _, l0, _, l2, _, _, hev2, _⟩ := q7 _ _ x1
      have HQ := sameEv_qT hev1 hev2 true (iff_of_true rfl rfl)
      obtain ⟨Ae1, Ce1, rfl⟩ := hev1.shape
      obtain ⟨Ae2, Ce2, rfl⟩ := hev2.shape
      replace k2 : _ = some (Value.slice Ae1 (evsA Z k).length Ce1) := k2
      replace l2 : _ = some (Value.slice Ae2 (evsA Z k).length Ce2) := l2
      replace HQ : ∀ n, Calls Tryz.prog 14 #[.slice Ae1 (evsA Z k).length Ce1, .slice Ae2 (evsA Z k).length Ce2] _ _ := HQ
      rw [y6] at k2 l2 HQ
      rw [y5] at p5 ⊢
      rw [x6] at q5 ⊢
      have p6 : D1 ≤ 9223372036854775807 := by unfold maxLen at p6; exact p6
      have q6 : D2 ≤ 9223372036854775807 := by unfold maxLen at q6; exact q6
      replace k0 : _ = some (Value.int .i64 0) := k0
      replace l0 : _ = some (Value.int .i64 0) := l0
      clear HP2 hS2 HY HX y1 y5 y6 x1 x6 p7 q7 hev1 hev2 bb bz hb2
      go_upto_region 17 with fail
      rw [← hwz]
      clear hwz
      go_quiet ((go_at_call 14; refine HQ _))
      go_wp2_with fail
      go_ret
      exact ⟨rfl, bdn hb3 _⟩
theorem walk (w : World) (d : Int) (_ : (Lit.int .i64 d).wf = true) (s : Int) (_ : (Lit.int .i64 s).wf = true) (b : Int) (_ : (Lit.int .i64 b).wf = true) (A : Option Addr) (m C : Nat) (Z : Nat → Int) (g : Ints w (.slice A m C) m Z) (z : m ≤ C ∧ C ≤ maxLen) :
    Calls Tryz.prog 7 #[.int .i64 d, .int .i64 s, .int .i64 b, .slice A m C] w fun e w' => e = .returned (.bool true) ∧ Below w.heap.size w w' := by
  by_cases h : Small d s ∧ 1 ≤ b ∧ b ≤ 10 ∧ m ≤ 12
  · obtain ⟨⟨h1, h2, h3, h4⟩, h5, h6, h7⟩ := h
    have := good w d.toNat s.toNat b.toNat (by omega) (by omega) (by omega) (by omega) (by omega) A m C Z g h7
    rw [Int.toNat_of_nonneg (by omega), Int.toNat_of_nonneg (by omega), Int.toNat_of_nonneg (by omega)] at this
    exact this
  · exact bad w d s b A m C h (by have := z.1; have := z.2; unfold maxLen at *; omega)

set_option maxRecDepth 100000 in
theorem lifted (os : Os) (started : os.Started) (H : Type) (enc : TypeId × Value → H) :
    ReturnsInHanded {} Tryz.checked os 7 .any (Rows.topShapeSpec.pre6 enc Tryz.prog Tryz.f7 Rows.topShapeRow.domain false) (Rows.topShapeSpec.post enc Tryz.prog Tryz.f7 false true false false) := by
  refine returnsInHanded_of_change (C := Tryz.checked) own started (by kernel_rfl) Tryz.func7
    (ChangeSpec.witness6 (enc := enc) (C := Tryz.checked) false ⟨#[], #[.int .i64 0, .int .i64 0, .int .i64 0, .slice none 0 0], []⟩ 8 (by kernel_rfl) (by kernel_rfl) (by kernel_rfl) (by kernel_rfl)) ?_
  intro W base args ds gs before hval0 hW hcnd _
  have hval : ∀ (j : Nat) t v, Tryz.f7.params[j]? = some t → args[j]? = some v → Value.okWide Tryz.prog W .any base t v := hval0
  have hW' := hW
  obtain ⟨p, q, hA0, hV, rfl, hfz, hnd⟩ := hW
  have hA : DataW.TrodAll enc Tryz.prog W 0 (fun _ => true) true Tryz.f7.params.toList args.toList ds p := hA0
  rw [Tryz.params7] at hA hval
  obtain ⟨v0, vs0, d0, ds0, p0, q0, hargs, rfl, rfl, h0, r0⟩ := trodAll_cons hA
  obtain ⟨v1, vs1, d1, ds1, p1, q1, rfl, rfl, rfl, h1, r1⟩ := trodAll_cons r0
  obtain ⟨v2, vs2, d2, ds2, p2, q2, rfl, rfl, rfl, h2, r2⟩ := trodAll_cons r1
  obtain ⟨v3, vs3, d3, ds3, p3, q3, rfl, rfl, rfl, h3, r3⟩ := trodAll_cons r2
  obtain ⟨rfl, rfl, rfl⟩ := trodAll_nil r3
  obtain rfl : args = #[v0, v1, v2, v3] := by cases args; simp_all
  obtain ⟨rfl, rfl⟩ := trodVars_none hV
  obtain ⟨a0, rfl, rfl, rfl, g0⟩ := open_int Tryz.underlying3 (hval 0 3 v0 rfl rfl) h0
  obtain ⟨a1, rfl, rfl, rfl, g1⟩ := open_int Tryz.underlying3 (hval 1 3 v1 rfl rfl) h1
  obtain ⟨a2, rfl, rfl, rfl, g2⟩ := open_int Tryz.underlying3 (hval 2 3 v2 rfl rfl) h2
  obtain ⟨a3, l3, c3, rfl⟩ := okWide_slice Tryz.underlying22 (hval 3 22 v3 rfl rfl)
  have k3 := h3
  have lt3 : ∀ x ∈ p3, x.block < W.heap.size := by obtain ⟨m, hm⟩ := k3; exact DataW.trod_lt m _ _ _ hm
  obtain ⟨Z3, g3, z3⟩ := ints_of h3
  clear hA0 hval0
  refine (walk W a0 g0 a1 g1 a2 g2 _ _ _ Z3 g3 z3).mono fun e W' ⟨he, bel⟩ => ?_
  subst he
  exact ⟨_, rfl, _, _, _, [], _, [], hW', trodAll_mk1 (shut_bool Tryz.underlying4 _), (trodAll_cons_mk (shut_int Tryz.underlying3 g0) (trodAll_cons_mk (shut_int Tryz.underlying3 g1) (trodAll_cons_mk (shut_int Tryz.underlying3 g2) (trodAll_cons_mk (Below.trod Tryz.laidOut (by kernel_rfl) (of_decide_eq_true (by kernel_rfl)) k3 bel lt3) trodAll_mk0)))), rfl, bel.frame _, fun h => by cases h⟩

theorem over : Rows.topShapeRow.holds Tryz.pinned (OpenSpec.ofChange Rows.topShapeSpec) :=
  OpenClaim.holds_of_wide 7 Tryz.f7 rfl rfl rfl rfl rfl rfl rfl ⟨rfl, rfl, rfl, rfl, rfl⟩ rfl rfl rfl rfl rfl (by kernel_rfl) Tryz.func7 (by kernel_rfl)
    (of_decide_eq_true (by kernel_rfl)) (by unfold Func.isWrapper; first | (rw [if_pos (by decide +kernel)]; kernel_rfl) | (rw [if_neg (by decide +kernel)]; exact ⟨rfl, rfl⟩))
    (fun os started H enc _ => lifted os started H enc)
end Go.Proofs.YtleekmmoanlpfaaGreat.topShape

namespace Go.Proofs.YtleekmmoanlpfaaGreat
theorem topShape_holds : Rows.TopShapeSaid := topShape.over
#print axioms topShape_holds
end Go.Proofs.YtleekmmoanlpfaaGreat
