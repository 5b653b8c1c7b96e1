/-
  Whatever small setup there is, and whichever disks are gone, one more than there are spare ones: what is on disks is lost, and that is said; what is on none yet is not. No condition.
-/
import Derived.Test.YtleekmmoanlpfaaGreatRows
import Derived.Test.YtleekmmoanlpfaaGreatZ48
import Derived.Test.YtleekmmoanlpfaaGreatZ49
import Derived.ProofKit
import Derived.OpenShut
import Derived.Carry
import Derived.Deep.Cut
import Derived.Deep.CutRange
namespace Go.Proofs.YtleekmmoanlpfaaGreat.topMore
open Go.ChangeShapes Go.WideShapes Go.ChangeAt Go.RowKit
set_option linter.unusedVariables false

theorem own : ownKnob Tryz.prog.godebug = none := by kernel_rfl

set_option maxHeartbeats 400000 in
set_option maxRecDepth 100000 in
theorem bad (w : World) (d s f : Int) (h : ¬ (Small d s ∧ 0 ≤ f)) :
    Calls Tryz.prog 4 #[.int .i64 d, .int .i64 s, .int .i64 f] w fun e w' => e = .returned (.bool true) ∧ Below w.heap.size w w' := by
  have HA := aliveT_any w
  by_cases hs : Small d s
  · have hf : ¬ 0 ≤ f := fun q => h ⟨hs, q⟩
    have HS : Hid (∀ w1, Calls Tryz.prog 9 #[.int .i64 d, .int .i64 s] w1 fun e w' => e = .returned (.bool true) ∧ Below w1.heap.size w1 w') := fun w1 => small_yes w1 d s hs
    clear h hs
    go_enter Tryz.func4, Tryz.ntmps4
    go_wp2_with fail
    refine HA.mono ?_
    rintro e w1 ⟨rfl, b1⟩
    have HS1 := HS.out w1
    clear HA HS
    go_wp2_with fail
    refine HS1.mono ?_
    rintro e w2 ⟨rfl, b2⟩
    have b2 := bt b1 b2
    clear HS1 b1
    go_wp2_with fail
    go_ret
    exact ⟨rfl, b2⟩
  · have HS : Hid (∀ w1, Calls Tryz.prog 9 #[.int .i64 d, .int .i64 s] w1 fun e w' => e = .returned (.bool false) ∧ Below w1.heap.size w1 w') := fun w1 => small_no w1 d s hs
    clear h hs
    go_enter Tryz.func4, Tryz.ntmps4
    go_wp2_with fail
    refine HA.mono ?_
    rintro e w1 ⟨rfl, b1⟩
    have HS1 := HS.out w1
    clear HA HS
    go_wp2_with fail
    refine HS1.mono ?_
    rintro e w2 ⟨rfl, b2⟩
    have b2 := bt b1 b2
    clear HS1 b1
    go_wp2_with fail
    go_ret
    exact ⟨rfl, b2⟩
set_option maxHeartbeats 2000000 in
set_option maxRecDepth 100000 in
theorem good (w : World) (d s f : Nat) (h1 : 1 ≤ d) (h2 : d ≤ 8) (h3 : s ≤ 4) (hf : f ≤ 9223372036854775807) :
    Calls Tryz.prog 4 #[.int .i64 (d : Int), .int .i64 (s : Int), .int .i64 (f : Int)] w fun e w' => e = .returned (.bool true) ∧ Below w.heap.size w w' := by
  have HA := aliveT_any w
  have HS : Hid (∀ w1, Calls Tryz.prog 9 #[.int .i64 (d : Int), .int .i64 (s : Int)] w1 fun e w' => e = .returned (.bool true) ∧ Below w1.heap.size w1 w') := fun w1 => small_yes w1 d s ⟨by omega, by omega, by omega, by omega⟩
  go_enter Tryz.func4, Tryz.ntmps4
  go_wp2_with fail
  refine HA.mono ?_
  rintro e w1 ⟨rfl, b1⟩
  have HS1 := HS.out w1
  clear HA HS
  go_wp2_with fail
  refine HS1.mono ?_
  rintro e w2 ⟨rfl, b2⟩
  have b02 := bt b1 b2
  have HO := openT_any w2 ⟨#[97]⟩
  clear HS1 b1 b2
  go_wp2_with fail
  refine HO.mono ?_
  rintro e w3 ⟨rfl, b3⟩
  have b03 := bt b02 b3
  have V3 := varN_new w3 #[.string ⟨#[97]⟩, .int .i64 1, .int .i64 0] 32
  have b04 := bel_al (o := .cells #[.string ⟨#[97]⟩, .int .i64 1, .int .i64 0] 32) b03
  have HP := putT_any (w3.alloc (.cells #[.string ⟨#[97]⟩, .int .i64 1, .int .i64 0] 32)) 1 (some ⟨w3.heap.size, 0, none⟩) 1 1
  clear HO b02 b3 b03
  go_wp2_with fail
  refine HP.mono ?_
  rintro e w5 ⟨rfl, b5⟩
  have V5 := V3.below b5
  have b05 := bt b04 b5
  obtain ⟨p1, hp1⟩ : ∃ p, p = w3.heap.size := ⟨_, rfl⟩
  rw [← hp1] at V5
  rw [← hp1]
  have HO := addT_any w5 ⟨#[97]⟩ 5
  clear HP V3 b5 b04 hp1
  go_wp2_with fail
  refine HO.mono ?_
  rintro e w6 ⟨rfl, b6⟩
  have V6 := V5.below b6
  have b06 := bt b05 b6
  have V7 := varN_new w6 #[.string ⟨#[97]⟩, .int .i64 2, .int .i64 5] 32
  have b07 := bel_al (o := .cells #[.string ⟨#[97]⟩, .int .i64 2, .int .i64 5] 32) b06
  have V6' := V6.below (belA1 w6 (.cells #[.string ⟨#[97]⟩, .int .i64 2, .int .i64 5] 32))
  have HP := putT_any (w6.alloc (.cells #[.string ⟨#[97]⟩, .int .i64 2, .int .i64 5] 32)) 2 (some ⟨w6.heap.size, 0, none⟩) 1 1
  clear HO b05 b6 b06 V5 V6
  go_wp2_with fail
  refine HP.mono ?_
  rintro e w8 ⟨rfl, b8⟩
  have V8 := V7.below b8
  have V8' := V6'.below b8
  have b08 := bt b07 b8
  obtain ⟨p2, hp2⟩ : ∃ p, p = w6.heap.size := ⟨_, rfl⟩
  rw [← hp2] at V8
  rw [← hp2]
  have L0 := ld_new b08 [(dPut 1 [evT1], .slice (some ⟨p1, 0, none⟩) 1 1, ByteArray.empty), (dPut 2 [evAdd 5], .slice (some ⟨p2, 0, none⟩) 1 1, ByteArray.empty)] 2 rfl (by decide) fun q hq => by
    simp only [List.mem_cons, List.not_mem_nil, or_false] at hq
    rcases hq with rfl | rfl
    · exact doG_evs [(⟨#[97]⟩, 1, 0)] V8' (by simp [Value.ownBlock]) rfl (show 0 < 256 by decide) (et_a 1 0) (by decide) (by decide)
    · exact doG_evs [(⟨#[97]⟩, 2, 5)] V8 (by simp [Value.ownBlock]) rfl (show 0 < 256 by decide) (et_a 2 5) (by decide) (by decide)
  clear HP V8 V8' V7 V6' b8 b07 b08 hp2
  go_upto_region 7 with fail
  have L0 : LD w (w8.alloc (.cells #[.int .i64 1, .int .i64 0, .int .i64 0, .int .i64 0, .int .u8 0, .int .i64 1, .slice (some ⟨p1, 0, none⟩) 1 1, .string ByteArray.empty, .int .i64 (-1), .int .i64 1, .int .i64 0, .int .i64 0, .int .i64 0, .int .u8 0, .int .i64 2, .slice (some ⟨p2, 0, none⟩) 1 1, .string ByteArray.empty, .int .i64 (-1)] 29)) (.slice (some ⟨w8.heap.size, 0, none⟩) 2 2) _ := L0
  have H0 : Hid (∃ qs, LD w (w8.alloc (.cells #[.int .i64 1, .int .i64 0, .int .i64 0, .int .i64 0, .int .u8 0, .int .i64 1, .slice (some ⟨p1, 0, none⟩) 1 1, .string ByteArray.empty, .int .i64 (-1), .int .i64 1, .int .i64 0, .int .i64 0, .int .i64 0, .int .u8 0, .int .i64 2, .slice (some ⟨p2, 0, none⟩) 1 1, .string ByteArray.empty, .int .i64 (-1)] 29)) (.slice (some ⟨w8.heap.size, 0, none⟩) 2 2) qs ∧ qs.map (fun q => q.1) = moreL ⟨d, s, 1⟩ f 0) := ⟨_, L0, rfl⟩
  obtain ⟨n, hn⟩ : ∃ n, n = d + s := ⟨_, rfl⟩
  have hn' : (d : Int) + (s : Int) = (n : Int) := by omega
  rw [hn']
  have hn1 : 1 ≤ n := by omega
  have hn2 : n ≤ 12 := by omega
  have HN : Hid (n = d + s) := hn
  clear hn hn'
  generalize w8.alloc _ = w9 at *
  generalize w8.heap.size = p3 at *
  clear L0
  go_wp2_with fail
  go_loopw [8, 39] (fun v x wr => ∃ k : Nat, k ≤ s + 1 ∧ x = .int .i64 k ∧ Hid (∃ qs, LD w wr v qs ∧ qs.map (fun q => q.1) = moreL ⟨d, s, 1⟩ f k)) (fun _ x _ => s + 1 - (intOf x).toNat)
  case atStart => exact ⟨0, Nat.zero_le _, rfl, H0⟩
  case round =>
    obtain ⟨k, hk, rfl, HS⟩ := hrel
    by_cases hlt : k < s + 1
    · have hlt' : (k : Int) < (s : Int) + 1 := by omega
      obtain ⟨qs, hL, hq⟩ := HS.out
      have hql : qs.length = k + 2 := by rw [← moreL_len ⟨d, s, 1⟩ f k, ← hq, List.length_map]
      obtain ⟨v', w', hrun, hL', _, _⟩ := app_ld hL [(dLose ((f % n + k) % n), .slice none 0 0, ByteArray.empty)] 1 rfl (by omega) (fun q hq => by rw [List.mem_singleton.1 hq]; exact doG_plain _ _ _ rfl (show 0 < 256 by decide) rfl)
      have HNX : ∃ qs, LD w w' v' qs ∧ qs.map (fun q => q.1) = moreL ⟨d, s, 1⟩ f (k + 1) := ⟨_, hL', by rw [List.map_append, hq, HN.out]; show _ = putsA (fun _ => 5) 1 ++ (loses (d + s) f k ++ _); rw [← List.append_assoc]; rfl⟩
      have hrun : (Builtin.append_ #[34, 34] 34 #[u8, .slice (some ⟨wr.heap.size, 0, none⟩) 1 1]).run Tryz.prog (wr.alloc (.cells #[.int .i64 5, .int .i64 (((f % n + k) % n : Nat) : Int), .int .i64 0, .int .i64 0, .int .u8 0, .int .i64 0, .slice none 0 0, .string ByteArray.empty, .int .i64 0] 29)) = .ok v' w' := hrun
      have e1 : Hid (Int.tmod (f : Int) (n : Int) = ((f % n : Nat) : Int)) := rfl
      have e2 : Hid (Int.tmod (((f % n : Nat) : Int) + (k : Int)) (n : Int) = (((f % n + k) % n : Nat) : Int)) := rfl
      have hn0 : ¬ (n : Int) = 0 := by omega
      have hm1 : f % n < n := Nat.mod_lt _ (by omega)
      have hm2 : (f % n + k) % n < n := Nat.mod_lt _ (by omega)
      generalize (f % n + k) % n = i2 at *
      generalize f % n = i1 at *
      clear hL hL' HS hq hql
      go_wp2_with (first | (at_builtin; refine Lib.wpList_append_run _ rfl _ _ _ _ rfl _ _ rfl rfl _ _ hrun ?_) | with_reducible_and_instances refine wpList_rem _ rfl (.tmp 43) (.tmp 44) 3 3 rfl _ _ _ rfl rfl hn0 e1.out ?_ | with_reducible_and_instances refine wpList_rem _ rfl (.tmp 47) (.tmp 48) 3 3 rfl _ _ _ rfl rfl hn0 e2.out ?_)
      exact ⟨⟨k + 1, by omega, by go_num, HNX⟩, by simp [intOf]; omega⟩
    · obtain rfl : k = s + 1 := by omega
      obtain ⟨qs, hL, hq⟩ := HS.out
      have hql : qs.length = s + 3 := by rw [show s + 3 = s + 1 + 2 by omega, ← moreL_len ⟨d, s, 1⟩ f (s + 1), ← hq, List.length_map]
      obtain ⟨v', w', hrun, hL', _, _⟩ := app_ld hL [(dAll, .slice none 0 0, ByteArray.empty), (dScrub, .slice none 0 0, ByteArray.empty)] 2 rfl (by omega) (fun q hq => by
        simp only [List.mem_cons, List.not_mem_nil, or_false] at hq
        rcases hq with rfl | rfl
        · exact doG_plain _ _ _ rfl (show 0 < 256 by decide) rfl
        · exact doG_plain _ _ _ rfl (show 0 < 256 by decide) rfl)
      have hrun : (Builtin.append_ #[34, 34] 34 #[u8, .slice (some ⟨wr.heap.size, 0, none⟩) 2 2]).run Tryz.prog (wr.alloc (.cells #[.int .i64 3, .int .i64 0, .int .i64 0, .int .i64 0, .int .u8 0, .int .i64 0, .slice none 0 0, .string ByteArray.empty, .int .i64 0, .int .i64 8, .int .i64 0, .int .i64 0, .int .i64 0, .int .u8 0, .int .i64 0, .slice none 0 0, .string ByteArray.empty, .int .i64 0] 29)) = .ok v' w' := hrun
      have hD := hL'.dos
      have hb0 := hL'.bel
      obtain ⟨A, C, hv, hc1, hc2⟩ := hL'.shape
      have hlen : (qs ++ [(dAll, .slice none 0 0, ByteArray.empty), (dScrub, .slice none 0 0, ByteArray.empty)] : List DoC).length = s + 5 := by rw [List.length_append, hql]; rfl
      rw [hlen] at hv hc1
      rw [List.map_append, hq] at hD
      have hD : Dos w' v' (moreL ⟨d, s, 1⟩ f (s + 1) ++ [dAll, dScrub]) := hD
      subst hv
      have hc2 : C ≤ 9223372036854775807 := by unfold maxLen at hc2; exact hc2
      obtain ⟨X, hX⟩ := Sto.six
      obtain ⟨m1, m2, y1, y2, y3, y4⟩ := more1 (c := ⟨d, s, 1⟩) hX ⟨h1, h2, h3, show 1 ≤ 1 by decide, show 1 ≤ 10 by decide⟩ rfl f
      obtain ⟨z1, z2, x1, x2, x3, x4, x5⟩ := more9 (c := ⟨d, s, 9⟩) hX ⟨h1, h2, h3, show 1 ≤ 9 by decide, show 9 ≤ 10 by decide⟩ rfl f
      have hll : (moreL ⟨d, s, 1⟩ f (s + 1) ++ [dAll, dScrub]).length = s + 5 := by rw [List.length_append, moreL_len]; rfl
      have HP1 := playR hX ⟨d, s, 1⟩ (d : Int) (s : Int) 1 rfl rfl rfl h1 h2 h3 (show 1 ≤ 1 by decide) (show 1 ≤ 10 by decide) _ _ _ hD (by rw [hll]; omega)
      have HP9 : Hid (∀ w2, Below w'.heap.size w' w2 → Calls Tryz.prog 13 #[.agg #[.int .i64 (d : Int), .int .i64 (s : Int), .int .i64 9], .slice A (s + 5) C] w2 fun e w3 => PlayR e w2 w3 ⟨d, s, 9⟩ (Sto.steps X ⟨d, s, 9⟩ (Sto.start ⟨d, s, 9⟩) (moreL ⟨d, s, 9⟩ f (s + 1) ++ [dAll, dScrub]))) := fun w2 hb => playR hX ⟨d, s, 9⟩ (d : Int) (s : Int) 9 rfl rfl rfl h1 h2 h3 (show 1 ≤ 9 by decide) (show 9 ≤ 10 by decide) _ _ _ (hD.below hb) (by show (moreL ⟨d, s, 1⟩ f (s + 1) ++ [dAll, dScrub]).length ≤ 80; rw [hll]; omega)
      have hr1 : (Sto.steps X ⟨d, s, 1⟩ (Sto.start ⟨d, s, 1⟩) (moreL ⟨d, s, 1⟩ f (s + 1) ++ [dAll, dScrub])).2.length = s + 5 := (Sto.steps_length ..).trans hll
      have hr9 : (Sto.steps X ⟨d, s, 9⟩ (Sto.start ⟨d, s, 9⟩) (moreL ⟨d, s, 9⟩ f (s + 1) ++ [dAll, dScrub])).2.length = s + 5 := (Sto.steps_length ..).trans hll
      generalize Sto.steps X ⟨d, s, 1⟩ (Sto.start ⟨d, s, 1⟩) (moreL ⟨d, s, 1⟩ f (s + 1) ++ [dAll, dScrub]) = r1 at *
      generalize Sto.steps X ⟨d, s, 9⟩ (Sto.start ⟨d, s, 9⟩) (moreL ⟨d, s, 9⟩ f (s + 1) ++ [dAll, dScrub]) = r9 at *
      have HY : Hid (r1.2[s + 3]? = some m1 ∧ r1.2[s + 4]? = some m2 ∧ m1.err = 10 ∧ m2.err = 10 ∧ r1.2.length = s + 5) := ⟨y1, y2, y3, y4, hr1⟩
      have HX : Hid (r9.2[s + 3]? = some z1 ∧ r9.2[s + 4]? = some z2 ∧ z1.err = 0 ∧ z1.evs.length = 2 ∧ z2.err = 0 ∧ r9.2.length = s + 5) := ⟨x1, x2, x3, x4, x5, hr9⟩
      clear hL hL' HS hq hql hD hlen hll y1 y2 y3 y4 x1 x2 x3 x4 x5 hr1 hr9 hX
      go_wp2_with (at_builtin; refine Lib.wpList_append_run _ rfl _ _ _ _ rfl _ _ rfl rfl _ _ hrun ?_)
      refine HP1.mono ?_
      rintro e wa ⟨vd1, vt1, vs1, va1, vr1, rfl, hS1, hR1, ba, _⟩
      obtain ⟨Ad1, nd1, Cd1, rfl⟩ : ∃ A n C, vd1 = .slice A n C := by
        obtain ⟨A, C, h, _⟩ := hS1.dk
        exact ⟨A, _, C, h⟩
      obtain ⟨At1, nt1, Ct1, rfl⟩ : ∃ A n C, vt1 = .slice A n C := by
        obtain ⟨A, C, h, _⟩ := hS1.tl
        exact ⟨A, _, C, h⟩
      obtain ⟨As1, ns1, Cs1, rfl⟩ : ∃ A n C, vs1 = .slice A n C := by
        obtain ⟨A, C, h, _⟩ := hS1.sn
        exact ⟨A, _, C, h⟩
      obtain ⟨Aa1, na1, Ca1, rfl⟩ : ∃ A n C, va1 = .slice A n C := by
        obtain ⟨A, C, h⟩ := hS1.ac.shape
        exact ⟨A, _, C, h⟩
      have bz : Below wa.heap.size wa (wa.alloc (.cells #[.int .i64 (d : Int), .int .i64 (s : Int), .int .i64 1, .slice Ad1 nd1 Cd1, .int .i64 (r1.1.segs : Int), .slice At1 nt1 Ct1, .slice As1 ns1 Cs1, .int .i64 r1.1.u, .slice Aa1 na1 Ca1] 44)) := (Below.refl _ _).alloc (Nat.le_refl _) _
      have HP2 := HP9.out _ (bt ba bz)
      have hR1 := hR1.below bz
      have hb2 := bt hb0 (bt ba bz)
      clear HP1 HP9 hS1 ba hrun hb0 bz
      go_wp2_with fail
      refine HP2.mono ?_
      rintro e wb ⟨vd2, vt2, vs2, va2, vr2, rfl, hS2, hR2, bb, _⟩
      obtain ⟨Ad2, nd2, Cd2, rfl⟩ : ∃ A n C, vd2 = .slice A n C := by
        obtain ⟨A, C, h, _⟩ := hS2.dk
        exact ⟨A, _, C, h⟩
      obtain ⟨At2, nt2, Ct2, rfl⟩ : ∃ A n C, vt2 = .slice A n C := by
        obtain ⟨A, C, h, _⟩ := hS2.tl
        exact ⟨A, _, C, h⟩
      obtain ⟨As2, ns2, Cs2, rfl⟩ : ∃ A n C, vs2 = .slice A n C := by
        obtain ⟨A, C, h, _⟩ := hS2.sn
        exact ⟨A, _, C, h⟩
      obtain ⟨Aa2, na2, Ca2, rfl⟩ : ∃ A n C, va2 = .slice A n C := by
        obtain ⟨A, C, h⟩ := hS2.ac.shape
        exact ⟨A, _, C, h⟩
      have bz : Below wb.heap.size wb (wb.alloc (.cells #[.int .i64 (d : Int), .int .i64 (s : Int), .int .i64 9, .slice Ad2 nd2 Cd2, .int .i64 (r9.1.segs : Int), .slice At2 nt2 Ct2, .slice As2 ns2 Cs2, .int .i64 r9.1.u, .slice Aa2 na2 Ca2] 44)) := (Below.refl _ _).alloc (Nat.le_refl _) _
      have hR2 := hR2.below bz
      have hR1 := hR1.below (bt bb bz)
      have hb3 := bt hb2 (bt bb bz)
      obtain ⟨y1, y2, y3, y4, y5⟩ := HY.out
      obtain ⟨x1, x2, x3, x4, x5, x6⟩ := HX.out
      obtain ⟨B1, D1, rfl, p5, p6, p7⟩ := hR1
      obtain ⟨B2, D2, rfl, q5, q6, q7⟩ := hR2
      obtain ⟨i1, o1, rfl, _, _, k0, _⟩ := p7 _ _ y1
      obtain ⟨_, _, e5, _, _, k1, _⟩ := p7 _ _ y2
      cases e5
      obtain ⟨i2, o2, rfl, ve, _, l0, _, l2, _, _, hev, _⟩ := q7 _ _ x1
      obtain ⟨_, _, e5, _, _, l1, _⟩ := q7 _ _ x2
      cases e5
      obtain ⟨Ae, Ce, rfl⟩ := hev.shape
      rw [y3] at k0
      rw [y4] at k1
      rw [x3] at l0
      rw [x5] at l1
      rw [x4] at l2
      rw [y5] at p5 ⊢
      rw [x6] at q5 ⊢
      have p6 : D1 ≤ 9223372036854775807 := by unfold maxLen at p6; exact p6
      have q6 : D2 ≤ 9223372036854775807 := by unfold maxLen at q6; exact q6
      have k0 : _ = some (Value.int .i64 10) := k0
      have k1 : _ = some (Value.int .i64 10) := k1
      have l0 : _ = some (Value.int .i64 0) := l0
      have l1 : _ = some (Value.int .i64 0) := l1
      clear HP2 hS2 HY HX y1 y2 y3 y4 y5 x1 x2 x3 x4 x5 x6 p7 q7 hev bb bz hb2
      go_upto_region 16 with fail
      go_wp2_with fail
      go_ret
      exact ⟨rfl, hb3⟩
theorem walk (w : World) (d : Int) (_ : (Lit.int .i64 d).wf = true) (s : Int) (_ : (Lit.int .i64 s).wf = true) (f : Int) (hf : (Lit.int .i64 f).wf = true) :
    Calls Tryz.prog 4 #[.int .i64 d, .int .i64 s, .int .i64 f] w fun e w' => e = .returned (.bool true) ∧ Below w.heap.size w w' := by
  by_cases h : Small d s ∧ 0 ≤ f
  · obtain ⟨⟨h1, h2, h3, h4⟩, h5⟩ := h
    have h6 := bounds_i64 hf
    have := good w d.toNat s.toNat f.toNat (by omega) (by omega) (by omega) (by omega)
    rw [Int.toNat_of_nonneg (by omega), Int.toNat_of_nonneg (by omega), Int.toNat_of_nonneg (by omega)] at this
    exact this
  · exact bad w d s f h

set_option maxRecDepth 100000 in
theorem lifted (os : Os) (started : os.Started) (H : Type) (enc : TypeId × Value → H) :
    ReturnsInHanded {} Tryz.checked os 4 .any (Rows.topMoreSpec.pre6 enc Tryz.prog Tryz.f4 Rows.topMoreRow.domain false) (Rows.topMoreSpec.post enc Tryz.prog Tryz.f4 false true false false) := by
  refine returnsInHanded_of_change (C := Tryz.checked) own started (by kernel_rfl) Tryz.func4
    (ChangeSpec.witness6 (enc := enc) (C := Tryz.checked) false ⟨#[], #[.int .i64 0, .int .i64 0, .int .i64 0], []⟩ 8 (by kernel_rfl) (by kernel_rfl) (by kernel_rfl) (by kernel_rfl)) ?_
  intro W base args ds gs before hval0 hW hcnd _
  have hval : ∀ (j : Nat) t v, Tryz.f4.params[j]? = some t → args[j]? = some v → Value.okWide Tryz.prog W .any base t v := hval0
  have hW' := hW
  obtain ⟨p, q, hA0, hV, rfl, hfz, hnd⟩ := hW
  have hA : DataW.TrodAll enc Tryz.prog W 0 (fun _ => true) true Tryz.f4.params.toList args.toList ds p := hA0
  rw [Tryz.params4] at hA hval
  obtain ⟨v0, vs0, d0, ds0, p0, q0, hargs, rfl, rfl, h0, r0⟩ := trodAll_cons hA
  obtain ⟨v1, vs1, d1, ds1, p1, q1, rfl, rfl, rfl, h1, r1⟩ := trodAll_cons r0
  obtain ⟨v2, vs2, d2, ds2, p2, q2, rfl, rfl, rfl, h2, r2⟩ := trodAll_cons r1
  obtain ⟨rfl, rfl, rfl⟩ := trodAll_nil r2
  obtain rfl : args = #[v0, v1, v2] := by cases args; simp_all
  obtain ⟨rfl, rfl⟩ := trodVars_none hV
  obtain ⟨a0, rfl, rfl, rfl, g0⟩ := open_int Tryz.underlying3 (hval 0 3 v0 rfl rfl) h0
  obtain ⟨a1, rfl, rfl, rfl, g1⟩ := open_int Tryz.underlying3 (hval 1 3 v1 rfl rfl) h1
  obtain ⟨a2, rfl, rfl, rfl, g2⟩ := open_int Tryz.underlying3 (hval 2 3 v2 rfl rfl) h2
  clear hA0 hval0
  refine (walk W a0 g0 a1 g1 a2 g2).mono fun e W' ⟨he, bel⟩ => ?_
  subst he
  exact ⟨_, rfl, _, _, _, [], _, [], hW', trodAll_mk1 (shut_bool Tryz.underlying4 _), (trodAll_cons_mk (shut_int Tryz.underlying3 g0) (trodAll_cons_mk (shut_int Tryz.underlying3 g1) (trodAll_cons_mk (shut_int Tryz.underlying3 g2) trodAll_mk0))), rfl, bel.frame _, fun h => by cases h⟩

theorem over : Rows.topMoreRow.holds Tryz.pinned (OpenSpec.ofChange Rows.topMoreSpec) :=
  OpenClaim.holds_of_wide 4 Tryz.f4 rfl rfl rfl rfl rfl rfl rfl ⟨rfl, rfl, rfl, rfl, rfl⟩ rfl rfl rfl rfl rfl (by kernel_rfl) Tryz.func4 (by kernel_rfl)
    (of_decide_eq_true (by kernel_rfl)) (by unfold Func.isWrapper; first | (rw [if_pos (by decide +kernel)]; kernel_rfl) | (rw [if_neg (by decide +kernel)]; exact ⟨rfl, rfl⟩))
    (fun os started H enc _ => lifted os started H enc)
end Go.Proofs.YtleekmmoanlpfaaGreat.topMore

namespace Go.Proofs.YtleekmmoanlpfaaGreat
theorem topMore_holds : Rows.TopMoreSaid := topMore.over
#print axioms topMore_holds
end Go.Proofs.YtleekmmoanlpfaaGreat
