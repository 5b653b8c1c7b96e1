/-
  Whatever small setup there is: one byte turned on each of no more disks than there are spare ones is no matter; a scrub writes as many blocks. No condition.
-/
import Derived.Test.YtleekmmoanlpfaaGreatRows
import Derived.Test.YtleekmmoanlpfaaGreatZ50
import Derived.Test.YtleekmmoanlpfaaGreatZ49
import Derived.ProofKit
import Derived.OpenShut
import Derived.Carry
import Derived.Deep.Cut
import Derived.Deep.CutRange
namespace Go.Proofs.YtleekmmoanlpfaaGreat.topSpoilt
open Go.ChangeShapes Go.WideShapes Go.ChangeAt Go.RowKit
set_option linter.unusedVariables false

theorem own : ownKnob Tryz.prog.godebug = none := by kernel_rfl

set_option maxHeartbeats 400000 in
set_option maxRecDepth 100000 in
theorem bad (w : World) (d s f p y : Int) (h : ¬ (Small d s ∧ 0 ≤ f ∧ 0 ≤ p ∧ p ≤ 11 ∧ y ≠ 0)) :
    Calls Tryz.prog 5 #[.int .i64 d, .int .i64 s, .int .i64 f, .int .i64 p, .int .u8 y] w fun e w' => e = .returned (.bool true) ∧ Below w.heap.size w w' := by
  have HA := aliveT_any w
  by_cases hs : Small d s
  · have HS : Hid (∀ w1, Calls Tryz.prog 9 #[.int .i64 d, .int .i64 s] w1 fun e w' => e = .returned (.bool true) ∧ Below w1.heap.size w1 w') := fun w1 => small_yes w1 d s hs
    by_cases hf : 0 ≤ f
    · by_cases hp : 0 ≤ p
      · by_cases hp2 : p ≤ 11
        · obtain rfl : y = 0 := Decidable.not_not.1 fun q => h ⟨hs, hf, hp, hp2, q⟩
          clear h hs
          go_enter Tryz.func5, Tryz.ntmps5
          go_wp2_with fail
          refine HA.mono ?_
          rintro e w1 ⟨rfl, b1⟩
          have HS1 := HS.out w1
          clear HA HS
          go_wp2_with fail
          refine HS1.mono ?_
          rintro e w2 ⟨rfl, b2⟩
          have b2 := bt b1 b2
          clear HS1 b1
          go_wp2_with fail
          go_ret
          exact ⟨rfl, b2⟩
        · clear h hs
          go_enter Tryz.func5, Tryz.ntmps5
          go_wp2_with fail
          refine HA.mono ?_
          rintro e w1 ⟨rfl, b1⟩
          have HS1 := HS.out w1
          clear HA HS
          go_wp2_with fail
          refine HS1.mono ?_
          rintro e w2 ⟨rfl, b2⟩
          have b2 := bt b1 b2
          clear HS1 b1
          go_wp2_with fail
          go_ret
          exact ⟨rfl, b2⟩
      · clear h hs
        go_enter Tryz.func5, Tryz.ntmps5
        go_wp2_with fail
        refine HA.mono ?_
        rintro e w1 ⟨rfl, b1⟩
        have HS1 := HS.out w1
        clear HA HS
        go_wp2_with fail
        refine HS1.mono ?_
        rintro e w2 ⟨rfl, b2⟩
        have b2 := bt b1 b2
        clear HS1 b1
        go_wp2_with fail
        go_ret
        exact ⟨rfl, b2⟩
    · clear h hs
      go_enter Tryz.func5, Tryz.ntmps5
      go_wp2_with fail
      refine HA.mono ?_
      rintro e w1 ⟨rfl, b1⟩
      have HS1 := HS.out w1
      clear HA HS
      go_wp2_with fail
      refine HS1.mono ?_
      rintro e w2 ⟨rfl, b2⟩
      have b2 := bt b1 b2
      clear HS1 b1
      go_wp2_with fail
      go_ret
      exact ⟨rfl, b2⟩
  · have HS : Hid (∀ w1, Calls Tryz.prog 9 #[.int .i64 d, .int .i64 s] w1 fun e w' => e = .returned (.bool false) ∧ Below w1.heap.size w1 w') := fun w1 => small_no w1 d s hs
    clear h hs
    go_enter Tryz.func5, Tryz.ntmps5
    go_wp2_with fail
    refine HA.mono ?_
    rintro e w1 ⟨rfl, b1⟩
    have HS1 := HS.out w1
    clear HA HS
    go_wp2_with fail
    refine HS1.mono ?_
    rintro e w2 ⟨rfl, b2⟩
    have b2 := bt b1 b2
    clear HS1 b1
    go_wp2_with fail
    go_ret
    exact ⟨rfl, b2⟩
set_option maxHeartbeats 2000000 in
set_option maxRecDepth 100000 in
theorem good (w : World) (d s f p y : Nat) (h1 : 1 ≤ d) (h2 : d ≤ 8) (h3 : s ≤ 4) (hf : f ≤ 9223372036854775807) (hp : p ≤ 11) (y1 : 1 ≤ y) (y2 : y < 256) :
    Calls Tryz.prog 5 #[.int .i64 (d : Int), .int .i64 (s : Int), .int .i64 (f : Int), .int .i64 (p : Int), .int .u8 (y : Int)] w fun e w' => e = .returned (.bool true) ∧ Below w.heap.size w w' := by
  have HA := aliveT_any w
  have HS : Hid (∀ w1, Calls Tryz.prog 9 #[.int .i64 (d : Int), .int .i64 (s : Int)] w1 fun e w' => e = .returned (.bool true) ∧ Below w1.heap.size w1 w') := fun w1 => small_yes w1 d s ⟨by omega, by omega, by omega, by omega⟩
  have hy0 : ¬ (y : Int) = 0 := by omega
  have hp0 : ¬ (11 : Int) < (p : Int) := by omega
  have hf0 : ¬ (f : Int) < 0 := by omega
  have hp00 : ¬ (p : Int) < 0 := by omega
  have hyb : ((y : Int) == 0) = false := by simpa using hy0
  have hcond : (decide ((f : Int) < 0) || decide ((p : Int) < 0) || decide ((11 : Int) < (p : Int)) || ((y : Int) == 0)) = false := by rw [decide_eq_false hf0, decide_eq_false hp00, decide_eq_false hp0, hyb]; rfl
  go_enter Tryz.func5, Tryz.ntmps5
  go_wp2_with fail
  refine HA.mono ?_
  rintro e w1 ⟨rfl, b1⟩
  have HS1 := HS.out w1
  clear HA HS
  go_wp2_with fail
  refine HS1.mono ?_
  rintro e w2 ⟨rfl, b2⟩
  have b02 := bt b1 b2
  have HO := openT_any w2 ⟨#[97]⟩
  clear HS1 b1 b2
  go_wp2_with fail
  refine HO.mono ?_
  rintro e w3 ⟨rfl, b3⟩
  have b03 := bt b02 b3
  have HO2 := addT_any w3 ⟨#[97]⟩ 5
  clear HO b02 b3
  go_wp2_with fail
  refine HO2.mono ?_
  rintro e w4 ⟨rfl, b4⟩
  have b04 := bt b03 b4
  have V3 := varN_new w4 #[.string ⟨#[97]⟩, .int .i64 1, .int .i64 0, .string ⟨#[97]⟩, .int .i64 2, .int .i64 5] 32
  have b05 := bel_al (o := .cells #[.string ⟨#[97]⟩, .int .i64 1, .int .i64 0, .string ⟨#[97]⟩, .int .i64 2, .int .i64 5] 32) b04
  have HP := putT_any (w4.alloc (.cells #[.string ⟨#[97]⟩, .int .i64 1, .int .i64 0, .string ⟨#[97]⟩, .int .i64 2, .int .i64 5] 32)) 1 (some ⟨w4.heap.size, 0, none⟩) 2 2
  clear HO2 b03 b4 b04
  go_wp2_with fail
  refine HP.mono ?_
  rintro e w8 ⟨rfl, b6⟩
  have V5 := V3.below b6
  have b06 := bt b05 b6
  obtain ⟨p1, hp1⟩ : ∃ p, p = w4.heap.size := ⟨_, rfl⟩
  rw [← hp1] at V5
  rw [← hp1]
  have L0 := ld_new b06 [(dPut 1 [evT1, evAdd 5], .slice (some ⟨p1, 0, none⟩) 2 2, ByteArray.empty)] 1 rfl (by decide) fun q hq => by
    rw [List.mem_singleton.1 hq]
    exact doG_evs [(⟨#[97]⟩, 1, 0), (⟨#[97]⟩, 2, 5)] V5 (by simp [Value.ownBlock]) rfl (show 0 < 256 by decide) (by simp [etE, nbT_a]) (by decide) (by decide)
  clear HP V5 V3 b6 b05 b06 hp1
  go_upto_region 7 with fail
  have L0 : LD w (w8.alloc (.cells #[.int .i64 1, .int .i64 0, .int .i64 0, .int .i64 0, .int .u8 0, .int .i64 1, .slice (some ⟨p1, 0, none⟩) 2 2, .string ByteArray.empty, .int .i64 (-1)] 29)) (.slice (some ⟨w8.heap.size, 0, none⟩) 1 1) _ := L0
  have H0 : Hid (∃ qs, LD w (w8.alloc (.cells #[.int .i64 1, .int .i64 0, .int .i64 0, .int .i64 0, .int .u8 0, .int .i64 1, .slice (some ⟨p1, 0, none⟩) 2 2, .string ByteArray.empty, .int .i64 (-1)] 29)) (.slice (some ⟨w8.heap.size, 0, none⟩) 1 1) qs ∧ qs.map (fun q => q.1) = spoiltL ⟨d, s, 1⟩ f p y 0) := ⟨_, L0, rfl⟩
  obtain ⟨n, hn⟩ : ∃ n, n = d + s := ⟨_, rfl⟩
  have hn' : (d : Int) + (s : Int) = (n : Int) := by omega
  rw [hn']
  have hn1 : 1 ≤ n := by omega
  have hn2 : n ≤ 12 := by omega
  have HN : Hid (n = d + s) := hn
  clear hn hn'
  generalize w8.alloc _ = w9 at *
  generalize w8.heap.size = p3 at *
  clear L0
  go_wp2_with fail
  go_loopw [12, 49] (fun v x wr => ∃ k : Nat, k ≤ s ∧ x = .int .i64 k ∧ Hid (∃ qs, LD w wr v qs ∧ qs.map (fun q => q.1) = spoiltL ⟨d, s, 1⟩ f p y k)) (fun _ x _ => s - (intOf x).toNat)
  case atStart => exact ⟨0, Nat.zero_le _, rfl, H0⟩
  case round =>
    obtain ⟨k, hk, rfl, HS⟩ := hrel
    by_cases hlt : k < s
    · have hlt' : (k : Int) < (s : Int) := by omega
      obtain ⟨qs, hL, hq⟩ := HS.out
      have hql : qs.length = k + 1 := by rw [← spoiltL_len ⟨d, s, 1⟩ f p y k, ← hq, List.length_map]
      obtain ⟨v', w', hrun, hL', _, _⟩ := app_ld hL [(dSpoil ((f % n + k) % n) p y, .slice none 0 0, ByteArray.empty)] 1 rfl (by omega) (fun q hq => by rw [List.mem_singleton.1 hq]; exact doG_plain _ _ _ rfl y2 rfl)
      have HNX : ∃ qs, LD w w' v' qs ∧ qs.map (fun q => q.1) = spoiltL ⟨d, s, 1⟩ f p y (k + 1) := ⟨_, hL', by rw [List.map_append, hq, HN.out]; rfl⟩
      have hrun : (Builtin.append_ #[34, 34] 34 #[u12, .slice (some ⟨wr.heap.size, 0, none⟩) 1 1]).run Tryz.prog (wr.alloc (.cells #[.int .i64 7, .int .i64 (((f % n + k) % n : Nat) : Int), .int .i64 0, .int .i64 (p : Int), .int .u8 (y : Int), .int .i64 0, .slice none 0 0, .string ByteArray.empty, .int .i64 0] 29)) = .ok v' w' := hrun
      have e1 : Hid (Int.tmod (f : Int) (n : Int) = ((f % n : Nat) : Int)) := rfl
      have e2 : Hid (Int.tmod (((f % n : Nat) : Int) + (k : Int)) (n : Int) = (((f % n + k) % n : Nat) : Int)) := rfl
      have hn0 : ¬ (n : Int) = 0 := by omega
      have hm1 : f % n < n := Nat.mod_lt _ (by omega)
      have hm2 : (f % n + k) % n < n := Nat.mod_lt _ (by omega)
      generalize (f % n + k) % n = i2 at *
      generalize f % n = i1 at *
      clear hL hL' HS hq hql
      go_wp2_with (first | (at_builtin; refine Lib.wpList_append_run _ rfl _ _ _ _ rfl _ _ rfl rfl _ _ hrun ?_) | with_reducible_and_instances refine wpList_rem _ rfl (.tmp 53) (.tmp 54) 3 3 rfl _ _ _ rfl rfl hn0 e1.out ?_ | with_reducible_and_instances refine wpList_rem _ rfl (.tmp 57) (.tmp 58) 3 3 rfl _ _ _ rfl rfl hn0 e2.out ?_)
      exact ⟨⟨k + 1, by omega, by go_num, HNX⟩, by simp [intOf]; omega⟩
    · obtain rfl : k = s := by omega
      obtain ⟨qs, hL, hq⟩ := HS.out
      have hql : qs.length = k + 1 := by rw [← spoiltL_len ⟨d, k, 1⟩ f p y k, ← hq, List.length_map]
      obtain ⟨v', w', hrun, hL', _, _⟩ := app_ld hL [(dHealth, .slice none 0 0, ByteArray.empty), (dAll, .slice none 0 0, ByteArray.empty), (dScrub, .slice none 0 0, ByteArray.empty), (dHealth, .slice none 0 0, ByteArray.empty)] 4 rfl (by omega) (fun q hq => by
        simp only [List.mem_cons, List.not_mem_nil, or_false] at hq
        rcases hq with rfl | rfl | rfl | rfl
        · exact doG_plain _ _ _ rfl (show 0 < 256 by decide) rfl
        · exact doG_plain _ _ _ rfl (show 0 < 256 by decide) rfl
        · exact doG_plain _ _ _ rfl (show 0 < 256 by decide) rfl
        · exact doG_plain _ _ _ rfl (show 0 < 256 by decide) rfl)
      have hrun : (Builtin.append_ #[34, 34] 34 #[u12, .slice (some ⟨wr.heap.size, 0, none⟩) 4 4]).run Tryz.prog (wr.alloc (.cells #[.int .i64 9, .int .i64 0, .int .i64 0, .int .i64 0, .int .u8 0, .int .i64 0, .slice none 0 0, .string ByteArray.empty, .int .i64 0, .int .i64 3, .int .i64 0, .int .i64 0, .int .i64 0, .int .u8 0, .int .i64 0, .slice none 0 0, .string ByteArray.empty, .int .i64 0, .int .i64 8, .int .i64 0, .int .i64 0, .int .i64 0, .int .u8 0, .int .i64 0, .slice none 0 0, .string ByteArray.empty, .int .i64 0, .int .i64 9, .int .i64 0, .int .i64 0, .int .i64 0, .int .u8 0, .int .i64 0, .slice none 0 0, .string ByteArray.empty, .int .i64 0] 29)) = .ok v' w' := hrun
      have hD := hL'.dos
      have hb0 := hL'.bel
      obtain ⟨A, C, hv, hc1, hc2⟩ := hL'.shape
      have hlen : (qs ++ [(dHealth, .slice none 0 0, ByteArray.empty), (dAll, .slice none 0 0, ByteArray.empty), (dScrub, .slice none 0 0, ByteArray.empty), (dHealth, .slice none 0 0, ByteArray.empty)] : List DoC).length = k + 5 := by rw [List.length_append, hql]; rfl
      rw [hlen] at hv hc1
      rw [List.map_append, hq] at hD
      have hD : Dos w' v' (spoiltL ⟨d, k, 1⟩ f p y k ++ [dHealth, dAll, dScrub, dHealth]) := hD
      subst hv
      have hc2 : C ≤ 9223372036854775807 := by unfold maxLen at hc2; exact hc2
      obtain ⟨X, hX⟩ := Sto.six
      obtain ⟨a1, a2, a3, a4, z1, z2, z3, z4, z5, z6, z7, z8, z9⟩ := spoilt (c := ⟨d, k, 1⟩) hX ⟨h1, h2, h3, show 1 ≤ 1 by decide, show 1 ≤ 10 by decide⟩ rfl f hp y1 y2
      have hll : (spoiltL ⟨d, k, 1⟩ f p y k ++ [dHealth, dAll, dScrub, dHealth]).length = k + 5 := by rw [List.length_append, spoiltL_len]; rfl
      have HP1 := playR hX ⟨d, k, 1⟩ (d : Int) (k : Int) 1 rfl rfl rfl h1 h2 h3 (show 1 ≤ 1 by decide) (show 1 ≤ 10 by decide) _ _ _ hD (by rw [hll]; omega)
      have hr1 : (Sto.steps X ⟨d, k, 1⟩ (Sto.start ⟨d, k, 1⟩) (spoiltL ⟨d, k, 1⟩ f p y k ++ [dHealth, dAll, dScrub, dHealth])).2.length = k + 5 := (Sto.steps_length ..).trans hll
      generalize Sto.steps X ⟨d, k, 1⟩ (Sto.start ⟨d, k, 1⟩) (spoiltL ⟨d, k, 1⟩ f p y k ++ [dHealth, dAll, dScrub, dHealth]) = r1 at *
      have HY : Hid (r1.2[k + 1]? = some a1 ∧ r1.2[k + 2]? = some a2 ∧ r1.2[k + 3]? = some a3 ∧ r1.2[k + 4]? = some a4 ∧ a1.n = (k : Int) ∧ a2.err = 0 ∧ a2.evs.length = 2 ∧ a3.n = (k : Int) ∧ a4.n = 0 ∧ r1.2.length = k + 5) := ⟨z1, z2, z3, z4, z5, z6, z7, z8, z9, hr1⟩
      clear hL hL' HS hq hql hD hlen hll z1 z2 z3 z4 z5 z6 z7 z8 z9 hr1 hX
      go_wp2_with (at_builtin; refine Lib.wpList_append_run _ rfl _ _ _ _ rfl _ _ rfl rfl _ _ hrun ?_)
      refine HP1.mono ?_
      rintro e wa ⟨vd1, vt1, vs1, va1, vr1, rfl, hS1, hR1, ba, _⟩
      obtain ⟨Ad1, nd1, Cd1, rfl⟩ : ∃ A n C, vd1 = .slice A n C := by
        obtain ⟨A, C, h, _⟩ := hS1.dk
        exact ⟨A, _, C, h⟩
      obtain ⟨At1, nt1, Ct1, rfl⟩ : ∃ A n C, vt1 = .slice A n C := by
        obtain ⟨A, C, h, _⟩ := hS1.tl
        exact ⟨A, _, C, h⟩
      obtain ⟨As1, ns1, Cs1, rfl⟩ : ∃ A n C, vs1 = .slice A n C := by
        obtain ⟨A, C, h, _⟩ := hS1.sn
        exact ⟨A, _, C, h⟩
      obtain ⟨Aa1, na1, Ca1, rfl⟩ : ∃ A n C, va1 = .slice A n C := by
        obtain ⟨A, C, h⟩ := hS1.ac.shape
        exact ⟨A, _, C, h⟩
      have bz : Below wa.heap.size wa (wa.alloc (.cells #[.int .i64 (d : Int), .int .i64 (k : Int), .int .i64 1, .slice Ad1 nd1 Cd1, .int .i64 (r1.1.segs : Int), .slice At1 nt1 Ct1, .slice As1 ns1 Cs1, .int .i64 r1.1.u, .slice Aa1 na1 Ca1] 44)) := (Below.refl _ _).alloc (Nat.le_refl _) _
      have hR1 := hR1.below bz
      have hb3 := bt hb0 (bt ba bz)
      obtain ⟨z1, z2, z3, z4, z5, z6, z7, z8, z9, zl⟩ := HY.out
      obtain ⟨B1, D1, rfl, p5, p6, p7⟩ := hR1
      obtain ⟨i1, o1, rfl, _, _, _, k1, _⟩ := p7 _ _ z1
      obtain ⟨_, _, e5, ve, _, l0, _, l2, _, _, hev, _⟩ := p7 _ _ z2
      cases e5
      obtain ⟨_, _, e5, _, _, _, m1, _⟩ := p7 _ _ z3
      cases e5
      obtain ⟨_, _, e5, _, _, _, n1, _⟩ := p7 _ _ z4
      cases e5
      obtain ⟨Ae, Ce, rfl⟩ := hev.shape
      rw [z5] at k1
      rw [z6] at l0
      rw [z7] at l2
      rw [z8] at m1
      rw [z9] at n1
      rw [zl] at p5 ⊢
      have p6 : D1 ≤ 9223372036854775807 := by unfold maxLen at p6; exact p6
      have l0 : _ = some (Value.int .i64 0) := l0
      clear HP1 hS1 HY z1 z2 z3 z4 z5 z6 z7 z8 z9 zl p7 hev ba bz hrun hb0
      go_upto_region 15 with fail
      go_wp2_with fail
      go_ret
      exact ⟨rfl, hb3⟩
theorem walk (w : World) (d : Int) (_ : (Lit.int .i64 d).wf = true) (s : Int) (_ : (Lit.int .i64 s).wf = true) (f : Int) (hf : (Lit.int .i64 f).wf = true) (p : Int) (_ : (Lit.int .i64 p).wf = true) (y : Int) (hy : (Lit.int .u8 y).wf = true) :
    Calls Tryz.prog 5 #[.int .i64 d, .int .i64 s, .int .i64 f, .int .i64 p, .int .u8 y] w fun e w' => e = .returned (.bool true) ∧ Below w.heap.size w w' := by
  by_cases h : Small d s ∧ 0 ≤ f ∧ 0 ≤ p ∧ p ≤ 11 ∧ y ≠ 0
  · obtain ⟨⟨h1, h2, h3, h4⟩, h5, h6, h7, h8⟩ := h
    have h9 := bounds_i64 hf
    have h10 := bounds_u8 hy
    have := good w d.toNat s.toNat f.toNat p.toNat y.toNat (by omega) (by omega) (by omega) (by omega) (by omega) (by omega) (by omega)
    rw [Int.toNat_of_nonneg (by omega), Int.toNat_of_nonneg (by omega), Int.toNat_of_nonneg (by omega), Int.toNat_of_nonneg (by omega), Int.toNat_of_nonneg (by omega)] at this
    exact this
  · exact bad w d s f p y h

set_option maxRecDepth 100000 in
theorem lifted (os : Os) (started : os.Started) (H : Type) (enc : TypeId × Value → H) :
    ReturnsInHanded {} Tryz.checked os 5 .any (Rows.topSpoiltSpec.pre6 enc Tryz.prog Tryz.f5 Rows.topSpoiltRow.domain false) (Rows.topSpoiltSpec.post enc Tryz.prog Tryz.f5 false true false false) := by
  refine returnsInHanded_of_change (C := Tryz.checked) own started (by kernel_rfl) Tryz.func5
    (ChangeSpec.witness6 (enc := enc) (C := Tryz.checked) false ⟨#[], #[.int .i64 0, .int .i64 0, .int .i64 0, .int .i64 0, .int .u8 0], []⟩ 8 (by kernel_rfl) (by kernel_rfl) (by kernel_rfl) (by kernel_rfl)) ?_
  intro W base args ds gs before hval0 hW hcnd _
  have hval : ∀ (j : Nat) t v, Tryz.f5.params[j]? = some t → args[j]? = some v → Value.okWide Tryz.prog W .any base t v := hval0
  have hW' := hW
  obtain ⟨p, q, hA0, hV, rfl, hfz, hnd⟩ := hW
  have hA : DataW.TrodAll enc Tryz.prog W 0 (fun _ => true) true Tryz.f5.params.toList args.toList ds p := hA0
  rw [Tryz.params5] at hA hval
  obtain ⟨v0, vs0, d0, ds0, p0, q0, hargs, rfl, rfl, h0, r0⟩ := trodAll_cons hA
  obtain ⟨v1, vs1, d1, ds1, p1, q1, rfl, rfl, rfl, h1, r1⟩ := trodAll_cons r0
  obtain ⟨v2, vs2, d2, ds2, p2, q2, rfl, rfl, rfl, h2, r2⟩ := trodAll_cons r1
  obtain ⟨v3, vs3, d3, ds3, p3, q3, rfl, rfl, rfl, h3, r3⟩ := trodAll_cons r2
  obtain ⟨v4, vs4, d4, ds4, p4, q4, rfl, rfl, rfl, h4, r4⟩ := trodAll_cons r3
  obtain ⟨rfl, rfl, rfl⟩ := trodAll_nil r4
  obtain rfl : args = #[v0, v1, v2, v3, v4] := by cases args; simp_all
  obtain ⟨rfl, rfl⟩ := trodVars_none hV
  obtain ⟨a0, rfl, rfl, rfl, g0⟩ := open_int Tryz.underlying3 (hval 0 3 v0 rfl rfl) h0
  obtain ⟨a1, rfl, rfl, rfl, g1⟩ := open_int Tryz.underlying3 (hval 1 3 v1 rfl rfl) h1
  obtain ⟨a2, rfl, rfl, rfl, g2⟩ := open_int Tryz.underlying3 (hval 2 3 v2 rfl rfl) h2
  obtain ⟨a3, rfl, rfl, rfl, g3⟩ := open_int Tryz.underlying3 (hval 3 3 v3 rfl rfl) h3
  obtain ⟨a4, rfl, rfl, rfl, g4⟩ := open_int Tryz.underlying5 (hval 4 5 v4 rfl rfl) h4
  clear hA0 hval0
  refine (walk W a0 g0 a1 g1 a2 g2 a3 g3 a4 g4).mono fun e W' ⟨he, bel⟩ => ?_
  subst he
  exact ⟨_, rfl, _, _, _, [], _, [], hW', trodAll_mk1 (shut_bool Tryz.underlying4 _), (trodAll_cons_mk (shut_int Tryz.underlying3 g0) (trodAll_cons_mk (shut_int Tryz.underlying3 g1) (trodAll_cons_mk (shut_int Tryz.underlying3 g2) (trodAll_cons_mk (shut_int Tryz.underlying3 g3) (trodAll_cons_mk (shut_int Tryz.underlying5 g4) trodAll_mk0))))), rfl, bel.frame _, fun h => by cases h⟩

theorem over : Rows.topSpoiltRow.holds Tryz.pinned (OpenSpec.ofChange Rows.topSpoiltSpec) :=
  OpenClaim.holds_of_wide 5 Tryz.f5 rfl rfl rfl rfl rfl rfl rfl ⟨rfl, rfl, rfl, rfl, rfl⟩ rfl rfl rfl rfl rfl (by kernel_rfl) Tryz.func5 (by kernel_rfl)
    (of_decide_eq_true (by kernel_rfl)) (by unfold Func.isWrapper; first | (rw [if_pos (by decide +kernel)]; kernel_rfl) | (rw [if_neg (by decide +kernel)]; exact ⟨rfl, rfl⟩))
    (fun os started H enc _ => lifted os started H enc)
end Go.Proofs.YtleekmmoanlpfaaGreat.topSpoilt

namespace Go.Proofs.YtleekmmoanlpfaaGreat
theorem topSpoilt_holds : Rows.TopSpoiltSaid := topSpoilt.over
#print axioms topSpoilt_holds
end Go.Proofs.YtleekmmoanlpfaaGreat
