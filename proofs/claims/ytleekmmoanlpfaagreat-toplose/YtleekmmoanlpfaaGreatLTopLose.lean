/-
  Whatever small setup there is, and whatever is put in: whichever disks are gone, no more than there are spare ones, all is read; new ones in their places, and a scrub, and as many others may go. No condition.
-/
import Derived.Test.YtleekmmoanlpfaaGreatRows
import Derived.Test.YtleekmmoanlpfaaGreatZ49
import Derived.Test.YtleekmmoanlpfaaGreatZ50
import Derived.ProofKit
import Derived.OpenShut
import Derived.Carry
import Derived.Deep.Cut
import Derived.Deep.CutRange
namespace Go.Proofs.YtleekmmoanlpfaaGreat.topLose
open Go.ChangeShapes Go.WideShapes Go.ChangeAt Go.RowKit
set_option linter.unusedVariables false

theorem own : ownKnob Tryz.prog.godebug = none := by kernel_rfl

theorem sz1 (z : Int) : ∀ t, t ∈ [((⟨#[97]⟩, 2, z) : EvT)] → t.1.size ≤ 10 := fun t ht => by
  rw [List.mem_singleton.1 ht]
  exact show (⟨#[97]⟩ : ByteArray).size ≤ 10 by decide
set_option maxHeartbeats 400000 in
set_option maxRecDepth 100000 in
theorem bad (w : World) (d s f g : Int) (A : Option Addr) (m C : Nat) (h : ¬ (Small d s ∧ m ≤ 12 ∧ 0 ≤ f ∧ 0 ≤ g)) (hm : m ≤ 9223372036854775807) :
    Calls Tryz.prog 3 #[.int .i64 d, .int .i64 s, .slice A m C, .int .i64 f, .int .i64 g] w fun e w' => e = .returned (.bool true) ∧ Below w.heap.size w w' := by
  have HA := aliveT_any w
  by_cases hs : Small d s
  · have HS : Hid (∀ w1, Calls Tryz.prog 9 #[.int .i64 d, .int .i64 s] w1 fun e w' => e = .returned (.bool true) ∧ Below w1.heap.size w1 w') := fun w1 => small_yes w1 d s hs
    by_cases hm12 : m ≤ 12
    · have hm13 : ¬ 12 < (m : Int) := by omega
      by_cases hf : 0 ≤ f
      · have hg : ¬ 0 ≤ g := fun q => h ⟨hs, hm12, hf, q⟩
        clear h hs
        go_enter Tryz.func3, Tryz.ntmps3
        go_wp2_with fail
        refine HA.mono ?_
        rintro e w1 ⟨rfl, b1⟩
        have HS1 := HS.out w1
        clear HA HS
        go_wp2_with fail
        refine HS1.mono ?_
        rintro e w2 ⟨rfl, b2⟩
        have b2 := bt b1 b2
        clear HS1 b1
        go_wp2_with fail
        go_ret
        exact ⟨rfl, b2⟩
      · clear h hs
        go_enter Tryz.func3, Tryz.ntmps3
        go_wp2_with fail
        refine HA.mono ?_
        rintro e w1 ⟨rfl, b1⟩
        have HS1 := HS.out w1
        clear HA HS
        go_wp2_with fail
        refine HS1.mono ?_
        rintro e w2 ⟨rfl, b2⟩
        have b2 := bt b1 b2
        clear HS1 b1
        go_wp2_with fail
        go_ret
        exact ⟨rfl, b2⟩
    · have hm13 : 12 < (m : Int) := by omega
      clear h hs
      go_enter Tryz.func3, Tryz.ntmps3
      go_wp2_with fail
      refine HA.mono ?_
      rintro e w1 ⟨rfl, b1⟩
      have HS1 := HS.out w1
      clear HA HS
      go_wp2_with fail
      refine HS1.mono ?_
      rintro e w2 ⟨rfl, b2⟩
      have b2 := bt b1 b2
      clear HS1 b1
      go_wp2_with fail
      go_ret
      exact ⟨rfl, b2⟩
  · have HS : Hid (∀ w1, Calls Tryz.prog 9 #[.int .i64 d, .int .i64 s] w1 fun e w' => e = .returned (.bool false) ∧ Below w1.heap.size w1 w') := fun w1 => small_no w1 d s hs
    clear h hs
    go_enter Tryz.func3, Tryz.ntmps3
    go_wp2_with fail
    refine HA.mono ?_
    rintro e w1 ⟨rfl, b1⟩
    have HS1 := HS.out w1
    clear HA HS
    go_wp2_with fail
    refine HS1.mono ?_
    rintro e w2 ⟨rfl, b2⟩
    have b2 := bt b1 b2
    clear HS1 b1
    go_wp2_with fail
    go_ret
    exact ⟨rfl, b2⟩
set_option maxHeartbeats 4000000 in
set_option maxRecDepth 100000 in
theorem good (w : World) (d s f g : Nat) (h1 : 1 ≤ d) (h2 : d ≤ 8) (h3 : s ≤ 4) (A : Option Addr) (m C : Nat) (Z : Nat → Int) (gz : Ints w (.slice A m C) m Z) (hm : m ≤ 12) (hf : f ≤ 9223372036854775807) (hg : g ≤ 9223372036854775807) :
    Calls Tryz.prog 3 #[.int .i64 (d : Int), .int .i64 (s : Int), .slice A m C, .int .i64 (f : Int), .int .i64 (g : Int)] w fun e w' => e = .returned (.bool true) ∧ Below w.heap.size w w' := by
  have HA := aliveT_any w
  have HS : Hid (∀ w1, Calls Tryz.prog 9 #[.int .i64 (d : Int), .int .i64 (s : Int)] w1 fun e w' => e = .returned (.bool true) ∧ Below w1.heap.size w1 w') := fun w1 => small_yes w1 d s ⟨by omega, by omega, by omega, by omega⟩
  have hzc : Hid (∀ i, i < m → ∃ b o, A = some ⟨b, o, none⟩ ∧ w.cell? ⟨b, o + i, none⟩ = some (.int .i64 (Z i))) := by
    obtain ⟨A', cap', hv, hr⟩ := gz.lies
    cases hv
    exact hr
  have hm' : (m : Int) ≤ 12 := by omega
  clear gz
  go_enter Tryz.func3, Tryz.ntmps3
  go_wp2_with fail
  refine HA.mono ?_
  rintro e w1 ⟨rfl, b1⟩
  have HS1 := HS.out w1
  clear HA HS
  go_wp2_with fail
  refine HS1.mono ?_
  rintro e w2 ⟨rfl, b2⟩
  have b02 := bt b1 b2
  have HO := openT_any w2 ⟨#[97]⟩
  clear HS1 b1 b2
  go_wp2_with fail
  refine HO.mono ?_
  rintro e w3 ⟨rfl, b3⟩
  have b03 := bt b02 b3
  have V3 := varN_new w3 #[.string ⟨#[97]⟩, .int .i64 1, .int .i64 0] 32
  have b04 := bel_al (o := .cells #[.string ⟨#[97]⟩, .int .i64 1, .int .i64 0] 32) b03
  have HP := putT_any (w3.alloc (.cells #[.string ⟨#[97]⟩, .int .i64 1, .int .i64 0] 32)) 1 (some ⟨w3.heap.size, 0, none⟩) 1 1
  clear HO b02 b3 b03
  go_wp2_with fail
  refine HP.mono ?_
  rintro e w8 ⟨rfl, b5⟩
  have V5 := V3.below b5
  have b05 := bt b04 b5
  obtain ⟨p1, hp1⟩ : ∃ p, p = w3.heap.size := ⟨_, rfl⟩
  rw [← hp1] at V5
  rw [← hp1]
  have L0 := ld_new b05 [(dPut 1 [evT1], .slice (some ⟨p1, 0, none⟩) 1 1, ByteArray.empty)] 1 rfl (by decide) fun q hq => by
    rw [List.mem_singleton.1 hq]
    exact doG_evs [(⟨#[97]⟩, 1, 0)] V5 (by simp [Value.ownBlock]) rfl (show 0 < 256 by decide) (et_a 1 0) (by decide) (by decide)
  clear HP V5 V3 b5 b04 b05 hp1
  go_upto_region 7 with fail
  have L0 : LD w (w8.alloc (.cells #[.int .i64 1, .int .i64 0, .int .i64 0, .int .i64 0, .int .u8 0, .int .i64 1, .slice (some ⟨p1, 0, none⟩) 1 1, .string ByteArray.empty, .int .i64 (-1)] 29)) (.slice (some ⟨w8.heap.size, 0, none⟩) 1 1) _ := L0
  obtain ⟨w9, hw9⟩ : ∃ x, x = w8.alloc (.cells #[.int .i64 1, .int .i64 0, .int .i64 0, .int .i64 0, .int .u8 0, .int .i64 1, .slice (some ⟨p1, 0, none⟩) 1 1, .string ByteArray.empty, .int .i64 (-1)] 29) := ⟨_, rfl⟩
  rw [← hw9] at L0 ⊢
  clear hw9
  generalize w8.heap.size = p3 at *
  have HO := openT_any w9 ⟨#[97]⟩
  go_wp2_with fail
  refine HO.mono ?_
  rintro e wA ⟨rfl, bA⟩
  have L1 : LS w wA (.slice (some ⟨p3, 0, none⟩) 1 1) _ [] := ⟨L0.below bA, (fun _ h => by cases h), List.Pairwise.nil⟩
  have L2 := L1.lit 32 3 1 [.string ⟨#[97]⟩, .int .i64 1, .int .i64 0] rfl (by decide)
  have H0 : Hid (Lo1 w (wA.alloc (.cells #[.string ⟨#[97]⟩, .int .i64 1, .int .i64 0] 32)) Z (.slice (some ⟨p3, 0, none⟩) 1 1) (.slice (some ⟨wA.heap.size, 0, none⟩) 1 1) 0) := ⟨⟨_, L2, rfl⟩, fun j hj => absurd hj (Nat.not_lt_zero j)⟩
  clear L0 L1 L2 HO bA
  go_upto_region 8 with fail
  obtain ⟨n, hn⟩ : ∃ n, n = d + s := ⟨_, rfl⟩
  have hn' : (d : Int) + (s : Int) = (n : Int) := by omega
  rw [hn']
  have hn1 : 1 ≤ n := by omega
  have hn2 : n ≤ 12 := by omega
  have HN : Hid (n = d + s) := hn
  clear hn hn'
  obtain ⟨wB, hwB⟩ : ∃ x, x = wA.alloc (.cells #[.string ⟨#[97]⟩, .int .i64 1, .int .i64 0] 32) := ⟨_, rfl⟩
  rw [← hwB] at H0 ⊢
  clear hwB
  generalize wA.heap.size = p4 at *
  go_wp2_with fail
  go_loopw [12, 13, 56] (fun v g' x wr => ∃ k : Nat, k ≤ m ∧ x = .int .i64 k ∧ Hid (Lo1 w wr Z v g' k)) (fun _ _ x _ => m - (intOf x).toNat)
  case atStart => exact ⟨0, Nat.zero_le _, rfl, H0⟩
  case round =>
    obtain ⟨k, hk, rfl, HS⟩ := hrel
    by_cases hlt : k < m
    · have hlt' : (k : Int) < (m : Int) := by omega
      obtain ⟨⟨qs, hL, hq⟩, hzz⟩ := HS.out
      have hql : qs.length = k + 1 := by rw [← putsA_len Z k, ← hq, List.length_map]
      obtain ⟨bz, oz, hA2, hcz⟩ := hzc.out k hlt
      subst hA2
      have hbw := hL.ld.bel
      have hcz := (hbw.cell (p := ⟨bz, oz + k, none⟩) (World.block_lt_of_cell? _ _ hcz)).trans hcz
      by_cases hz0 : 0 ≤ Z k
      · by_cases hz1 : Z k ≤ 1000000
        · have HN2 : Hid (∀ j, j < k + 1 → 0 ≤ Z j ∧ Z j ≤ 1000000) := fun j hj => by
            by_cases q : j < k
            · exact hzz j q
            · obtain rfl : j = k := by omega
              exact ⟨hz0, hz1⟩
          have HD : Hid (LS w wr u12 qs [⟨u13, 32, 3, k + 1, (wantT Z k).flatMap etC⟩] ∧ qs.map (fun q => q.1) = putsA Z k ∧ qs.length = k + 1) := ⟨hL, hq, hql⟩
          have HO := addT_any wr ⟨#[97]⟩ (Z k)
          obtain ⟨z, hz⟩ : ∃ z, z = Z k := ⟨_, rfl⟩
          have HZ : Hid (z = Z k) := hz
          rw [← hz] at hcz hz0 hz1 HO
          clear hL HS hq hzz hz hql
          go_wp2_with fail
          refine HO.mono ?_
          rintro e wa ⟨rfl, ba⟩
          have V3 := varN_new wa #[.string ⟨#[97]⟩, .int .i64 2, .int .i64 z] 32
          have ba2 := bel_al (o := .cells #[.string ⟨#[97]⟩, .int .i64 2, .int .i64 z] 32) ba
          have HP := putT_any (wa.alloc (.cells #[.string ⟨#[97]⟩, .int .i64 2, .int .i64 z] 32)) ((k : Int) + 2) (some ⟨wa.heap.size, 0, none⟩) 1 1
          clear HO
          go_wp2_with fail
          refine HP.mono ?_
          rintro e wb ⟨rfl, bb⟩
          have V5 := V3.below bb
          have bb2 := bt ba2 bb
          obtain ⟨p1, hp1⟩ : ∃ p, p = wa.heap.size := ⟨_, rfl⟩
          have hpl : wr.heap.size ≤ p1 := by rw [hp1]; exact ba.size
          rw [← hp1] at V5
          rw [← hp1]
          obtain ⟨hL, hq, hql⟩ := HD.out
          have hL1 := hL.below bb2
          have hdo : ∀ v : Value, (∀ g, v.ownBlock = some g → g < wr.heap.size) → DoG wb v (dPut (k + 2) [evAdd z], .slice (some ⟨p1, 0, none⟩) 1 1, ByteArray.empty) := fun v hv => doG_evs [(⟨#[97]⟩, 2, z)] V5 (fun e => by have := hv _ e; omega) rfl (show 0 < 256 by decide) (et_a 2 z) (show 1 ≤ 1000 by decide) (sz1 z)
          obtain ⟨v', w', hrun, hL2⟩ := app_ls hL1 [(dPut (k + 2) [evAdd z], .slice (some ⟨p1, 0, none⟩) 1 1, ByteArray.empty)] 1 rfl (by omega) (fun q hq => by
            rw [List.mem_singleton.1 hq]
            exact hdo _ fun g hg => (hL.ld.rd.own.lt g hg).2) (fun x hx q hq => by
            rw [List.mem_singleton.1 hq]
            exact hdo _ fun g hg => ((hL.sd x hx).own.lt g hg).2)
          have hrun : (Builtin.append_ #[34, 34] 34 #[u12, .slice (some ⟨wb.heap.size, 0, none⟩) 1 1]).run Tryz.prog (wb.alloc (.cells #[.int .i64 1, .int .i64 0, .int .i64 0, .int .i64 0, .int .u8 0, .int .i64 ((k : Int) + 2), .slice (some ⟨p1, 0, none⟩) 1 1, .string ByteArray.empty, .int .i64 (-1)] 29)) = .ok v' w' := hrun
          have hmp : (qs ++ [(dPut (k + 2) [evAdd z], .slice (some ⟨p1, 0, none⟩) 1 1, ByteArray.empty)] : List DoC).map (fun q => q.1) = putsA Z (k + 1) := by rw [List.map_append, hq, putsA, HZ.out]; rfl
          have HO := addT_any w' ⟨#[97]⟩ z
          have HD2 : Hid (LS w w' v' (qs ++ [(dPut (k + 2) [evAdd z], .slice (some ⟨p1, 0, none⟩) 1 1, ByteArray.empty)]) [⟨u13, 32, 3, k + 1, (wantT Z k).flatMap etC⟩] ∧ (qs ++ [(dPut (k + 2) [evAdd z], .slice (some ⟨p1, 0, none⟩) 1 1, ByteArray.empty)] : List DoC).map (fun q => q.1) = putsA Z (k + 1)) := ⟨hL2, hmp⟩
          clear hL hL1 hL2 hq hql HD V3 V5 HP ba ba2 bb bb2 hdo hpl hp1 hmp
          go_wp2_with (at_builtin; refine Lib.wpList_append_run _ rfl _ _ _ _ rfl _ _ rfl rfl _ _ hrun ?_)
          refine HO.mono ?_
          rintro e wc ⟨rfl, bc⟩
          obtain ⟨hL2, hmp⟩ := HD2.out
          obtain ⟨g', w2, hrun2, hL3⟩ := app_sd (hL2.below bc) 25 _ 32 Tryz.underlying25 Tryz.infoEvent rfl (show 0 < 3 by decide) (by decide) [.string ⟨#[97]⟩, .int .i64 2, .int .i64 z] 1 rfl (by simp [Value.oneCell']) (by show k + 1 + 1 ≤ 1000; omega)
          have HNX : Hid (Lo1 w w2 Z v' g' (k + 1)) := ⟨⟨_, (by rw [wantT, List.flatMap_append, ← HZ.out]; exact hL3), hmp⟩, HN2.out⟩
          have hrun2 : (Builtin.append_ #[25, 25] 25 #[u13, .slice (some ⟨wc.heap.size, 0, none⟩) 1 1]).run Tryz.prog (wc.alloc (.cells #[.string ⟨#[97]⟩, .int .i64 2, .int .i64 z] 32)) = .ok g' w2 := hrun2
          clear HO hL2 hL3 hmp HD2 HN2 HZ bc hrun
          go_wp2_with (at_builtin; refine Lib.wpList_append_run _ rfl _ _ _ _ rfl _ _ rfl rfl _ _ hrun2 ?_)
          exact ⟨⟨k + 1, by omega, by go_num, HNX⟩, by simp [intOf]; omega⟩
        · clear HS hzz hL hq
          generalize Z k = z at *
          go_wp2_with fail
          go_ret
          exact ⟨rfl, hbw⟩
      · clear HS hzz hL hq
        generalize Z k = z at *
        go_wp2_with fail
        go_ret
        exact ⟨rfl, hbw⟩
    · obtain rfl : k = m := by omega
      obtain ⟨⟨qs, hL, hq⟩, hzz⟩ := HS.out
      have HB : Hid (∀ j, j < k → 0 ≤ Z j ∧ Z j ≤ 1000000) := hzz
      have hL2 := (hL.lit 3 1 2 [.int .i64 (f : Int), .int .i64 (g : Int)] rfl (by decide)).nil 3 1
      have H2 : Hid (Lo2 w (wr.alloc (.cells #[.int .i64 (f : Int), .int .i64 (g : Int)] 3)) ⟨d, s, 2⟩ Z k f g u12 (.slice none 0 0) (.slice (some ⟨wr.heap.size, 0, none⟩) 2 2) u13 0 (loseL ⟨d, s, 2⟩ Z k (two f g) 0)) := ⟨_, hL2, by rw [hq, loseL, roundsL, List.append_nil]⟩
      clear HS hL hL2 hq hzz H0 hzc
      go_upto_region 18 with fail
      obtain ⟨wB2, hwB⟩ : ∃ x, x = wr.alloc (.cells #[.int .i64 (f : Int), .int .i64 (g : Int)] 3) := ⟨_, rfl⟩
      rw [← hwB] at H2 ⊢
      clear hwB
      generalize wr.heap.size = p5 at *
      go_wp2_with fail
      go_loopw [12, 16, 86] (fun v at' x wr => ∃ o : Nat, o ≤ 2 ∧ x = .int .i64 o ∧ Hid (Lo2 w wr ⟨d, s, 2⟩ Z k f g v at' (.slice (some ⟨p5, 0, none⟩) 2 2) u13 o (loseL ⟨d, s, 2⟩ Z k (two f g) o))) (fun _ _ x _ => 2 - (intOf x).toNat)
      case atStart => exact ⟨0, Nat.zero_le _, rfl, H2⟩
      case round =>
        obtain ⟨o, ho, rfl, HS⟩ := hrel
        by_cases hlo : o < 2
        · have hlo' : (o : Int) < 2 := by omega
          obtain ⟨b2, C2, e2, _, _, hc2⟩ := HS.out.two hlo
          cases e2
          have hbase : Hid ((loseL ⟨d, s, 2⟩ Z k (two f g) o).length = k + 1 + o * (2 * s + 2)) := loseL_len _ _ _ _ _
          have hob : o * (2 * s + 2) ≤ 10 := by
            have : o = 0 ∨ o = 1 := by omega
            rcases this with rfl | rfl <;> omega
          obtain ⟨fo, hfo⟩ : ∃ x, x = two f g o := ⟨_, rfl⟩
          have hfob : fo ≤ 9223372036854775807 := by
            rw [hfo]
            unfold two
            split <;> assumption
          have HFO : Hid (fo = two f g o) := hfo
          rw [← hfo] at hc2
          have HL0 : Hid (Lo2 w wr ⟨d, s, 2⟩ Z k f g u12 u16 (.slice (some ⟨p5, 0, none⟩) 2 2) u13 o (loseL ⟨d, s, 2⟩ Z k (two f g) o ++ loses n fo 0)) := by
            rw [loses, List.append_nil]
            exact HS.out
          clear hfo HS
          go_wp2_with fail
          go_loopw [12, 91] (fun v x wr => ∃ j : Nat, j ≤ s ∧ x = .int .i64 j ∧ Hid (Lo2 w wr ⟨d, s, 2⟩ Z k f g v u16 (.slice (some ⟨p5, 0, none⟩) 2 2) u13 o (loseL ⟨d, s, 2⟩ Z k (two f g) o ++ loses n fo j))) (fun _ x _ => s - (intOf x).toNat)
          case atStart => exact ⟨0, Nat.zero_le _, rfl, HL0⟩
          case round =>
            obtain ⟨j, hj, rfl, HK⟩ := hrel
            by_cases hlj : j < s
            · have hlj' : (j : Int) < (s : Int) := by omega
              obtain ⟨v', w', hrun, hL'⟩ := HK.out.app [dLose ((fo % n + j) % n)] 1 rfl (by rw [List.length_append, hbase.out, loses_len]; omega) (fun x hx => by rw [List.mem_singleton.1 hx]; exact ⟨rfl, show 0 < 256 by decide, rfl⟩)
              have HNX : Hid (Lo2 w w' ⟨d, s, 2⟩ Z k f g v' u16 (.slice (some ⟨p5, 0, none⟩) 2 2) u13 o (loseL ⟨d, s, 2⟩ Z k (two f g) o ++ loses n fo (j + 1))) := by
                rw [loses, ← List.append_assoc]
                exact hL'
              have hrun : (Builtin.append_ #[34, 34] 34 #[u12, .slice (some ⟨wr.heap.size, 0, none⟩) 1 1]).run Tryz.prog (wr.alloc (.cells #[.int .i64 5, .int .i64 (((fo % n + j) % n : Nat) : Int), .int .i64 0, .int .i64 0, .int .u8 0, .int .i64 0, .slice none 0 0, .string ByteArray.empty, .int .i64 0] 29)) = .ok v' w' := hrun
              have e1 : Hid (Int.tmod (fo : Int) (n : Int) = ((fo % n : Nat) : Int)) := rfl
              have e2 : Hid (Int.tmod (((fo % n : Nat) : Int) + (j : Int)) (n : Int) = (((fo % n + j) % n : Nat) : Int)) := rfl
              have hn0 : ¬ (n : Int) = 0 := by omega
              have hm1 : fo % n < n := Nat.mod_lt _ (by omega)
              have hm2 : (fo % n + j) % n < n := Nat.mod_lt _ (by omega)
              generalize (fo % n + j) % n = i2 at *
              generalize fo % n = i1 at *
              clear HK hL'
              go_wp2_with (first | (at_builtin; refine Lib.wpList_append_run _ rfl _ _ _ _ rfl _ _ rfl rfl _ _ hrun ?_) | with_reducible_and_instances refine wpList_rem _ rfl (.tmp 95) (.tmp 96) 3 3 rfl _ _ _ rfl rfl hn0 e1.out ?_ | with_reducible_and_instances refine wpList_rem _ rfl (.tmp 99) (.tmp 100) 3 3 rfl _ _ _ rfl rfl hn0 e2.out ?_)
              exact ⟨⟨j + 1, by omega, by go_num, HNX⟩, by simp [intOf]; omega⟩
            · obtain rfl : j = s := by omega
              obtain ⟨Av, Cv, hv, hv1, hv2⟩ := HK.out.len
              have hlen : (loseL ⟨d, j, 2⟩ Z k (two f g) o ++ loses n fo j).length = k + 1 + o * (2 * j + 2) + j := by rw [List.length_append, hbase.out, loses_len]
              rw [hlen] at hv hv1
              obtain ⟨N, hNe⟩ : ∃ N, N = k + 1 + o * (2 * j + 2) + j := ⟨_, rfl⟩
              rw [← hNe] at hv hv1 hlen
              have hNb : N ≤ 40 := by omega
              have hv2 : Cv ≤ 9223372036854775807 := by unfold maxLen at hv2; exact hv2
              obtain ⟨a', wq, hrunA, hLA⟩ := HK.out.at_ N (by unfold atN; rw [if_pos hlo, hNe]) (by omega)
              obtain ⟨v', w', hrun, hL'⟩ := hLA.app [dAll] 1 rfl (by rw [hlen]; omega) (fun x hx => by rw [List.mem_singleton.1 hx]; exact ⟨rfl, show 0 < 256 by decide, rfl⟩)
              have hrun : (Builtin.append_ #[34, 34] 34 #[u12, .slice (some ⟨wq.heap.size, 0, none⟩) 1 1]).run Tryz.prog (wq.alloc (.cells #[.int .i64 3, .int .i64 0, .int .i64 0, .int .i64 0, .int .u8 0, .int .i64 0, .slice none 0 0, .string ByteArray.empty, .int .i64 0] 29)) = .ok v' w' := hrun
              have HL1 : Hid (Lo2 w w' ⟨d, j, 2⟩ Z k f g v' a' (.slice (some ⟨p5, 0, none⟩) 2 2) u13 (o + 1) (loseL ⟨d, j, 2⟩ Z k (two f g) o ++ loses n fo j ++ [dAll] ++ swaps n fo 0)) := by
                rw [swaps, List.append_nil]
                exact hL'
              have HLN : Hid ((loseL ⟨d, j, 2⟩ Z k (two f g) o ++ loses n fo j).length = N) := hlen
              subst hv
              clear HK hLA hL' HL0 hlen hbase hNe
              go_wp2_with (first | (at_builtin; refine Lib.wpList_append_run _ rfl _ _ _ _ rfl _ _ rfl rfl _ _ hrunA ?_) | (at_builtin; refine Lib.wpList_append_run _ rfl _ _ _ _ rfl _ _ rfl rfl _ _ hrun ?_))
              go_loopw [12, 116] (fun v x wr => ∃ i : Nat, i ≤ j ∧ x = .int .i64 i ∧ Hid (Lo2 w wr ⟨d, j, 2⟩ Z k f g v a' (.slice (some ⟨p5, 0, none⟩) 2 2) u13 (o + 1) (loseL ⟨d, j, 2⟩ Z k (two f g) o ++ loses n fo j ++ [dAll] ++ swaps n fo i))) (fun _ x _ => j - (intOf x).toNat)
              case atStart => exact ⟨0, Nat.zero_le _, rfl, HL1⟩
              case round =>
                obtain ⟨i, hi, rfl, HK⟩ := hrel
                by_cases hli : i < j
                · have hli' : (i : Int) < (j : Int) := by omega
                  obtain ⟨v', w', hrun, hL'⟩ := HK.out.app [dSwap ((fo % n + i) % n)] 1 rfl (by rw [List.length_append, List.length_append, HLN.out, swaps_len]; show N + 1 + i + 1 ≤ 1000; omega) (fun x hx => by rw [List.mem_singleton.1 hx]; exact ⟨rfl, show 0 < 256 by decide, rfl⟩)
                  have HNX : Hid (Lo2 w w' ⟨d, j, 2⟩ Z k f g v' a' (.slice (some ⟨p5, 0, none⟩) 2 2) u13 (o + 1) (loseL ⟨d, j, 2⟩ Z k (two f g) o ++ loses n fo j ++ [dAll] ++ swaps n fo (i + 1))) := by
                    rw [swaps, ← List.append_assoc]
                    exact hL'
                  have hrun : (Builtin.append_ #[34, 34] 34 #[u12, .slice (some ⟨wr.heap.size, 0, none⟩) 1 1]).run Tryz.prog (wr.alloc (.cells #[.int .i64 6, .int .i64 (((fo % n + i) % n : Nat) : Int), .int .i64 0, .int .i64 0, .int .u8 0, .int .i64 0, .slice none 0 0, .string ByteArray.empty, .int .i64 0] 29)) = .ok v' w' := hrun
                  have e1 : Hid (Int.tmod (fo : Int) (n : Int) = ((fo % n : Nat) : Int)) := rfl
                  have e2 : Hid (Int.tmod (((fo % n : Nat) : Int) + (i : Int)) (n : Int) = (((fo % n + i) % n : Nat) : Int)) := rfl
                  have hn0 : ¬ (n : Int) = 0 := by omega
                  have hm1 : fo % n < n := Nat.mod_lt _ (by omega)
                  have hm2 : (fo % n + i) % n < n := Nat.mod_lt _ (by omega)
                  generalize (fo % n + i) % n = i2 at *
                  generalize fo % n = i1 at *
                  clear HK hL'
                  go_wp2_with (first | (at_builtin; refine Lib.wpList_append_run _ rfl _ _ _ _ rfl _ _ rfl rfl _ _ hrun ?_) | with_reducible_and_instances refine wpList_rem _ rfl (.tmp 120) (.tmp 121) 3 3 rfl _ _ _ rfl rfl hn0 e1.out ?_ | with_reducible_and_instances refine wpList_rem _ rfl (.tmp 124) (.tmp 125) 3 3 rfl _ _ _ rfl rfl hn0 e2.out ?_)
                  exact ⟨⟨i + 1, by omega, by go_num, HNX⟩, by simp [intOf]; omega⟩
                · obtain rfl : i = j := by omega
                  obtain ⟨v', w', hrun, hL'⟩ := HK.out.app [dScrub] 1 rfl (by rw [List.length_append, List.length_append, HLN.out, swaps_len]; show N + 1 + i + 1 ≤ 1000; omega) (fun x hx => by rw [List.mem_singleton.1 hx]; exact ⟨rfl, show 0 < 256 by decide, rfl⟩)
                  have hrun : (Builtin.append_ #[34, 34] 34 #[u12, .slice (some ⟨wr.heap.size, 0, none⟩) 1 1]).run Tryz.prog (wr.alloc (.cells #[.int .i64 8, .int .i64 0, .int .i64 0, .int .i64 0, .int .u8 0, .int .i64 0, .slice none 0 0, .string ByteArray.empty, .int .i64 0] 29)) = .ok v' w' := hrun
                  have HNX : Hid (Lo2 w w' ⟨d, i, 2⟩ Z k f g v' a' (.slice (some ⟨p5, 0, none⟩) 2 2) u13 (o + 1) (loseL ⟨d, i, 2⟩ Z k (two f g) (o + 1))) := by
                    have e : loseL ⟨d, i, 2⟩ Z k (two f g) (o + 1) = loseL ⟨d, i, 2⟩ Z k (two f g) o ++ loses n fo i ++ [dAll] ++ swaps n fo i ++ [dScrub] := by
                      rw [HN.out, HFO.out]
                      show putsA Z k ++ (roundsL _ _ o ++ roundL _ _) = _
                      unfold loseL roundL
                      simp only [List.append_assoc]
                    rw [e]
                    exact hL'
                  clear HK hL' HLN HL1
                  go_wp2_with (at_builtin; refine Lib.wpList_append_run _ rfl _ _ _ _ rfl _ _ rfl rfl _ _ hrun ?_)
                  exact ⟨⟨o + 1, by omega, by go_num, HNX⟩, by simp [intOf]; omega⟩
        · obtain rfl : o = 2 := by omega
          obtain ⟨Av, Cv, hv, hv1, hv2⟩ := HS.out.len
          have hlen : (loseL ⟨d, s, 2⟩ Z k (two f g) 2).length = k + 1 + 2 * (2 * s + 2) := loseL_len _ _ _ _ _
          rw [hlen] at hv hv1
          obtain ⟨N, hNe⟩ : ∃ N, N = k + 1 + 2 * (2 * s + 2) := ⟨_, rfl⟩
          rw [← hNe] at hv hv1 hlen
          have hNb : N ≤ 40 := by omega
          have hv2 : Cv ≤ 9223372036854775807 := by unfold maxLen at hv2; exact hv2
          obtain ⟨a', wq, hrunA, hLA⟩ := HS.out.at_ N (by unfold atN; rw [if_neg (by decide), hNe]) (by omega)
          obtain ⟨v', w', hrun, hL'⟩ := hLA.app [dAll, dHealth] 2 rfl (by rw [hlen]; omega) (fun x hx => by
            simp only [List.mem_cons, List.not_mem_nil, or_false] at hx
            rcases hx with rfl | rfl
            · exact ⟨rfl, show 0 < 256 by decide, rfl⟩
            · exact ⟨rfl, show 0 < 256 by decide, rfl⟩)
          have hrun : (Builtin.append_ #[34, 34] 34 #[u12, .slice (some ⟨wq.heap.size, 0, none⟩) 2 2]).run Tryz.prog (wq.alloc (.cells #[.int .i64 3, .int .i64 0, .int .i64 0, .int .i64 0, .int .u8 0, .int .i64 0, .slice none 0 0, .string ByteArray.empty, .int .i64 0, .int .i64 9, .int .i64 0, .int .i64 0, .int .i64 0, .int .u8 0, .int .i64 0, .slice none 0 0, .string ByteArray.empty, .int .i64 0] 29)) = .ok v' w' := hrun
          have hb0 := hL'.bel
          obtain ⟨qs, hLS, hqm⟩ := hL'
          have hD := hLS.ld.dos
          rw [hqm] at hD
          obtain ⟨A', C', hv', hc1, hc2⟩ := hLS.ld.shape
          have hll : (loseL ⟨d, s, 2⟩ Z k (two f g) 2 ++ [dAll, dHealth]).length = N + 2 := by rw [List.length_append, hlen]; rfl
          have hql : qs.length = N + 2 := by rw [← hll, ← hqm, List.length_map]
          rw [hql] at hv' hc1
          subst hv'
          have hc2 : C' ≤ 9223372036854775807 := by unfold maxLen at hc2; exact hc2
          have hatO := hLS.head.own
          obtain ⟨Aa, Ca, hav, ha1, ha2, ha3⟩ := row_shape hatO
          obtain ⟨ga, rfl⟩ := ha3 (show 1 ≤ 3 by decide)
          have hav : a' = .slice (some ⟨ga, 0, none⟩) 3 Ca := hav
          subst hav
          have HAT : Hid (∀ i, i < 3 → w'.cell? ⟨ga, i, none⟩ = some (.int .i64 (atN s k i : Int))) := fun i hi => row_at hatO rfl (atC_at hi)
          have ha2 : Ca ≤ 9223372036854775807 := by unfold maxLen at ha2; exact ha2
          have hw := evs_row (wantT_len Z k).symm (hLS.sd ⟨u13, 32, 3, k + 1, (wantT Z k).flatMap etC⟩ (by simp)).own (wantT_size Z k)
          rw [wantT_evs] at hw
          have HW : Hid (Evs w' u13 (evsA Z k)) := hw
          obtain ⟨X, hX⟩ := Sto.six
          obtain ⟨t1, t2, t3⟩ := loses_told (c := ⟨d, s, 2⟩) hX ⟨h1, h2, h3, show 1 ≤ 2 by decide, show 2 ≤ 10 by decide⟩ (Z := Z) (m := k) (by omega) HB.out (two f g)
          have HP1 := playR hX ⟨d, s, 2⟩ (d : Int) (s : Int) 2 rfl rfl rfl h1 h2 h3 (show 1 ≤ 2 by decide) (show 2 ≤ 10 by decide) _ _ _ hD (by rw [hll]; omega)
          have hr1 : (Sto.steps X ⟨d, s, 2⟩ (Sto.start ⟨d, s, 2⟩) (loseL ⟨d, s, 2⟩ Z k (two f g) 2 ++ [dAll, dHealth])).2.length = N + 2 := (Sto.steps_length ..).trans hll
          generalize Sto.steps X ⟨d, s, 2⟩ (Sto.start ⟨d, s, 2⟩) (loseL ⟨d, s, 2⟩ Z k (two f g) 2 ++ [dAll, dHealth]) = r1 at *
          have HY : Hid ((∀ i, i < 3 → r1.2[atN s k i]? = some ⟨0, ((evsA Z k).length : Int), evsA Z k, 0, []⟩) ∧ r1.2[N + 1]? = some (Sto.told 0) ∧ r1.2.length = N + 2 ∧ ∀ i, i < 3 → atN s k i < N + 2) := ⟨fun i hi => by
            by_cases q : i < 2
            · have := t1 i q
              unfold atN
              rw [if_pos q]
              exact this
            · unfold atN
              rw [if_neg q]
              exact t2, by rw [hNe]; exact t3, hr1, fun i hi => by have := atN_lt s k h3 i hi; omega⟩
          subst hv
          clear HS hLA hLS hqm hql hD hlen hll t1 t2 t3 hr1 hX hatO hw ha3 H2 HB hNe
          go_wp2_with (first | (at_builtin; refine Lib.wpList_append_run _ rfl _ _ _ _ rfl _ _ rfl rfl _ _ hrunA ?_) | (at_builtin; refine Lib.wpList_append_run _ rfl _ _ _ _ rfl _ _ rfl rfl _ _ hrun ?_))
          refine HP1.mono ?_
          rintro e wa ⟨vd1, vt1, vs1, va1, vr1, rfl, hS1, hR1, ba, _⟩
          obtain ⟨Ad1, nd1, Cd1, rfl⟩ : ∃ A n C, vd1 = .slice A n C := by
            obtain ⟨A, C, h, _⟩ := hS1.dk
            exact ⟨A, _, C, h⟩
          obtain ⟨At1, nt1, Ct1, rfl⟩ : ∃ A n C, vt1 = .slice A n C := by
            obtain ⟨A, C, h, _⟩ := hS1.tl
            exact ⟨A, _, C, h⟩
          obtain ⟨As1, ns1, Cs1, rfl⟩ : ∃ A n C, vs1 = .slice A n C := by
            obtain ⟨A, C, h, _⟩ := hS1.sn
            exact ⟨A, _, C, h⟩
          obtain ⟨Aa1, na1, Ca1, rfl⟩ : ∃ A n C, va1 = .slice A n C := by
            obtain ⟨A, C, h⟩ := hS1.ac.shape
            exact ⟨A, _, C, h⟩
          have bz : Below wa.heap.size wa (wa.alloc (.cells #[.int .i64 (d : Int), .int .i64 (s : Int), .int .i64 2, .slice Ad1 nd1 Cd1, .int .i64 (r1.1.segs : Int), .slice At1 nt1 Ct1, .slice As1 ns1 Cs1, .int .i64 r1.1.u, .slice Aa1 na1 Ca1] 44)) := (Below.refl _ _).alloc (Nat.le_refl _) _
          have hR1 := hR1.below bz
          have hgb := bt ba bz
          have hb3 := bt hb0 hgb
          obtain ⟨y1, y2, y3, y4⟩ := HY.out
          obtain ⟨B1, D1, rfl, p5', p6, p7⟩ := hR1
          obtain ⟨i1, o1, rfl, _, _, _, k1, _⟩ := p7 _ _ y2
          have k1 : _ = some (Value.int .i64 0) := k1
          rw [y3] at p5' ⊢
          have p6 : D1 ≤ 9223372036854775807 := by unfold maxLen at p6; exact p6
          have HAN : Hid (∀ i, i < 3 → AnIn (wa.alloc (.cells #[.int .i64 (d : Int), .int .i64 (s : Int), .int .i64 2, .slice Ad1 nd1 Cd1, .int .i64 (r1.1.segs : Int), .slice At1 nt1 Ct1, .slice As1 ns1 Cs1, .int .i64 r1.1.u, .slice Aa1 na1 Ca1] 44)) i1 (o1 + atN s k i * 5) ⟨0, ((evsA Z k).length : Int), evsA Z k, 0, []⟩ ∧ atN s k i < N + 2) := fun i hi => by
            obtain ⟨i', o', e, h⟩ := p7 _ _ (y1 i hi)
            cases e
            exact ⟨h, y4 i hi⟩
          have HATZ : Hid (∀ i, i < 3 → (wa.alloc (.cells #[.int .i64 (d : Int), .int .i64 (s : Int), .int .i64 2, .slice Ad1 nd1 Cd1, .int .i64 (r1.1.segs : Int), .slice At1 nt1 Ct1, .slice As1 ns1 Cs1, .int .i64 r1.1.u, .slice Aa1 na1 Ca1] 44)).cell? ⟨ga, i, none⟩ = some (.int .i64 (atN s k i : Int))) := fun i hi => (hgb.cell (p := ⟨ga, i, none⟩) (World.block_lt_of_cell? _ _ (HAT.out i hi))).trans (HAT.out i hi)
          have HWZ : Hid (Evs (wa.alloc (.cells #[.int .i64 (d : Int), .int .i64 (s : Int), .int .i64 2, .slice Ad1 nd1 Cd1, .int .i64 (r1.1.segs : Int), .slice At1 nt1 Ct1, .slice As1 ns1 Cs1, .int .i64 r1.1.u, .slice Aa1 na1 Ca1] 44)) u13 (evsA Z k)) := HW.out.below hgb
          clear HP1 hS1 HY y1 y2 y3 y4 p7 ba bz hb0 hgb HAT HW hrun hrunA
          go_upto_region 38 with fail
          obtain ⟨wz, hwz⟩ : ∃ x, x = wa.alloc (.cells #[.int .i64 (d : Int), .int .i64 (s : Int), .int .i64 2, .slice Ad1 nd1 Cd1, .int .i64 (r1.1.segs : Int), .slice At1 nt1 Ct1, .slice As1 ns1 Cs1, .int .i64 r1.1.u, .slice Aa1 na1 Ca1] 44) := ⟨_, rfl⟩
          rw [← hwz] at HAN HATZ HWZ hb3 ⊢
          clear hwz
          go_wp2_with fail
          go_loopw [168] (fun x wr => ∃ j : Nat, j ≤ 3 ∧ x = .int .i64 j ∧ Hid (Below wz.heap.size wz wr)) (fun x _ => 3 - (intOf x).toNat)
          case atStart => exact ⟨0, Nat.zero_le _, rfl, Below.refl _ _⟩
          case round =>
            obtain ⟨j, hj, rfl, HBW⟩ := hrel
            by_cases hlj : j < 3
            · have hlj' : (j : Int) < 3 := by omega
              obtain ⟨hAn, hAl⟩ := HAN.out j hlj
              have hat := (HBW.out.cell (p := ⟨ga, j, none⟩) (World.block_lt_of_cell? _ _ (HATZ.out j hlj))).trans (HATZ.out j hlj)
              obtain ⟨ve, va, k0, _, k2, _, _, hev, _⟩ := hAn.below HBW.out
              have HSE := sameEv_any ve u13 _ _ wr hev (HWZ.out.below HBW.out)
              obtain ⟨Ae, Ce, rfl⟩ := hev.shape
              have k0 : _ = some (Value.int .i64 0) := k0
              have HEV : Hid (evsA Z k = evsA Z k) := rfl
              generalize atN s k j = aj at *
              clear hAn hev
              go_wp2_with fail
              refine HSE.mono ?_
              rintro e w5 ⟨⟨y, rfl, hy⟩, t, rfl⟩
              obtain rfl : y = true := hy.2 trivial
              have HB2 : Hid (Below wz.heap.size wz (wr.drewN t)) := bt HBW.out (drewN_below wr t)
              clear HSE hy
              go_wp2_with fail
              refine ⟨?_, ?_⟩
              · repeat apply Exists.intro
                refine ⟨⟨j + 1, by omega, by go_num, HB2⟩, rfl⟩
              · simp [intOf]
                omega
            · obtain rfl : j = 3 := by omega
              have hb := bt hb3 HBW.out
              go_wp2_with fail
              go_ret
              exact ⟨rfl, hb⟩
theorem walk (w : World) (d : Int) (_ : (Lit.int .i64 d).wf = true) (s : Int) (_ : (Lit.int .i64 s).wf = true) (A : Option Addr) (m C : Nat) (Z : Nat → Int) (gz : Ints w (.slice A m C) m Z) (z : m ≤ C ∧ C ≤ maxLen) (f : Int) (hf : (Lit.int .i64 f).wf = true) (g : Int) (hg : (Lit.int .i64 g).wf = true) :
    Calls Tryz.prog 3 #[.int .i64 d, .int .i64 s, .slice A m C, .int .i64 f, .int .i64 g] w fun e w' => e = .returned (.bool true) ∧ Below w.heap.size w w' := by
  by_cases h : Small d s ∧ m ≤ 12 ∧ 0 ≤ f ∧ 0 ≤ g
  · obtain ⟨⟨h1, h2, h3, h4⟩, h5, h6, h7⟩ := h
    have h8 := bounds_i64 hf
    have h9 := bounds_i64 hg
    have := good w d.toNat s.toNat f.toNat g.toNat (by omega) (by omega) (by omega) A m C Z gz h5 (by omega) (by omega)
    rw [Int.toNat_of_nonneg (by omega), Int.toNat_of_nonneg (by omega), Int.toNat_of_nonneg (by omega), Int.toNat_of_nonneg (by omega)] at this
    exact this
  · exact bad w d s f g A m C h (by have := z.1; have := z.2; unfold maxLen at *; omega)

set_option maxRecDepth 100000 in
theorem lifted (os : Os) (started : os.Started) (H : Type) (enc : TypeId × Value → H) :
    ReturnsInHanded {} Tryz.checked os 3 .any (Rows.topLoseSpec.pre6 enc Tryz.prog Tryz.f3 Rows.topLoseRow.domain false) (Rows.topLoseSpec.post enc Tryz.prog Tryz.f3 false true false false) := by
  refine returnsInHanded_of_change (C := Tryz.checked) own started (by kernel_rfl) Tryz.func3
    (ChangeSpec.witness6 (enc := enc) (C := Tryz.checked) false ⟨#[], #[.int .i64 0, .int .i64 0, .slice none 0 0, .int .i64 0, .int .i64 0], []⟩ 8 (by kernel_rfl) (by kernel_rfl) (by kernel_rfl) (by kernel_rfl)) ?_
  intro W base args ds gs before hval0 hW hcnd _
  have hval : ∀ (j : Nat) t v, Tryz.f3.params[j]? = some t → args[j]? = some v → Value.okWide Tryz.prog W .any base t v := hval0
  have hW' := hW
  obtain ⟨p, q, hA0, hV, rfl, hfz, hnd⟩ := hW
  have hA : DataW.TrodAll enc Tryz.prog W 0 (fun _ => true) true Tryz.f3.params.toList args.toList ds p := hA0
  rw [Tryz.params3] at hA hval
  obtain ⟨v0, vs0, d0, ds0, p0, q0, hargs, rfl, rfl, h0, r0⟩ := trodAll_cons hA
  obtain ⟨v1, vs1, d1, ds1, p1, q1, rfl, rfl, rfl, h1, r1⟩ := trodAll_cons r0
  obtain ⟨v2, vs2, d2, ds2, p2, q2, rfl, rfl, rfl, h2, r2⟩ := trodAll_cons r1
  obtain ⟨v3, vs3, d3, ds3, p3, q3, rfl, rfl, rfl, h3, r3⟩ := trodAll_cons r2
  obtain ⟨v4, vs4, d4, ds4, p4, q4, rfl, rfl, rfl, h4, r4⟩ := trodAll_cons r3
  obtain ⟨rfl, rfl, rfl⟩ := trodAll_nil r4
  obtain rfl : args = #[v0, v1, v2, v3, v4] := by cases args; simp_all
  obtain ⟨rfl, rfl⟩ := trodVars_none hV
  obtain ⟨a0, rfl, rfl, rfl, g0⟩ := open_int Tryz.underlying3 (hval 0 3 v0 rfl rfl) h0
  obtain ⟨a1, rfl, rfl, rfl, g1⟩ := open_int Tryz.underlying3 (hval 1 3 v1 rfl rfl) h1
  obtain ⟨a2, l2, c2, rfl⟩ := okWide_slice Tryz.underlying22 (hval 2 22 v2 rfl rfl)
  have k2 := h2
  have lt2 : ∀ x ∈ p2, x.block < W.heap.size := by obtain ⟨m, hm⟩ := k2; exact DataW.trod_lt m _ _ _ hm
  obtain ⟨Z2, g2, z2⟩ := ints_of h2
  obtain ⟨a3, rfl, rfl, rfl, g3⟩ := open_int Tryz.underlying3 (hval 3 3 v3 rfl rfl) h3
  obtain ⟨a4, rfl, rfl, rfl, g4⟩ := open_int Tryz.underlying3 (hval 4 3 v4 rfl rfl) h4
  clear hA0 hval0
  refine (walk W a0 g0 a1 g1 _ _ _ Z2 g2 z2 a3 g3 a4 g4).mono fun e W' ⟨he, bel⟩ => ?_
  subst he
  exact ⟨_, rfl, _, _, _, [], _, [], hW', trodAll_mk1 (shut_bool Tryz.underlying4 _), (trodAll_cons_mk (shut_int Tryz.underlying3 g0) (trodAll_cons_mk (shut_int Tryz.underlying3 g1) (trodAll_cons_mk (Below.trod Tryz.laidOut (by kernel_rfl) (of_decide_eq_true (by kernel_rfl)) k2 bel lt2) (trodAll_cons_mk (shut_int Tryz.underlying3 g3) (trodAll_cons_mk (shut_int Tryz.underlying3 g4) trodAll_mk0))))), rfl, bel.frame _, fun h => by cases h⟩

theorem over : Rows.topLoseRow.holds Tryz.pinned (OpenSpec.ofChange Rows.topLoseSpec) :=
  OpenClaim.holds_of_wide 3 Tryz.f3 rfl rfl rfl rfl rfl rfl rfl ⟨rfl, rfl, rfl, rfl, rfl⟩ rfl rfl rfl rfl rfl (by kernel_rfl) Tryz.func3 (by kernel_rfl)
    (of_decide_eq_true (by kernel_rfl)) (by unfold Func.isWrapper; first | (rw [if_pos (by decide +kernel)]; kernel_rfl) | (rw [if_neg (by decide +kernel)]; exact ⟨rfl, rfl⟩))
    (fun os started H enc _ => lifted os started H enc)
end Go.Proofs.YtleekmmoanlpfaaGreat.topLose

namespace Go.Proofs.YtleekmmoanlpfaaGreat
theorem topLose_holds : Rows.TopLoseSaid := topLose.over
#print axioms topLose_holds
end Go.Proofs.YtleekmmoanlpfaaGreat
