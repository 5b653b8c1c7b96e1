/-
  Whatever is put in, and taken: more is taken from a stream only as far as there is; a batch of which one event may not come comes not at all. No condition.
-/
import Derived.Test.YtleekmmoanlpfaaGreatRows
import Derived.Test.YtleekmmoanlpfaaGreatZ49
import Derived.Test.YtleekmmoanlpfaaGreatZ51
import Derived.Test.YtleekmmoanlpfaaGreatZ50
import Derived.ProofKit
import Derived.OpenShut
import Derived.Carry
import Derived.Deep.Cut
import Derived.Deep.CutRange
namespace Go.Proofs.YtleekmmoanlpfaaGreat.topMoney
open Go.ChangeShapes Go.WideShapes Go.ChangeAt Go.RowKit
set_option linter.unusedVariables false

theorem own : ownKnob Tryz.prog.godebug = none := by kernel_rfl

theorem sz1 (z : Int) : ∀ t, t ∈ [((⟨#[97]⟩, 2, z) : EvT)] → t.1.size ≤ 10 := fun t ht => by
  rw [List.mem_singleton.1 ht]
  exact show (⟨#[97]⟩ : ByteArray).size ≤ 10 by decide
theorem sz2 (z : Int) : ∀ t, t ∈ [((⟨#[98]⟩, 2, z) : EvT), (⟨#[97]⟩, 3, z)] → t.1.size ≤ 10 := fun t ht => by
  simp only [List.mem_cons, List.not_mem_nil, or_false] at ht
  rcases ht with rfl | rfl
  · exact show (⟨#[98]⟩ : ByteArray).size ≤ 10 by decide
  · exact show (⟨#[97]⟩ : ByteArray).size ≤ 10 by decide
theorem et_2 (a b : EvT) (e f : Evt.Ev) (ha : etE a = e) (hb : etE b = f) : [e, f] = [a, b].map etE := by rw [← ha, ← hb]; rfl
theorem etB (k n : Int) : etE (⟨#[98]⟩, k, n) = ⟨[98], k, n⟩ := by
  unfold etE
  rw [show nb ⟨#[98]⟩ = [98] by decide]
theorem etA (k n : Int) : etE (⟨#[97]⟩, k, n) = ⟨[97], k, n⟩ := by
  unfold etE
  rw [nbT_a]
def goods (Z : Nat → Int) (k : Nat) : List Value := (List.range k).map fun j => .bool (goodM Z j)
theorem goods_next {Z : Nat → Int} {k : Nat} {y : Bool} (h : goodM Z k = y) : goods Z (k + 1) = goods Z k ++ [.bool y] := by
  unfold goods
  rw [List.range_succ, List.map_append, ← h]
  rfl
theorem goods_at {Z : Nat → Int} {m k : Nat} (h : k < m) : (goods Z m)[k]? = some (.bool (goodM Z k)) := by
  unfold goods
  rw [List.getElem?_map, List.getElem?_range h]
  rfl
theorem row_at {w : World} {N : Nat} {t : TypeId} {z : Nat} {v : Value} {n : Nat} {us : List Value} (h : w.ownsRow N t z v n us) {g : Nat} (hg : v.ownBlock = some g) {i : Nat} {u : Value} (hi : us[i]? = some u) : w.cell? ⟨g, i, none⟩ = some u := by
  have := h.cells hg i u hi
  rw [WideShapes.add_plain, Nat.zero_add] at this
  exact this
theorem infoB : (Tryz.prog.info? 4).map (fun i => (i.zero, i.size, i.bytes)) = some (some (.bool false), 1, 1) := by kernel_rfl
def Mny (w wr : World) (Z : Nat → Int) (v g : Value) (k : Nat) : Prop := (∃ qs, LS w wr v qs [⟨g, 4, 1, k, goods Z k⟩] ∧ qs.map (fun q => q.1) = monL Z k) ∧ ∀ j, j < k → -1000 ≤ Z j ∧ Z j ≤ 1000
set_option maxHeartbeats 400000 in
set_option maxRecDepth 100000 in
theorem bad (w : World) (A : Option Addr) (m C : Nat) (h : ¬ m ≤ 15) (hm : m ≤ 9223372036854775807) :
    Calls Tryz.prog 6 #[.slice A m C] w fun e w' => e = .returned (.bool true) ∧ Below w.heap.size w w' := by
  have HA := aliveT_any w
  have hm13 : 15 < (m : Int) := by omega
  go_enter Tryz.func6, Tryz.ntmps6
  go_wp2_with fail
  refine HA.mono ?_
  rintro e w1 ⟨rfl, b1⟩
  clear HA
  go_wp2_with fail
  go_ret
  exact ⟨rfl, b1⟩
set_option maxHeartbeats 2000000 in
set_option maxRecDepth 100000 in
theorem good (w : World) (A : Option Addr) (m C : Nat) (Z : Nat → Int) (gz : Ints w (.slice A m C) m Z) (hm : m ≤ 15) :
    Calls Tryz.prog 6 #[.slice A m C] w fun e w' => e = .returned (.bool true) ∧ Below w.heap.size w w' := by
  have HA := aliveT_any w
  have hzc : Hid (∀ i, i < m → ∃ b o, A = some ⟨b, o, none⟩ ∧ w.cell? ⟨b, o + i, none⟩ = some (.int .i64 (Z i))) := by
    obtain ⟨A', cap', hv, hr⟩ := gz.lies
    cases hv
    exact hr
  have hm' : (m : Int) ≤ 15 := by omega
  clear gz
  go_enter Tryz.func6, Tryz.ntmps6
  go_wp2_with fail
  refine HA.mono ?_
  rintro e w1 ⟨rfl, b1⟩
  have HO := openT_any w1 ⟨#[97]⟩
  clear HA
  go_wp2_with fail
  refine HO.mono ?_
  rintro e w3 ⟨rfl, b3⟩
  have b03 := bt b1 b3
  have HO2 := openT_any w3 ⟨#[98]⟩
  clear HO b1 b3
  go_wp2_with fail
  refine HO2.mono ?_
  rintro e w4 ⟨rfl, b4⟩
  have b04 := bt b03 b4
  have V3 := varN_new w4 #[.string ⟨#[97]⟩, .int .i64 1, .int .i64 0, .string ⟨#[98]⟩, .int .i64 1, .int .i64 0] 32
  have b05 := bel_al (o := .cells #[.string ⟨#[97]⟩, .int .i64 1, .int .i64 0, .string ⟨#[98]⟩, .int .i64 1, .int .i64 0] 32) b04
  have HP := putT_any (w4.alloc (.cells #[.string ⟨#[97]⟩, .int .i64 1, .int .i64 0, .string ⟨#[98]⟩, .int .i64 1, .int .i64 0] 32)) 1 (some ⟨w4.heap.size, 0, none⟩) 2 2
  clear HO2 b03 b4 b04
  go_wp2_with fail
  refine HP.mono ?_
  rintro e w8 ⟨rfl, b6⟩
  have V5 := V3.below b6
  have b06 := bt b05 b6
  obtain ⟨p1, hp1⟩ : ∃ p, p = w4.heap.size := ⟨_, rfl⟩
  rw [← hp1] at V5
  rw [← hp1]
  have L0 := ld_new b06 [(dPut 1 [evT1, evB], .slice (some ⟨p1, 0, none⟩) 2 2, ByteArray.empty)] 1 rfl (by decide) fun q hq => by
    rw [List.mem_singleton.1 hq]
    exact doG_evs [(⟨#[97]⟩, 1, 0), (⟨#[98]⟩, 1, 0)] V5 (by simp [Value.ownBlock]) rfl (show 0 < 256 by decide) (et_2 _ _ _ _ (etA 1 0) (etB 1 0)) (by decide) (by decide)
  clear HP V5 V3 b6 b05 b06 hp1
  go_upto_region 6 with fail
  have L0 : LD w (w8.alloc (.cells #[.int .i64 1, .int .i64 0, .int .i64 0, .int .i64 0, .int .u8 0, .int .i64 1, .slice (some ⟨p1, 0, none⟩) 2 2, .string ByteArray.empty, .int .i64 (-1)] 29)) (.slice (some ⟨w8.heap.size, 0, none⟩) 1 1) _ := L0
  have H0 : Hid (Mny w (w8.alloc (.cells #[.int .i64 1, .int .i64 0, .int .i64 0, .int .i64 0, .int .u8 0, .int .i64 1, .slice (some ⟨p1, 0, none⟩) 2 2, .string ByteArray.empty, .int .i64 (-1)] 29)) Z (.slice (some ⟨w8.heap.size, 0, none⟩) 1 1) (.slice none 0 0) 0) := ⟨⟨_, LS.nil (xs := []) ⟨L0, (fun _ h => by cases h), List.Pairwise.nil⟩ _ _, rfl⟩, fun j hj => absurd hj (Nat.not_lt_zero j)⟩
  obtain ⟨w9, hw9⟩ : ∃ x, x = w8.alloc (.cells #[.int .i64 1, .int .i64 0, .int .i64 0, .int .i64 0, .int .u8 0, .int .i64 1, .slice (some ⟨p1, 0, none⟩) 2 2, .string ByteArray.empty, .int .i64 (-1)] 29) := ⟨_, rfl⟩
  rw [← hw9] at L0 H0 ⊢
  clear hw9
  generalize w8.heap.size = p3 at *
  clear L0
  go_wp2_with fail
  go_loopw [3, 4, 5, 25] (fun v x g y wr => ∃ k : Nat, k ≤ m ∧ y = .int .i64 k ∧ x = .int .i64 (hasM Z k) ∧ Hid (Mny w wr Z v g k)) (fun _ _ _ y _ => m - (intOf y).toNat)
  case atStart => exact ⟨0, Nat.zero_le _, rfl, rfl, H0⟩
  case round =>
    obtain ⟨k, hk, rfl, rfl, HS⟩ := hrel
    by_cases hlt : k < m
    · have hlt' : (k : Int) < (m : Int) := by omega
      obtain ⟨⟨qs, hL, hq⟩, hzz⟩ := HS.out
      have hql : qs.length = k + 1 := by rw [← monL_len Z k, ← hq, List.length_map]
      obtain ⟨bz, oz, hA2, hcz⟩ := hzc.out k hlt
      subst hA2
      have hbw := hL.ld.bel
      have hcz := (hbw.cell (p := ⟨bz, oz + k, none⟩) (World.block_lt_of_cell? _ _ hcz)).trans hcz
      by_cases hz0 : -1000 ≤ Z k
      · by_cases hz1 : Z k ≤ 1000
        · have HN : Hid (∀ j, j < k + 1 → -1000 ≤ Z j ∧ Z j ≤ 1000) := fun j hj => by
            by_cases q : j < k
            · exact hzz j q
            · obtain rfl : j = k := by omega
              exact ⟨hz0, hz1⟩
          have HD : Hid (LS w wr u3 qs [⟨u5, 4, 1, k, goods Z k⟩] ∧ qs.map (fun q => q.1) = monL Z k ∧ qs.length = k + 1) := ⟨hL, hq, hql⟩
          have hh0 := hasM_pos Z k
          have hh1 : hasM Z k ≤ 15000 := by
            have := hasM_few (Z := Z) (m := k) (fun j hj => (hzz j hj).2) k (Nat.le_refl _)
            omega
          have HH : Hid (hasM Z (k + 1) = if 0 ≤ hasM Z k + Z k then hasM Z k + Z k else hasM Z k) := rfl
          have HG : Hid (goodM Z k = decide (0 ≤ hasM Z k + Z k)) := rfl
          have HML : Hid (monL Z (k + 1) = monL Z k ++ [dPut (k + 2) (monE (Z k))]) := rfl
          generalize hasM Z k = hs at *
          generalize Z k = z at *
          clear hL HS hq hzz hql
          by_cases hzp : 0 ≤ z
          · have HZP : Hid (0 ≤ z) := hzp
            have h5 : 0 ≤ hs + z := by omega
            have HO := addT_any wr ⟨#[97]⟩ z
            go_wp2_with fail
            refine HO.mono ?_
            rintro e wa ⟨rfl, ba⟩
            have V3 := varN_new wa #[.string ⟨#[97]⟩, .int .i64 2, .int .i64 z] 32
            have ba2 := bel_al (o := .cells #[.string ⟨#[97]⟩, .int .i64 2, .int .i64 z] 32) ba
            have HP := putT_any (wa.alloc (.cells #[.string ⟨#[97]⟩, .int .i64 2, .int .i64 z] 32)) ((k : Int) + 2) (some ⟨wa.heap.size, 0, none⟩) 1 1
            clear HO
            go_wp2_with fail
            refine HP.mono ?_
            rintro e wb ⟨rfl, bb⟩
            have V5 := V3.below bb
            have bb2 := bt ba2 bb
            obtain ⟨p1, hp1⟩ : ∃ p, p = wa.heap.size := ⟨_, rfl⟩
            have hpl : wr.heap.size ≤ p1 := by rw [hp1]; exact ba.size
            rw [← hp1] at V5
            rw [← hp1]
            obtain ⟨hL, hq, hql⟩ := HD.out
            have hL1 := hL.below bb2
            have hdo : ∀ v : Value, (∀ g, v.ownBlock = some g → g < wr.heap.size) → DoG wb v (dPut (k + 2) [evAdd z], .slice (some ⟨p1, 0, none⟩) 1 1, ByteArray.empty) := fun v hv => doG_evs [(⟨#[97]⟩, 2, z)] V5 (fun e => by have := hv _ e; omega) rfl (show 0 < 256 by decide) (et_a 2 z) (show 1 ≤ 1000 by decide) (sz1 z)
            obtain ⟨v', w', hrun, hL2⟩ := app_ls hL1 [(dPut (k + 2) [evAdd z], .slice (some ⟨p1, 0, none⟩) 1 1, ByteArray.empty)] 1 rfl (by omega) (fun q hq => by
              rw [List.mem_singleton.1 hq]
              exact hdo _ fun g hg => (hL.ld.rd.own.lt g hg).2) (fun x hx q hq => by
              rw [List.mem_singleton.1 hq]
              exact hdo _ fun g hg => ((hL.sd x hx).own.lt g hg).2)
            obtain ⟨g', w2, hrun2, hL3⟩ := app_sd hL2 55 (.bool false) 1 Tryz.underlying55 infoB rfl (show 0 < 1 by decide) (by decide) [.bool true] 1 rfl (by simp [Value.oneCell']) (by show k + 1 ≤ 1000; omega)
            have HNX : Hid (Mny w w2 Z v' g' (k + 1)) := ⟨⟨_, (by rw [goods_next (y := true) (HG.out.trans (decide_eq_true h5))]; exact hL3), by rw [List.map_append, hq, HML.out, monE, if_pos HZP.out]; rfl⟩, HN.out⟩
            have hrun : (Builtin.append_ #[34, 34] 34 #[u3, .slice (some ⟨wb.heap.size, 0, none⟩) 1 1]).run Tryz.prog (wb.alloc (.cells #[.int .i64 1, .int .i64 0, .int .i64 0, .int .i64 0, .int .u8 0, .int .i64 ((k : Int) + 2), .slice (some ⟨p1, 0, none⟩) 1 1, .string ByteArray.empty, .int .i64 (-1)] 29)) = .ok v' w' := hrun
            have hrun2 : (Builtin.append_ #[55, 55] 55 #[u5, .slice (some ⟨w'.heap.size, 0, none⟩) 1 1]).run Tryz.prog (w'.alloc (.cells #[.bool true] 4)) = .ok g' w2 := hrun2
            have HHX : Hid (hs + z = hasM Z (k + 1)) := (by rw [HH.out, if_pos h5] : hs + z = hasM Z (k + 1))
            clear hL hL1 hL2 hL3 hq hql HN HD HG HH HML V3 V5 HP ba ba2 bb bb2 hpl hp1 hdo
            go_wp2_with (first | (at_builtin; refine Lib.wpList_append_run _ rfl _ _ _ _ rfl _ _ rfl rfl _ _ hrun ?_) | (at_builtin; refine Lib.wpList_append_run _ rfl _ _ _ _ rfl _ _ rfl rfl _ _ hrun2 ?_))
            exact ⟨⟨k + 1, by omega, by go_num, by rw [HHX.out], HNX⟩, by simp [intOf]; omega⟩
          · have HZN : Hid (¬ 0 ≤ z) := hzp
            have HO := addT_any wr ⟨#[98]⟩ (-z)
            go_wp2_with fail
            refine HO.mono ?_
            rintro e wa ⟨rfl, ba⟩
            have HO2 := takeT_any wa ⟨#[97]⟩ (-z)
            clear HO
            go_wp2_with fail
            refine HO2.mono ?_
            rintro e wc ⟨rfl, bc⟩
            have bc := bt ba bc
            have V3 := varN_new wc #[.string ⟨#[98]⟩, .int .i64 2, .int .i64 (-z), .string ⟨#[97]⟩, .int .i64 3, .int .i64 (-z)] 32
            have ba2 := bel_al (o := .cells #[.string ⟨#[98]⟩, .int .i64 2, .int .i64 (-z), .string ⟨#[97]⟩, .int .i64 3, .int .i64 (-z)] 32) bc
            have HP := putT_any (wc.alloc (.cells #[.string ⟨#[98]⟩, .int .i64 2, .int .i64 (-z), .string ⟨#[97]⟩, .int .i64 3, .int .i64 (-z)] 32)) ((k : Int) + 2) (some ⟨wc.heap.size, 0, none⟩) 2 2
            clear HO2
            go_wp2_with fail
            refine HP.mono ?_
            rintro e wb ⟨rfl, bb⟩
            have V5 := V3.below bb
            have bb2 := bt ba2 bb
            obtain ⟨p1, hp1⟩ : ∃ p, p = wc.heap.size := ⟨_, rfl⟩
            have hpl : wr.heap.size ≤ p1 := by rw [hp1]; exact bc.size
            rw [← hp1] at V5
            rw [← hp1]
            obtain ⟨hL, hq, hql⟩ := HD.out
            have hL1 := hL.below bb2
            have hdo : ∀ v : Value, (∀ g, v.ownBlock = some g → g < wr.heap.size) → DoG wb v (dPut (k + 2) [⟨[98], 2, -z⟩, ⟨[97], 3, -z⟩], .slice (some ⟨p1, 0, none⟩) 2 2, ByteArray.empty) := fun v hv => doG_evs [(⟨#[98]⟩, 2, -z), (⟨#[97]⟩, 3, -z)] V5 (fun e => by have := hv _ e; omega) rfl (show 0 < 256 by decide) (et_2 _ _ _ _ (etB 2 (-z)) (etA 3 (-z))) (show 2 ≤ 1000 by decide) (sz2 (-z))
            obtain ⟨v', w', hrun, hL2⟩ := app_ls hL1 [(dPut (k + 2) [⟨[98], 2, -z⟩, ⟨[97], 3, -z⟩], .slice (some ⟨p1, 0, none⟩) 2 2, ByteArray.empty)] 1 rfl (by omega) (fun q hq => by
              rw [List.mem_singleton.1 hq]
              exact hdo _ fun g hg => (hL.ld.rd.own.lt g hg).2) (fun x hx q hq => by
              rw [List.mem_singleton.1 hq]
              exact hdo _ fun g hg => ((hL.sd x hx).own.lt g hg).2)
            have hmn : (qs ++ [(dPut (k + 2) [⟨[98], 2, -z⟩, ⟨[97], 3, -z⟩], .slice (some ⟨p1, 0, none⟩) 2 2, ByteArray.empty)] : List DoC).map (fun q => q.1) = monL Z (k + 1) := by rw [List.map_append, hq, HML.out, monE, if_neg (by have := HZN.out; omega)]; rfl
            have hrun : (Builtin.append_ #[34, 34] 34 #[u3, .slice (some ⟨wb.heap.size, 0, none⟩) 1 1]).run Tryz.prog (wb.alloc (.cells #[.int .i64 1, .int .i64 0, .int .i64 0, .int .i64 0, .int .u8 0, .int .i64 ((k : Int) + 2), .slice (some ⟨p1, 0, none⟩) 2 2, .string ByteArray.empty, .int .i64 (-1)] 29)) = .ok v' w' := hrun
            obtain ⟨y, hy⟩ : ∃ y, y = decide (0 ≤ hs + z) := ⟨_, rfl⟩
            obtain ⟨g', w2, hrun2, hL3⟩ := app_sd hL2 55 (.bool false) 1 Tryz.underlying55 infoB rfl (show 0 < 1 by decide) (by decide) [.bool y] 1 rfl (by simp [Value.oneCell']) (by show k + 1 ≤ 1000; omega)
            have HNX : Hid (Mny w w2 Z v' g' (k + 1)) := ⟨⟨_, (by rw [goods_next (y := y) (HG.out.trans hy.symm)]; exact hL3), hmn⟩, HN.out⟩
            have hrun2 : (Builtin.append_ #[55, 55] 55 #[u5, .slice (some ⟨w'.heap.size, 0, none⟩) 1 1]).run Tryz.prog (w'.alloc (.cells #[.bool y] 4)) = .ok g' w2 := hrun2
            rw [hy] at hrun2
            clear hL hL1 hL2 hL3 hq hql HN HD HG HML V3 V5 HP ba ba2 bb bb2 hpl hp1 hdo hmn hy
            go_upto_region 19 with (first | (at_builtin; refine Lib.wpList_append_run _ rfl _ _ _ _ rfl _ _ rfl rfl _ _ hrun ?_) | (at_builtin; refine Lib.wpList_append_run _ rfl _ _ _ _ rfl _ _ rfl rfl _ _ hrun2 ?_))
            by_cases h5 : 0 ≤ hs + z
            · have HHX : Hid (hs + z = hasM Z (k + 1)) := (by rw [HH.out, if_pos h5] : hs + z = hasM Z (k + 1))
              clear HH hrun hrun2
              go_wp2_with fail
              exact ⟨⟨k + 1, by omega, by go_num, by rw [HHX.out], HNX⟩, by simp [intOf]; omega⟩
            · have HHX : Hid (hs = hasM Z (k + 1)) := (by rw [HH.out, if_neg h5] : hs = hasM Z (k + 1))
              clear HH hrun hrun2
              go_wp2_with fail
              exact ⟨⟨k + 1, by omega, by go_num, by rw [← HHX.out], HNX⟩, by simp [intOf]; omega⟩
        · clear HS hzz hL hq
          generalize Z k = z at *
          go_wp2_with fail
          go_ret
          exact ⟨rfl, hbw⟩
      · clear HS hzz hL hq
        generalize Z k = z at *
        go_wp2_with fail
        go_ret
        exact ⟨rfl, hbw⟩
    · obtain rfl : k = m := by omega
      obtain ⟨⟨qs, hL, hq⟩, hzz⟩ := HS.out
      have hql : qs.length = k + 1 := by rw [← monL_len Z k, ← hq, List.length_map]
      have hD := hL.ld.dos
      have hb0 := hL.ld.bel
      obtain ⟨A', C', hv, hc1, hc2⟩ := hL.ld.shape
      rw [hql] at hv hc1
      rw [hq] at hD
      subst hv
      have hO := hL.head.own
      obtain ⟨Ag, Cg, hgv, hg1, hg2, hg3⟩ := row_shape hO
      have hgv : u5 = .slice Ag k Cg := hgv
      subst hgv
      have hgg : Hid (∀ i, i < k → ∃ b, Ag = some ⟨b, 0, none⟩ ∧ wr.cell? ⟨b, i, none⟩ = some (.bool (goodM Z i))) := fun i hi => by
        obtain ⟨g, rfl⟩ := hg3 (by show 1 ≤ k; omega)
        exact ⟨g, rfl, row_at hO rfl (goods_at hi)⟩
      have hg2 : Cg ≤ 9223372036854775807 := by unfold maxLen at hg2; exact hg2
      obtain ⟨X, hX⟩ := Sto.six
      obtain ⟨hM, hans⟩ := mon_all (c := ⟨2, 1, 3⟩) hX ⟨show 1 ≤ 2 by decide, show 2 ≤ 8 by decide, show 1 ≤ 4 by decide, show 1 ≤ 3 by decide, show 3 ≤ 10 by decide⟩ (Z := Z) (m := k) (by omega) hzz k (Nat.le_refl _)
      have hll : (monL Z k).length = k + 1 := monL_len Z k
      have HP1 := playR hX ⟨2, 1, 3⟩ 2 1 3 rfl rfl rfl (show 1 ≤ 2 by decide) (show 2 ≤ 8 by decide) (show 1 ≤ 4 by decide) (show 1 ≤ 3 by decide) (show 3 ≤ 10 by decide) _ _ _ hD (by rw [hll]; omega)
      have hr1 : (Sto.steps X ⟨2, 1, 3⟩ (Sto.start ⟨2, 1, 3⟩) (monL Z k)).2.length = k + 1 := (Sto.steps_length ..).trans hll
      have hsum := hM.a.2
      generalize Sto.steps X ⟨2, 1, 3⟩ (Sto.start ⟨2, 1, 3⟩) (monL Z k) = r1 at *
      have HY : Hid ((∀ j, j < k → ∃ a, r1.2[j + 1]? = some a ∧ a.err = if goodM Z j then 0 else 8) ∧ r1.2.length = k + 1 ∧ (Vw.get r1.1.acc [97]).sum = hasM Z k) := ⟨hans, hr1, hsum⟩
      have hh0 := hasM_pos Z k
      have hh1 : hasM Z k ≤ 15000 := by
        have := hasM_few (Z := Z) (m := k) (fun j hj => (hzz j hj).2) k (Nat.le_refl _)
        omega
      clear hL HS hq hql hD hll hans hr1 hsum hM hX hzz hO hg3
      go_wp2_with fail
      refine HP1.mono ?_
      rintro e wa ⟨vd1, vt1, vs1, va1, vr1, rfl, hS1, hR1, ba, _⟩
      obtain ⟨Ad1, nd1, Cd1, rfl⟩ : ∃ A n C, vd1 = .slice A n C := by
        obtain ⟨A, C, h, _⟩ := hS1.dk
        exact ⟨A, _, C, h⟩
      obtain ⟨At1, nt1, Ct1, rfl⟩ : ∃ A n C, vt1 = .slice A n C := by
        obtain ⟨A, C, h, _⟩ := hS1.tl
        exact ⟨A, _, C, h⟩
      obtain ⟨As1, ns1, Cs1, rfl⟩ : ∃ A n C, vs1 = .slice A n C := by
        obtain ⟨A, C, h, _⟩ := hS1.sn
        exact ⟨A, _, C, h⟩
      have hac := hS1.ac
      obtain ⟨Aa1, Ca1, rfl⟩ := hac.shape
      have bz : Below wa.heap.size wa (wa.alloc (.cells #[.int .i64 2, .int .i64 1, .int .i64 3, .slice Ad1 nd1 Cd1, .int .i64 (r1.1.segs : Int), .slice At1 nt1 Ct1, .slice As1 ns1 Cs1, .int .i64 r1.1.u, .slice Aa1 r1.1.acc.length Ca1] 44)) := (Below.refl _ _).alloc (Nat.le_refl _) _
      have VS := varN_new wa #[.int .i64 2, .int .i64 1, .int .i64 3, .slice Ad1 nd1 Cd1, .int .i64 (r1.1.segs : Int), .slice At1 nt1 Ct1, .slice As1 ns1 Cs1, .int .i64 r1.1.u, .slice Aa1 r1.1.acc.length Ca1] 44
      have c7 := VS.cell (i := 7) rfl
      have c8 := VS.cell (i := 8) rfl
      have hR1 := hR1.below bz
      have hac := hac.below bz
      have hb3 := bt hb0 (bt ba bz)
      have hgb := bt ba bz
      obtain ⟨y1, y2, y3⟩ := HY.out
      have HG := get_any r1.1.u ⟨#[97]⟩ (.slice Aa1 r1.1.acc.length Ca1) _ _ hac (by decide)
      obtain ⟨B1, D1, rfl, p5, p6, p7⟩ := hR1
      rw [y2] at p5 ⊢
      have p6 : D1 ≤ 9223372036854775807 := by unfold maxLen at p6; exact p6
      have HAN : Hid (∀ j, j < k → ∃ i o, B1 = some ⟨i, o, none⟩ ∧ _) := fun j hj => by
        obtain ⟨a, a1, a2⟩ := y1 j hj
        obtain ⟨i, o, e, _, _, k0, _⟩ := p7 _ _ a1
        rw [a2] at k0
        exact ⟨i, o, e, k0⟩
      have HGG : Hid (∀ i, i < k → ∃ b, Ag = some ⟨b, 0, none⟩ ∧ (wa.alloc (.cells #[.int .i64 2, .int .i64 1, .int .i64 3, .slice Ad1 nd1 Cd1, .int .i64 (r1.1.segs : Int), .slice At1 nt1 Ct1, .slice As1 ns1 Cs1, .int .i64 r1.1.u, .slice Aa1 r1.1.acc.length Ca1] 44)).cell? ⟨b, i, none⟩ = some (.bool (goodM Z i))) := fun i hi => by
        obtain ⟨b, h1, h2⟩ := hgg.out i hi
        exact ⟨b, h1, (hgb.cell (p := ⟨b, i, none⟩) (World.block_lt_of_cell? _ _ h2)).trans h2⟩
      have HSM : Hid ((Vw.get r1.1.acc [97]).sum = hasM Z k) := y3
      clear HP1 hS1 HY y1 y2 y3 p7 ba bz hb0 hgb hgg VS
      go_upto_region 25 with fail
      obtain ⟨wz, hwz⟩ : ∃ x, x = wa.alloc (.cells #[.int .i64 2, .int .i64 1, .int .i64 3, .slice Ad1 nd1 Cd1, .int .i64 (r1.1.segs : Int), .slice At1 nt1 Ct1, .slice As1 ns1 Cs1, .int .i64 r1.1.u, .slice Aa1 r1.1.acc.length Ca1] 44) := ⟨_, rfl⟩
      rw [← hwz] at HAN HGG HG hb3 c7 c8 ⊢
      clear hwz
      generalize wa.heap.size = pz at *
      go_wp2_with fail
      go_loopw [92] (fun x wr => ∃ j : Nat, j ≤ k ∧ x = .int .i64 j ∧ wr = wz) (fun x _ => k - (intOf x).toNat)
      case atStart => exact ⟨0, Nat.zero_le _, rfl, rfl⟩
      case round =>
        obtain ⟨j, hj, rfl, rfl⟩ := hrel
        by_cases hlj : j < k
        · have hlj' : (j : Int) < (k : Int) := by omega
          obtain ⟨i1, o1, rfl, k0⟩ := HAN.out j hlj
          obtain ⟨b1, rfl, g0⟩ := HGG.out j hlj
          cases q : goodM Z j with
          | true =>
            rw [q] at k0 g0
            have k0 : _ = some (Value.int .i64 0) := k0
            clear q
            go_wp2_with fail
            exact ⟨⟨j + 1, by omega, by go_num, trivial⟩, by simp [intOf]; omega⟩
          | false =>
            rw [q] at k0 g0
            have k0 : _ = some (Value.int .i64 8) := k0
            clear q
            go_wp2_with fail
            exact ⟨⟨j + 1, by omega, by go_num, trivial⟩, by simp [intOf]; omega⟩
        · obtain rfl : j = k := by omega
          unfold GetO AcV at HG
          rw [show Vw.get r1.1.acc (nb ⟨#[97]⟩) = Vw.get r1.1.acc [97] by rw [nbT_a]] at HG
          rw [HSM.out] at HG
          clear HAN HGG
          go_wp2_with fail
          refine HG.mono ?_
          rintro e w8 ⟨⟨v8, rfl, s8, _, _, rfl⟩, b8⟩
          have hfc := fun w' => field_acc1 s8 (hasM Z j) (Vw.get r1.1.acc [97]).cnt (Vw.get r1.1.acc [97]).opn w'
          have hb := bt hb3 b8
          clear HG
          go_wp2_with fail
          go_ret
          exact ⟨rfl, hb⟩
theorem walk (w : World) (A : Option Addr) (m C : Nat) (Z : Nat → Int) (g : Ints w (.slice A m C) m Z) (z : m ≤ C ∧ C ≤ maxLen) :
    Calls Tryz.prog 6 #[.slice A m C] w fun e w' => e = .returned (.bool true) ∧ Below w.heap.size w w' := by
  by_cases h : m ≤ 15
  · exact good w A m C Z g h
  · exact bad w A m C h (by have := z.1; have := z.2; unfold maxLen at *; omega)

set_option maxRecDepth 100000 in
theorem lifted (os : Os) (started : os.Started) (H : Type) (enc : TypeId × Value → H) :
    ReturnsInHanded {} Tryz.checked os 6 .any (Rows.topMoneySpec.pre6 enc Tryz.prog Tryz.f6 Rows.topMoneyRow.domain false) (Rows.topMoneySpec.post enc Tryz.prog Tryz.f6 false true false false) := by
  refine returnsInHanded_of_change (C := Tryz.checked) own started (by kernel_rfl) Tryz.func6
    (ChangeSpec.witness6 (enc := enc) (C := Tryz.checked) false ⟨#[], #[.slice none 0 0], []⟩ 8 (by kernel_rfl) (by kernel_rfl) (by kernel_rfl) (by kernel_rfl)) ?_
  intro W base args ds gs before hval0 hW hcnd _
  have hval : ∀ (j : Nat) t v, Tryz.f6.params[j]? = some t → args[j]? = some v → Value.okWide Tryz.prog W .any base t v := hval0
  have hW' := hW
  obtain ⟨p, q, hA0, hV, rfl, hfz, hnd⟩ := hW
  have hA : DataW.TrodAll enc Tryz.prog W 0 (fun _ => true) true Tryz.f6.params.toList args.toList ds p := hA0
  rw [Tryz.params6] at hA hval
  obtain ⟨v0, vs0, d0, ds0, p0, q0, hargs, rfl, rfl, h0, r0⟩ := trodAll_cons hA
  obtain ⟨rfl, rfl, rfl⟩ := trodAll_nil r0
  obtain rfl : args = #[v0] := by cases args; simp_all
  obtain ⟨rfl, rfl⟩ := trodVars_none hV
  obtain ⟨a0, l0, c0, rfl⟩ := okWide_slice Tryz.underlying22 (hval 0 22 v0 rfl rfl)
  have k0 := h0
  have lt0 : ∀ x ∈ p0, x.block < W.heap.size := by obtain ⟨m, hm⟩ := k0; exact DataW.trod_lt m _ _ _ hm
  obtain ⟨Z0, g0, z0⟩ := ints_of h0
  clear hA0 hval0
  refine (walk W _ _ _ Z0 g0 z0).mono fun e W' ⟨he, bel⟩ => ?_
  subst he
  exact ⟨_, rfl, _, _, _, [], _, [], hW', trodAll_mk1 (shut_bool Tryz.underlying4 _), (trodAll_cons_mk (Below.trod Tryz.laidOut (by kernel_rfl) (of_decide_eq_true (by kernel_rfl)) k0 bel lt0) trodAll_mk0), rfl, bel.frame _, fun h => by cases h⟩

theorem over : Rows.topMoneyRow.holds Tryz.pinned (OpenSpec.ofChange Rows.topMoneySpec) :=
  OpenClaim.holds_of_wide 6 Tryz.f6 rfl rfl rfl rfl rfl rfl rfl ⟨rfl, rfl, rfl, rfl, rfl⟩ rfl rfl rfl rfl rfl (by kernel_rfl) Tryz.func6 (by kernel_rfl)
    (of_decide_eq_true (by kernel_rfl)) (by unfold Func.isWrapper; first | (rw [if_pos (by decide +kernel)]; kernel_rfl) | (rw [if_neg (by decide +kernel)]; exact ⟨rfl, rfl⟩))
    (fun os started H enc _ => lifted os started H enc)
end Go.Proofs.YtleekmmoanlpfaaGreat.topMoney

namespace Go.Proofs.YtleekmmoanlpfaaGreat
theorem topMoney_holds : Rows.TopMoneySaid := topMoney.over
#print axioms topMoney_holds
end Go.Proofs.YtleekmmoanlpfaaGreat
