/-
  Texts of the proof, joined: VRefW, VRefG, VAlive.
-/
import Derived.Test.YtmcaejooaaahdaaGreatZ18
import Derived.Test.YtmcaejooaaahdaaGreatZ31
import Derived.Test.YtmcaejooaaahdaaGreatZ13
import Derived.Test.YtmcaejooaaahdaaGreatZ33
namespace Go.Proofs.YtmcaejooaaahdaaGreat
open Go.RowKit

theorem Tryz.enters_bad : ∀ args w, (callFunc 99 args).run Tryz.prog w = .ok (.enter 99 args) w := enters_of Tryz.func99 (by kernel_rfl) rfl
set_option maxHeartbeats 400000 in
set_option maxRecDepth 100000 in
theorem refBad_any (I : Nat) (i x : Int) (w : World) (hc : w.cell? ⟨I, 0, none⟩ = some (.int .i64 i)) : Calls Tryz.prog 99 #[.int .i64 x, .pointer (some ⟨I, 0, none⟩)] w fun e w' => e = .returned (.agg #[.int .i64 x, .int .i64 i]) ∧ Below w.heap.size w w' := by
  have hb0 : Below w.heap.size w (w.alloc (.cells #[.int .i64 0, .int .i64 0] 78)) := (Below.refl _ _).alloc (Nat.le_refl _) _
  have hb1 : Below w.heap.size w (w.alloc (.cells #[.int .i64 x, .int .i64 i] 78)) := (Below.refl _ _).alloc (Nat.le_refl _) _
  have hc' := (hb0.cell (p := ⟨I, 0, none⟩) (World.block_lt_of_cell? _ _ hc)).trans hc
  go_enter Tryz.func99, Tryz.ntmps99
  go_wp2_with fail
  refine bodyPost_ret (v := .agg #[.int .i64 x, .int .i64 i]) (by simp [results, Tryz.results99, go_sem]) rfl ⟨rfl, hb1⟩

theorem leq_nb (s t : ByteArray) : (Op.bytesLess s.toList t.toList || s.toList == t.toList) = !Vw.lt (nb t) (nb s) := by
  rw [less_nb, same_nb]
  cases h : Vw.lt (nb t) (nb s) with
  | true =>
    rw [Vw.lt_anti h, decide_eq_false (fun e => Vw.lt_ne h e.symm)]
    rfl
  | false =>
    rcases Vw.lt_tri (nb s) (nb t) with q | q | q
    · rw [q]
      rfl
    · rw [decide_eq_true q, Bool.or_true]
      rfl
    · rw [h] at q
      cases q

set_option maxHeartbeats 4000000 in
set_option maxRecDepth 100000 in
theorem refWrongV_any (u : Int) (vs : Value) (l : List Vw.Acc) (w : World) (h : Accs w vs l) :
    Calls Tryz.prog 66 #[.agg #[.int .i64 u, vs]] w fun e w' => e = .returned (faultV (Vw.wrongV u l)) ∧ Below w.heap.size w w' := by
  have eg := Tryz.enters_bad
  obtain ⟨A, C, rfl, hC1, hC2, hc⟩ := h
  unfold maxLen at hC2
  have hb0 : Below w.heap.size w (w.alloc (.cells #[.int .i64 u, .slice A l.length C] 30)) := (Below.refl _ _).alloc (Nat.le_refl _) _
  have hb1 : Below w.heap.size w ((w.alloc (.cells #[.int .i64 u, .slice A l.length C] 30)).alloc (.cells #[.int .i64 0, .int .i64 0] 78)) := hb0.alloc hb0.size _
  by_cases q0 : u < 0
  · have H : Hid (Vw.wrongV u l = (3, 0)) := Vw.wrongV_range (Or.inl q0)
    go_enter Tryz.func66, Tryz.ntmps66
    go_wp2_with fail
    refine bodyPost_ret (v := .agg #[.int .i64 3, .int .i64 0]) (by simp [results, Tryz.results66, go_sem]) rfl ⟨by rw [H.out]; rfl, ?_⟩
    exact hb0.alloc hb0.size _
  by_cases q1 : 150 < u
  · have H : Hid (Vw.wrongV u l = (3, 0)) := Vw.wrongV_range (Or.inr q1)
    go_enter Tryz.func66, Tryz.ntmps66
    go_wp2_with fail
    refine bodyPost_ret (v := .agg #[.int .i64 3, .int .i64 0]) (by simp [results, Tryz.results66, go_sem]) rfl ⟨by rw [H.out]; rfl, ?_⟩
    exact hb0.alloc hb0.size _
  have HE : Hid (Vw.wrongV u l = Vw.wrongL u 0 none 0 l) := Vw.wrongV_else (by omega)
  have VV := (varF_new w 30 (.int .i64 u) (.slice A l.length C)).below ((Below.refl _ _).alloc (Nat.le_refl _) (.cells #[.int .i64 0, .int .i64 0] 78))
  have VF := varF_new (w.alloc (.cells #[.int .i64 u, .slice A l.length C] 30)) 78 (.int .i64 0) (.int .i64 0)
  have szx : (w.alloc (.cells #[.int .i64 u, .slice A l.length C] 30)).heap.size = w.heap.size + 1 := by simp
  rw [szx] at VF
  clear szx
  go_enter Tryz.func66, Tryz.ntmps66
  obtain ⟨v0, v1, _⟩ := VV
  go_wp2_with fail
  generalize (w.alloc (.cells #[.int .i64 u, .slice A l.length C] 30)).alloc (.cells #[.int .i64 0, .int .i64 0] 78) = W0 at hb1 VF v0 v1 ⊢
  go_loopw [3, 21] (fun y x wr => ∃ (k : Nat) (s : Int), k ≤ l.length ∧ x = .int .i64 k ∧ y = .int .i64 (u - s) ∧ 0 ≤ s ∧ s ≤ u ∧ Hid (Vw.wrongV u l = Vw.wrongL u k (Vw.prev l k) s (l.drop k)) ∧ Below W0.heap.size W0 wr) (fun _ x _ => l.length - (intOf x).toNat)
  case atStart => exact ⟨0, 0, Nat.zero_le _, rfl, val_int (by omega), Int.le_refl 0, by omega, HE.out, Below.refl _ _⟩
  case round =>
    obtain ⟨k, s, hkl, rfl, rfl, s0, s1, HS, hbr⟩ := hrel
    have bz := bt hb1 hbr
    have v0 := (hbr.cell (p := ⟨w.heap.size, 0, none⟩) (World.block_lt_of_cell? _ _ v0)).trans v0
    have v1 := (hbr.cell (p := ⟨w.heap.size, 1, none⟩) (World.block_lt_of_cell? _ _ v1)).trans v1
    by_cases hlt : k < l.length
    · have hlt' : (k : Int) < (l.length : Int) := by omega
      obtain ⟨a, ha⟩ : ∃ a, l[k]? = some a := ⟨l[k], List.getElem?_eq_getElem hlt⟩
      obtain ⟨b, o, rfl, hin⟩ := hc k a ha
      obtain ⟨st, hs1, hs2, d0, d1, d2, d3⟩ := hin.below bz
      have HNM : Hid (nb st = a.name) := hs2
      have HD : Hid (l.drop k = a :: l.drop (k + 1)) := Vw.drop_at ha
      have HP : Hid (Vw.prev l (k + 1) = some a.name) := Vw.prev_next ha
      obtain ⟨wo, rfl⟩ : ∃ y, y = wr := ⟨wr, rfl⟩
      have hI : Below wo.heap.size wo (wo.alloc (.cells #[.int .i64 (k : Int)] 3)) := (Below.refl _ _).alloc (Nat.le_refl _) _
      have hA2 : Below (wo.alloc (.cells #[.int .i64 (k : Int)] 3)).heap.size (wo.alloc (.cells #[.int .i64 (k : Int)] 3)) ((wo.alloc (.cells #[.int .i64 (k : Int)] 3)).alloc (.cells #[.string st, .int .i64 a.sum, .int .i64 a.cnt, .bool a.opn] 93)) := (Below.refl _ _).alloc (Nat.le_refl _) _
      have i0 : ((wo.alloc (.cells #[.int .i64 (k : Int)] 3)).alloc (.cells #[.string st, .int .i64 a.sum, .int .i64 a.cnt, .bool a.opn] 93)).cell? ⟨wo.heap.size, 0, none⟩ = some (.int .i64 (k : Int)) := by go_simp
      have VA := varA_new (wo.alloc (.cells #[.int .i64 (k : Int)] 3)) 93 (.string st) (.int .i64 a.sum) (.int .i64 a.cnt) (.bool a.opn)
      rw [show (wo.alloc (.cells #[.int .i64 (k : Int)] 3)).heap.size = wo.heap.size + 1 by simp] at VA
      have bA := bt hI hA2
      have HN := fun w' => refNamed_any st w' hs1
      have VF := (VF.below hbr).below bA
      have v0 := (bA.cell (p := ⟨w.heap.size, 0, none⟩) (World.block_lt_of_cell? _ _ v0)).trans v0
      have v1 := (bA.cell (p := ⟨w.heap.size, 1, none⟩) (World.block_lt_of_cell? _ _ v1)).trans v1
      clear hI hA2
      by_cases hn0 : Evt.named a.name
      case neg =>
        have hn : Hid (¬ Evt.named (nb st)) := by
          show ¬ _
          rw [HNM.out]
          exact hn0
        have HA0 : Vw.wrongA u a = 7 := Vw.wrongA_name hn0
        have HR : Hid (Vw.wrongV u l = (7, k)) := by
          show _ = _
          rw [HS.out, HD.out, Vw.wrongL_acc (by rw [HA0]; decide), HA0]
        clear hn0 HA0 hc
        go_wp2_with fail
        refine (HN _).mono ?_
        rintro e w1 ⟨⟨y, rfl, hy⟩, b1⟩
        obtain rfl : y = false := by cases y with | false => rfl | true => exact absurd (hy.1 rfl) hn.out
        have i0 := (b1.cell (p := ⟨wo.heap.size, 0, none⟩) (World.block_lt_of_cell? _ _ i0)).trans i0
        obtain ⟨g0, g1, g2, g3, _⟩ := VA.below b1
        have v0 := (b1.cell (p := ⟨w.heap.size, 0, none⟩) (World.block_lt_of_cell? _ _ v0)).trans v0
        have v1 := (b1.cell (p := ⟨w.heap.size, 1, none⟩) (World.block_lt_of_cell? _ _ v1)).trans v1
        have VF := VF.below b1
        have b1 := bt bA b1
        clear HN hy VA
        go_wp2_with fail
        refine (refBad_any wo.heap.size (k : Nat) 7 _ i0).mono ?_
        rintro e w2 ⟨rfl, b2⟩
        obtain ⟨c0, c1, fr⟩ := VF.below b2
        have f0 := fr 0
        have f1 := fr 1
        go_wp2_with fail
        refine bodyPost_ret (v := .agg #[.int .i64 7, .int .i64 (k : Nat)]) (by simp [results, Tryz.results66, go_sem, c0, c1]) rfl ⟨by rw [HR.out]; rfl, ?_⟩
        exact ((bt (bt bz b1) b2).setCell (Nat.le_succ _) _).setCell (Nat.le_succ _) _
      have hn : Hid (Evt.named (nb st)) := by
        show Evt.named _
        rw [HNM.out]
        exact hn0
      by_cases r0 : a.cnt < 1
      · have HA0 : Vw.wrongA u a = 3 := Vw.wrongA_range hn0 (Or.inl r0)
        have HR : Hid (Vw.wrongV u l = (3, k)) := by
          show _ = _
          rw [HS.out, HD.out, Vw.wrongL_acc (by rw [HA0]; decide), HA0]
        clear hn0 HA0 hc
        go_wp2_with fail
        refine (HN _).mono ?_
        rintro e w1 ⟨⟨y, rfl, hy⟩, b1⟩
        obtain rfl : y = true := hy.2 hn.out
        have i0 := (b1.cell (p := ⟨wo.heap.size, 0, none⟩) (World.block_lt_of_cell? _ _ i0)).trans i0
        obtain ⟨g0, g1, g2, g3, _⟩ := VA.below b1
        have v0 := (b1.cell (p := ⟨w.heap.size, 0, none⟩) (World.block_lt_of_cell? _ _ v0)).trans v0
        have v1 := (b1.cell (p := ⟨w.heap.size, 1, none⟩) (World.block_lt_of_cell? _ _ v1)).trans v1
        have VF := VF.below b1
        have b1 := bt bA b1
        clear HN hy VA
        go_wp2_with fail
        refine (refBad_any wo.heap.size (k : Nat) 3 _ i0).mono ?_
        rintro e w2 ⟨rfl, b2⟩
        obtain ⟨c0, c1, fr⟩ := VF.below b2
        have f0 := fr 0
        have f1 := fr 1
        go_wp2_with fail
        refine bodyPost_ret (v := .agg #[.int .i64 3, .int .i64 (k : Nat)]) (by simp [results, Tryz.results66, go_sem, c0, c1]) rfl ⟨by rw [HR.out]; rfl, ?_⟩
        exact ((bt (bt bz b1) b2).setCell (Nat.le_succ _) _).setCell (Nat.le_succ _) _
      by_cases r1 : u < a.cnt
      · have HA0 : Vw.wrongA u a = 3 := Vw.wrongA_range hn0 (Or.inr (Or.inl r1))
        have HR : Hid (Vw.wrongV u l = (3, k)) := by
          show _ = _
          rw [HS.out, HD.out, Vw.wrongL_acc (by rw [HA0]; decide), HA0]
        clear hn0 HA0 hc
        go_wp2_with fail
        refine (HN _).mono ?_
        rintro e w1 ⟨⟨y, rfl, hy⟩, b1⟩
        obtain rfl : y = true := hy.2 hn.out
        have i0 := (b1.cell (p := ⟨wo.heap.size, 0, none⟩) (World.block_lt_of_cell? _ _ i0)).trans i0
        obtain ⟨g0, g1, g2, g3, _⟩ := VA.below b1
        have v0 := (b1.cell (p := ⟨w.heap.size, 0, none⟩) (World.block_lt_of_cell? _ _ v0)).trans v0
        have v1 := (b1.cell (p := ⟨w.heap.size, 1, none⟩) (World.block_lt_of_cell? _ _ v1)).trans v1
        have VF := VF.below b1
        have b1 := bt bA b1
        clear HN hy VA
        go_wp2_with fail
        refine (refBad_any wo.heap.size (k : Nat) 3 _ i0).mono ?_
        rintro e w2 ⟨rfl, b2⟩
        obtain ⟨c0, c1, fr⟩ := VF.below b2
        have f0 := fr 0
        have f1 := fr 1
        go_wp2_with fail
        refine bodyPost_ret (v := .agg #[.int .i64 3, .int .i64 (k : Nat)]) (by simp [results, Tryz.results66, go_sem, c0, c1]) rfl ⟨by rw [HR.out]; rfl, ?_⟩
        exact ((bt (bt bz b1) b2).setCell (Nat.le_succ _) _).setCell (Nat.le_succ _) _
      by_cases r2 : 1000000 * a.cnt < a.sum
      · have HA0 : Vw.wrongA u a = 3 := Vw.wrongA_range hn0 (Or.inr (Or.inr (Or.inl r2)))
        have HR : Hid (Vw.wrongV u l = (3, k)) := by
          show _ = _
          rw [HS.out, HD.out, Vw.wrongL_acc (by rw [HA0]; decide), HA0]
        have m1 : 1 ≤ a.cnt := by omega
        have m2 : a.cnt ≤ 150 := by omega
        clear hn0 HA0 hc
        go_wp2_with fail
        refine (HN _).mono ?_
        rintro e w1 ⟨⟨y, rfl, hy⟩, b1⟩
        obtain rfl : y = true := hy.2 hn.out
        have i0 := (b1.cell (p := ⟨wo.heap.size, 0, none⟩) (World.block_lt_of_cell? _ _ i0)).trans i0
        obtain ⟨g0, g1, g2, g3, _⟩ := VA.below b1
        have v0 := (b1.cell (p := ⟨w.heap.size, 0, none⟩) (World.block_lt_of_cell? _ _ v0)).trans v0
        have v1 := (b1.cell (p := ⟨w.heap.size, 1, none⟩) (World.block_lt_of_cell? _ _ v1)).trans v1
        have VF := VF.below b1
        have b1 := bt bA b1
        clear HN hy VA
        go_wp2_with fail
        refine (refBad_any wo.heap.size (k : Nat) 3 _ i0).mono ?_
        rintro e w2 ⟨rfl, b2⟩
        obtain ⟨c0, c1, fr⟩ := VF.below b2
        have f0 := fr 0
        have f1 := fr 1
        go_wp2_with fail
        refine bodyPost_ret (v := .agg #[.int .i64 3, .int .i64 (k : Nat)]) (by simp [results, Tryz.results66, go_sem, c0, c1]) rfl ⟨by rw [HR.out]; rfl, ?_⟩
        exact ((bt (bt bz b1) b2).setCell (Nat.le_succ _) _).setCell (Nat.le_succ _) _
      by_cases r3 : a.sum < -(1000000 * a.cnt)
      · have HA0 : Vw.wrongA u a = 3 := Vw.wrongA_range hn0 (Or.inr (Or.inr (Or.inr r3)))
        have HR : Hid (Vw.wrongV u l = (3, k)) := by
          show _ = _
          rw [HS.out, HD.out, Vw.wrongL_acc (by rw [HA0]; decide), HA0]
        have m1 : 1 ≤ a.cnt := by omega
        have m2 : a.cnt ≤ 150 := by omega
        clear hn0 HA0 hc
        go_wp2_with fail
        refine (HN _).mono ?_
        rintro e w1 ⟨⟨y, rfl, hy⟩, b1⟩
        obtain rfl : y = true := hy.2 hn.out
        have i0 := (b1.cell (p := ⟨wo.heap.size, 0, none⟩) (World.block_lt_of_cell? _ _ i0)).trans i0
        obtain ⟨g0, g1, g2, g3, _⟩ := VA.below b1
        have v0 := (b1.cell (p := ⟨w.heap.size, 0, none⟩) (World.block_lt_of_cell? _ _ v0)).trans v0
        have v1 := (b1.cell (p := ⟨w.heap.size, 1, none⟩) (World.block_lt_of_cell? _ _ v1)).trans v1
        have VF := VF.below b1
        have b1 := bt bA b1
        clear HN hy VA
        go_wp2_with fail
        refine (refBad_any wo.heap.size (k : Nat) 3 _ i0).mono ?_
        rintro e w2 ⟨rfl, b2⟩
        obtain ⟨c0, c1, fr⟩ := VF.below b2
        have f0 := fr 0
        have f1 := fr 1
        go_wp2_with fail
        refine bodyPost_ret (v := .agg #[.int .i64 3, .int .i64 (k : Nat)]) (by simp [results, Tryz.results66, go_sem, c0, c1]) rfl ⟨by rw [HR.out]; rfl, ?_⟩
        exact ((bt (bt bz b1) b2).setCell (Nat.le_succ _) _).setCell (Nat.le_succ _) _
      have HE0 : Hid (Vw.wrongA u a = 0) := Vw.wrongA_ok hn0 (by omega)
      have m1 : 1 ≤ a.cnt := by omega
      have m2 : a.cnt ≤ 150 := by omega
      have m3 : a.cnt ≤ u := by omega
      clear hn0
      rcases Nat.eq_zero_or_pos k with hk0 | hk0
      · have HR0 : Hid (Vw.rises (Vw.prev l k) a.name = true) := by
          show _ = _
          rw [hk0]
          rfl
        clear hc
        subst hk0
        simp only [Nat.zero_mul, Nat.add_zero] at d0 d1 d2 d3
        go_wp2_with fail
        refine (HN _).mono ?_
        rintro e w1 ⟨⟨y, rfl, hy⟩, b1⟩
        obtain rfl : y = true := hy.2 hn.out
        have i0 := (b1.cell (p := ⟨wo.heap.size, 0, none⟩) (World.block_lt_of_cell? _ _ i0)).trans i0
        obtain ⟨g0, g1, g2, g3, _⟩ := VA.below b1
        have v0 := (b1.cell (p := ⟨w.heap.size, 0, none⟩) (World.block_lt_of_cell? _ _ v0)).trans v0
        have v1 := (b1.cell (p := ⟨w.heap.size, 1, none⟩) (World.block_lt_of_cell? _ _ v1)).trans v1
        have VF := VF.below b1
        have b1 := bt bA b1
        clear HN hy VA
        go_wp2_with fail
        go_quiet (fail)
        by_cases hfit : s + a.cnt ≤ u
        · have HX : Hid (Vw.wrongV u l = Vw.wrongL u (0 + 1) (Vw.prev l (0 + 1)) (s + a.cnt) (l.drop (0 + 1))) := by
            show _ = _
            rw [HS.out, HD.out, HP.out]
            exact Vw.wrongL_next HE0.out HR0.out hfit
          have hf2 : ¬ u - s - a.cnt < 0 := by omega
          go_wp2_with fail
          exact ⟨⟨0 + 1, s + a.cnt, by omega, by go_num, val_int (by omega), by omega, hfit, HX.out, bdn (bt hbr b1) _⟩, by simp [intOf]; omega⟩
        · have HR : Hid (Vw.wrongV u l = (8, 0)) := by
            show _ = _
            rw [HS.out, HD.out]
            exact Vw.wrongL_fit HE0.out HR0.out hfit
          have hf2 : u - s - a.cnt < 0 := by omega
          go_wp2_with fail
          refine (refBad_any wo.heap.size ((0 : Nat) : Int) 8 (w1.drewN nq) i0).mono ?_
          rintro e w2 ⟨rfl, b2⟩
          obtain ⟨c0, c1, fr⟩ := (VF.below (drewN_below _ _)).below b2
          have f0 := fr 0
          have f1 := fr 1
          go_wp2_with fail
          refine bodyPost_ret (v := .agg #[.int .i64 8, .int .i64 (0 : Nat)]) (by simp [results, Tryz.results66, go_sem, c0, c1]) rfl ⟨by rw [HR.out]; rfl, ?_⟩
          exact ((bt (bdn (bt bz b1) _) b2).setCell (Nat.le_succ _) _).setCell (Nat.le_succ _) _
      · obtain ⟨j, rfl⟩ : ∃ j, k = j + 1 := ⟨k - 1, by omega⟩
        obtain ⟨p, hp⟩ : ∃ p, l[j]? = some p := ⟨l[j], List.getElem?_eq_getElem (by omega)⟩
        obtain ⟨b', o', hA', hin'⟩ := hc j p hp
        cases hA'
        obtain ⟨sp, hp1, hp2, e0, _, _, _⟩ := hin'.below (bt bz bA)
        have hle := leq_nb st sp
        rw [hp2, HNM.out] at hle
        have HL : Hid (Vw.rises (Vw.prev l (j + 1)) a.name = Vw.lt p.name a.name) := by
          show _ = _
          rw [Vw.prev_next hp]
          rfl
        clear hc hp2
        generalize Vw.lt p.name a.name = y at HL hle
        cases y with
        | true =>
          have hle : (Op.bytesLess st.toList sp.toList || st.toList == sp.toList) = false := hle
          go_wp2_with fail
          refine (HN _).mono ?_
          rintro e w1 ⟨⟨y, rfl, hy⟩, b1⟩
          obtain rfl : y = true := hy.2 hn.out
          have i0 := (b1.cell (p := ⟨wo.heap.size, 0, none⟩) (World.block_lt_of_cell? _ _ i0)).trans i0
          obtain ⟨g0, g1, g2, g3, _⟩ := VA.below b1
          have v0 := (b1.cell (p := ⟨w.heap.size, 0, none⟩) (World.block_lt_of_cell? _ _ v0)).trans v0
          have v1 := (b1.cell (p := ⟨w.heap.size, 1, none⟩) (World.block_lt_of_cell? _ _ v1)).trans v1
          have VF := VF.below b1
          have e0 := (b1.cell (p := ⟨b, o + j * 4, none⟩) (World.block_lt_of_cell? _ _ e0)).trans e0
          have b1 := bt bA b1
          clear HN hy VA
          go_wp2_with fail
          go_quiet (fail)
          by_cases hfit : s + a.cnt ≤ u
          · have HX : Hid (Vw.wrongV u l = Vw.wrongL u ((j + 1) + 1) (Vw.prev l ((j + 1) + 1)) (s + a.cnt) (l.drop ((j + 1) + 1))) := by
              show _ = _
              rw [HS.out, HD.out, HP.out]
              exact Vw.wrongL_next HE0.out HL.out hfit
            have hf2 : ¬ u - s - a.cnt < 0 := by omega
            go_wp2_with fail
            exact ⟨⟨(j + 1) + 1, s + a.cnt, by omega, by go_num, val_int (by omega), by omega, hfit, HX.out, bdn (bt hbr b1) _⟩, by simp [intOf]; omega⟩
          · have HR : Hid (Vw.wrongV u l = (8, (j + 1))) := by
              show _ = _
              rw [HS.out, HD.out]
              exact Vw.wrongL_fit HE0.out HL.out hfit
            have hf2 : u - s - a.cnt < 0 := by omega
            go_wp2_with fail
            refine (refBad_any wo.heap.size ((j + 1 : Nat) : Int) 8 (w1.drewN nq) i0).mono ?_
            rintro e w2 ⟨rfl, b2⟩
            obtain ⟨c0, c1, fr⟩ := (VF.below (drewN_below _ _)).below b2
            have f0 := fr 0
            have f1 := fr 1
            go_wp2_with fail
            refine bodyPost_ret (v := .agg #[.int .i64 8, .int .i64 (j + 1 : Nat)]) (by simp [results, Tryz.results66, go_sem, c0, c1]) rfl ⟨by rw [HR.out]; rfl, ?_⟩
            exact ((bt (bdn (bt bz b1) _) b2).setCell (Nat.le_succ _) _).setCell (Nat.le_succ _) _
        | false =>
          have hle : (Op.bytesLess st.toList sp.toList || st.toList == sp.toList) = true := hle
          have HR : Hid (Vw.wrongV u l = (2, j + 1)) := by
            show _ = _
            rw [HS.out, HD.out]
            exact Vw.wrongL_form HE0.out HL.out
          go_wp2_with fail
          refine (HN _).mono ?_
          rintro e w1 ⟨⟨y, rfl, hy⟩, b1⟩
          obtain rfl : y = true := hy.2 hn.out
          have i0 := (b1.cell (p := ⟨wo.heap.size, 0, none⟩) (World.block_lt_of_cell? _ _ i0)).trans i0
          obtain ⟨g0, g1, g2, g3, _⟩ := VA.below b1
          have v0 := (b1.cell (p := ⟨w.heap.size, 0, none⟩) (World.block_lt_of_cell? _ _ v0)).trans v0
          have v1 := (b1.cell (p := ⟨w.heap.size, 1, none⟩) (World.block_lt_of_cell? _ _ v1)).trans v1
          have VF := VF.below b1
          have e0 := (b1.cell (p := ⟨b, o + j * 4, none⟩) (World.block_lt_of_cell? _ _ e0)).trans e0
          have b1 := bt bA b1
          clear HN hy VA
          go_wp2_with fail
          go_quiet (fail)
          go_wp2_with fail
          refine (refBad_any wo.heap.size ((j + 1 : Nat) : Int) 2 (w1.drewN nq) i0).mono ?_
          rintro e w2 ⟨rfl, b2⟩
          obtain ⟨c0, c1, fr⟩ := (VF.below (drewN_below _ _)).below b2
          have f0 := fr 0
          have f1 := fr 1
          go_wp2_with fail
          refine bodyPost_ret (v := .agg #[.int .i64 2, .int .i64 (j + 1 : Nat)]) (by simp [results, Tryz.results66, go_sem, c0, c1]) rfl ⟨by rw [HR.out]; rfl, ?_⟩
          exact ((bt (bdn (bt bz b1) _) b2).setCell (Nat.le_succ _) _).setCell (Nat.le_succ _) _
    · obtain rfl : k = l.length := by omega
      obtain ⟨c0, c1, fr⟩ := VF.below hbr
      have f0 := fr 0
      have f1 := fr 1
      clear hc
      by_cases hsu : s = u
      · have HZ : Hid (Vw.wrongV u l = (0, 0)) := by
          show _ = _
          rw [HS.out, List.drop_length, Vw.wrongL, if_pos hsu]
        have hne : (u - s != 0) = false := by rw [bne_eq_false_iff_eq]; omega
        clear hsu
        go_wp2_with fail
        refine bodyPost_ret (v := .agg #[.int .i64 0, .int .i64 0]) (by simp [results, Tryz.results66, go_sem, c0, c1]) rfl ⟨by rw [HZ.out]; rfl, ?_⟩
        exact (bz.setCell (Nat.le_succ _) _).setCell (Nat.le_succ _) _
      · have HZ : Hid (Vw.wrongV u l = (8, l.length)) := by
          show _ = _
          rw [HS.out, List.drop_length, Vw.wrongL, if_neg hsu]
        have hne : (u - s != 0) = true := by rw [bne_iff_ne]; omega
        clear hsu
        go_wp2_with fail
        refine bodyPost_ret (v := .agg #[.int .i64 8, .int .i64 (l.length : Nat)]) (by simp [results, Tryz.results66, go_sem, c0, c1]) rfl ⟨by rw [HZ.out]; rfl, ?_⟩
        exact (bz.setCell (Nat.le_succ _) _).setCell (Nat.le_succ _) _

end Go.Proofs.YtmcaejooaaahdaaGreat

namespace Go.Proofs.YtmcaejooaaahdaaGreat
open Go.RowKit

theorem VarA.set4 {w : World} {p : Nat} {a b c d : Value} (h : VarA w p a b c d) (x y z u : Value) : VarA ((((w.setCell ⟨p, 0, none⟩ x).setCell ⟨p, 1, none⟩ y).setCell ⟨p, 2, none⟩ z).setCell ⟨p, 3, none⟩ u) p x y z u := by
  have c0 := h.c0
  have c1 := h.c1
  have c2 := h.c2
  have c3 := h.c3
  exact ⟨by go_simp, by go_simp, by go_simp, by go_simp, fun i => by have := h.fr i; go_simp⟩
theorem off_four (w : World) (p : Nat) (x y z u : Value) : Off (fun j => j = p) w ((((w.setCell ⟨p, 0, none⟩ x).setCell ⟨p, 1, none⟩ y).setCell ⟨p, 2, none⟩ z).setCell ⟨p, 3, none⟩ u) :=
  ((((Off.refl (fun j => j = p) w).set (p := ⟨p, 0, none⟩) rfl x).set (p := ⟨p, 1, none⟩) rfl y).set (p := ⟨p, 2, none⟩) rfl z).set (p := ⟨p, 3, none⟩) rfl u
theorem VarA.off {S : Nat → Prop} {w w' : World} {p : Nat} {a b c d : Value} (h : VarA w p a b c d) (ho : Off S w w') (hS : ¬ S p) : VarA w' p a b c d := by
  have hp : p < w.heap.size := World.block_lt_of_cell? _ _ h.c0
  have hb := ho.block p hp hS
  exact ⟨(World.cell?_of_block (w := w) (a := ⟨p, 0, none⟩) hb).trans h.c0, (World.cell?_of_block (w := w) (a := ⟨p, 1, none⟩) hb).trans h.c1, (World.cell?_of_block (w := w) (a := ⟨p, 2, none⟩) hb).trans h.c2, (World.cell?_of_block (w := w) (a := ⟨p, 3, none⟩) hb).trans h.c3, fun i => (World.frozen?_of_block (w := w) (a := ⟨p, i, none⟩) hb).trans (h.fr i)⟩

/-- A search under way: what was found so far. -/
structure GS (w wr : World) (N : Nat) (v : Value) (u : Int) (g : Vw.Acc) : Prop where
  vv : VarF wr N (.int .i64 u) v
  va : VarA wr (N + 1) (.string (ByteArray.mk #[])) (.int .i64 0) (.int .i64 0) (.bool false)
  vo : ∃ s : ByteArray, s.size ≤ 9223372036854775807 ∧ nb s = g.name ∧ VarA wr (N + 1 + 1) (.string s) (.int .i64 g.sum) (.int .i64 g.cnt) (.bool g.opn)
  bel : Below N w wr
theorem GS.put {w wr : World} {N : Nat} {v : Value} {u : Int} {g : Vw.Acc} (h : GS w wr N v u g) (s : ByteArray) (a : Vw.Acc) (hs : s.size ≤ 9223372036854775807) (hn : nb s = a.name) : GS w ((((wr.setCell ⟨N + 1 + 1, 0, none⟩ (.string s)).setCell ⟨N + 1 + 1, 1, none⟩ (.int .i64 a.sum)).setCell ⟨N + 1 + 1, 2, none⟩ (.int .i64 a.cnt)).setCell ⟨N + 1 + 1, 3, none⟩ (.bool a.opn)) N v u a := by
  have ho := off_four wr (N + 1 + 1) (.string s) (.int .i64 a.sum) (.int .i64 a.cnt) (.bool a.opn)
  obtain ⟨s0, _, _, h3⟩ := h.vo
  have hN : N ≤ N + 1 + 1 := by omega
  exact ⟨h.vv.off ho (by omega), h.va.off ho (by omega), ⟨s, hs, hn, h3.set4 _ _ _ _⟩, (((h.bel.setCell hN _).setCell hN _).setCell hN _).setCell hN _⟩

set_option maxHeartbeats 2000000 in
set_option maxRecDepth 100000 in
theorem refGet_any (u : Int) (t : ByteArray) (vs : Value) (l : List Vw.Acc) (w : World) (h : Accs w vs l) (ht : t.size ≤ 9223372036854775807) :
    Calls Tryz.prog 60 #[.agg #[.int .i64 u, vs], .string t] w fun e w' => GetO e (Vw.get l (nb t)) ∧ Below w.heap.size w w' := by
  have hln := h.len
  obtain ⟨A, C, rfl, _, _, hc⟩ := h
  have h1 : Below w.heap.size w (w.alloc (.cells #[.int .i64 u, .slice A l.length C] 30)) := (Below.refl _ _).alloc (Nat.le_refl _) _
  have h2 := h1.alloc h1.size (.cells #[.string (ByteArray.mk #[]), .int .i64 0, .int .i64 0, .bool false] 93)
  have h3 := h2.alloc h2.size (.cells #[.string t, .int .i64 0, .int .i64 0, .bool false] 93)
  have S0 : GS w (((w.alloc (.cells #[.int .i64 u, .slice A l.length C] 30)).alloc (.cells #[.string (ByteArray.mk #[]), .int .i64 0, .int .i64 0, .bool false] 93)).alloc (.cells #[.string t, .int .i64 0, .int .i64 0, .bool false] 93)) w.heap.size (.slice A l.length C) u (Vw.fresh (nb t)) := by
    have b2 : Below (w.alloc (.cells #[.int .i64 u, .slice A l.length C] 30)).heap.size (w.alloc (.cells #[.int .i64 u, .slice A l.length C] 30)) ((w.alloc (.cells #[.int .i64 u, .slice A l.length C] 30)).alloc (.cells #[.string (ByteArray.mk #[]), .int .i64 0, .int .i64 0, .bool false] 93)) := (Below.refl _ _).alloc (Nat.le_refl _) _
    have b3 : Below ((w.alloc (.cells #[.int .i64 u, .slice A l.length C] 30)).alloc (.cells #[.string (ByteArray.mk #[]), .int .i64 0, .int .i64 0, .bool false] 93)).heap.size ((w.alloc (.cells #[.int .i64 u, .slice A l.length C] 30)).alloc (.cells #[.string (ByteArray.mk #[]), .int .i64 0, .int .i64 0, .bool false] 93)) (((w.alloc (.cells #[.int .i64 u, .slice A l.length C] 30)).alloc (.cells #[.string (ByteArray.mk #[]), .int .i64 0, .int .i64 0, .bool false] 93)).alloc (.cells #[.string t, .int .i64 0, .int .i64 0, .bool false] 93)) := (Below.refl _ _).alloc (Nat.le_refl _) _
    have V2 := (varA_new (w.alloc (.cells #[.int .i64 u, .slice A l.length C] 30)) 93 (.string (ByteArray.mk #[])) (.int .i64 0) (.int .i64 0) (.bool false)).below b3
    have V3 := varA_new ((w.alloc (.cells #[.int .i64 u, .slice A l.length C] 30)).alloc (.cells #[.string (ByteArray.mk #[]), .int .i64 0, .int .i64 0, .bool false] 93)) 93 (.string t) (.int .i64 0) (.int .i64 0) (.bool false)
    rw [show (w.alloc (.cells #[.int .i64 u, .slice A l.length C] 30)).heap.size = w.heap.size + 1 by simp] at V2
    rw [show ((w.alloc (.cells #[.int .i64 u, .slice A l.length C] 30)).alloc (.cells #[.string (ByteArray.mk #[]), .int .i64 0, .int .i64 0, .bool false] 93)).heap.size = w.heap.size + 1 + 1 by simp] at V3
    exact ⟨((varF_new w 30 (.int .i64 u) (.slice A l.length C)).below b2).below b3, V2, ⟨t, ht, rfl, V3⟩, h3⟩
  clear h1 h2 h3
  go_enter Tryz.func60, Tryz.ntmps60
  have v1 := S0.vv.c1
  go_wp2_with fail
  generalize ((w.alloc (.cells #[.int .i64 u, .slice A l.length C] 30)).alloc (.cells #[.string (ByteArray.mk #[]), .int .i64 0, .int .i64 0, .bool false] 93)).alloc (.cells #[.string t, .int .i64 0, .int .i64 0, .bool false] 93) = W0 at S0 v1 ⊢
  clear v1
  go_loopw [6] (fun x wr => ∃ j : Nat, j ≤ l.length ∧ x = .int .i64 ((j : Int) - 1) ∧ GS w wr w.heap.size (.slice A l.length C) u (Vw.get (l.drop j) (nb t))) (fun x _ => (intOf x + 1).toNat)
  case atStart => exact ⟨l.length, Nat.le_refl _, val_int (by omega), by rw [List.drop_length]; exact S0⟩
  case round =>
    obtain ⟨j, hj, rfl, SJ⟩ := hrel
    clear S0
    have v1 := SJ.vv.c1
    rcases Nat.eq_zero_or_pos j with hj0 | hj0
    · have hneg : ¬ (0 : Int) ≤ (j : Int) - 1 := by omega
      have HG : Hid (GS w wr w.heap.size (.slice A l.length C) u (Vw.get l (nb t))) := by
        have h := SJ
        rw [hj0, List.drop_zero] at h
        exact h
      obtain ⟨g, hg⟩ : ∃ g, Vw.get l (nb t) = g := ⟨_, rfl⟩
      have HE : Hid (Vw.get l (nb t) = g) := hg
      rw [hg] at HG
      clear hg
      obtain ⟨s, hs1, hs2, c0, c1, c2, c3, _⟩ := HG.out.vo
      obtain ⟨r0, r1, r2, r3, fr⟩ := HG.out.va
      have f0 := fr 0
      have f1 := fr 1
      have f2 := fr 2
      have f3 := fr 3
      have bb := HG.out.bel
      have hN : w.heap.size ≤ w.heap.size + 1 := by omega
      clear SJ hc HG
      go_wp2_with fail
      refine bodyPost_ret (v := .agg #[.string s, .int .i64 g.sum, .int .i64 g.cnt, .bool g.opn]) (by simp [results, Tryz.results60, go_sem, r0, r1, r2, r3]) rfl ⟨by rw [HE.out]; exact ⟨_, rfl, s, hs1, hs2, rfl⟩, ?_⟩
      exact (((bb.setCell hN _).setCell hN _).setCell hN _).setCell hN _
    · obtain ⟨i, rfl⟩ : ∃ i, j = i + 1 := ⟨j - 1, by omega⟩
      obtain ⟨a, ha⟩ : ∃ a, l[i]? = some a := ⟨l[i], List.getElem?_eq_getElem (by omega)⟩
      obtain ⟨b, o, rfl, hin⟩ := hc i a ha
      obtain ⟨s, hs1, hs2, d0, d1, d2, d3⟩ := hin.below SJ.bel
      have HD : Hid (l.drop i = a :: l.drop (i + 1)) := Vw.drop_at ha
      have hse0 := same_nb s t
      have hi1 : ((i + 1 : Nat) : Int) - 1 = (i : Int) := by omega
      have hi2 : (i : Int) < (l.length : Int) := by omega
      rw [hs2] at hse0
      rw [hi1]
      obtain ⟨s', _, _, e0, e1, e2, e3, fr⟩ := SJ.vo
      have f0 := fr 0
      have f1 := fr 1
      have f2 := fr 2
      have f3 := fr 3
      by_cases hq : a.name = nb t
      · have hse : (s.toList == t.toList) = true := by
          rw [hse0]
          simpa using hq
        have HS : Hid (GS w ((((wr.setCell ⟨w.heap.size + 1 + 1, 0, none⟩ (.string s)).setCell ⟨w.heap.size + 1 + 1, 1, none⟩ (.int .i64 a.sum)).setCell ⟨w.heap.size + 1 + 1, 2, none⟩ (.int .i64 a.cnt)).setCell ⟨w.heap.size + 1 + 1, 3, none⟩ (.bool a.opn)) w.heap.size (.slice (some ⟨b, o, none⟩) l.length C) u (Vw.get (l.drop i) (nb t))) := by
          show GS w _ w.heap.size _ u (Vw.get (l.drop i) (nb t))
          rw [HD.out, Vw.get, if_pos hq]
          exact SJ.put s a hs1 hs2
        clear hse0 hq hc ha hin SJ hs2
        go_wp2_with fail
        exact ⟨⟨i, by omega, val_int (by omega), HS.out⟩, by simp [intOf]⟩
      · have hse : (s.toList == t.toList) = false := by
          rw [hse0]
          simpa using hq
        have HS : Hid (GS w wr w.heap.size (.slice (some ⟨b, o, none⟩) l.length C) u (Vw.get (l.drop i) (nb t))) := by
          show GS w _ w.heap.size _ u (Vw.get (l.drop i) (nb t))
          rw [HD.out, Vw.get, if_neg hq]
          exact SJ
        clear hse0 hq hc ha hin SJ hs2
        go_wp2_with fail
        exact ⟨⟨i, by omega, val_int (by omega), HS.out⟩, by simp [intOf]⟩

set_option maxHeartbeats 1000000 in
set_option maxRecDepth 100000 in
theorem refMay_any (s s' : ByteArray) (S c k m : Int) (b : Bool) (w : World) :
    Calls Tryz.prog 100 #[.agg #[.string s, .int .i64 S, .int .i64 c, .bool b], .agg #[.string s', .int .i64 k, .int .i64 m]] w fun e w' => e = .returned (.bool (Vw.may ⟨nb s, S, c, b⟩ ⟨nb s', k, m⟩)) ∧ Below w.heap.size w w' := by
  have h1 : Below w.heap.size w (w.alloc (.cells #[.string s, .int .i64 S, .int .i64 c, .bool b] 93)) := (Below.refl _ _).alloc (Nat.le_refl _) _
  have h2 := h1.alloc h1.size (.cells #[.string s', .int .i64 k, .int .i64 m] 83)
  by_cases q1 : k = 1
  · have H : Hid (Vw.may ⟨nb s, S, c, b⟩ ⟨nb s', k, m⟩ = !b) := may_1 q1
    subst q1
    cases b with
    | false =>
      go_enter Tryz.func100, Tryz.ntmps100
      go_wp2_with fail
      go_ret
      exact ⟨by rw [H.out]; rfl, h2⟩
    | true =>
      go_enter Tryz.func100, Tryz.ntmps100
      go_wp2_with fail
      go_ret
      exact ⟨by rw [H.out]; rfl, h2⟩
  have e1 : (k == 1) = false := by rw [beq_eq_false_iff_ne]; exact q1
  by_cases q2 : k = 2
  · have H : Hid (Vw.may ⟨nb s, S, c, b⟩ ⟨nb s', k, m⟩ = b) := may_24 (Or.inl q2)
    subst q2
    clear q1 e1
    cases b with
    | false =>
      go_enter Tryz.func100, Tryz.ntmps100
      go_wp2_with fail
      go_ret
      exact ⟨by rw [H.out]; rfl, h2⟩
    | true =>
      go_enter Tryz.func100, Tryz.ntmps100
      go_wp2_with fail
      go_ret
      exact ⟨by rw [H.out]; rfl, h2⟩
  have e2 : (k == 2) = false := by rw [beq_eq_false_iff_ne]; exact q2
  by_cases q4 : k = 4
  · have H : Hid (Vw.may ⟨nb s, S, c, b⟩ ⟨nb s', k, m⟩ = b) := may_24 (Or.inr q4)
    subst q4
    clear q1 e1 q2 e2
    cases b with
    | false =>
      go_enter Tryz.func100, Tryz.ntmps100
      go_wp2_with fail
      go_ret
      exact ⟨by rw [H.out]; rfl, h2⟩
    | true =>
      go_enter Tryz.func100, Tryz.ntmps100
      go_wp2_with fail
      go_ret
      exact ⟨by rw [H.out]; rfl, h2⟩
  have e4 : (k == 4) = false := by rw [beq_eq_false_iff_ne]; exact q4
  by_cases q3 : k = 3
  · have H : Hid (Vw.may ⟨nb s, S, c, b⟩ ⟨nb s', k, m⟩ = (b && decide (m ≤ S))) := may_3 q3
    subst q3
    clear q1 e1 q2 e2 q4 e4
    cases b with
    | false =>
      go_enter Tryz.func100, Tryz.ntmps100
      go_wp2_with fail
      go_ret
      exact ⟨by rw [H.out]; rfl, h2⟩
    | true =>
      go_enter Tryz.func100, Tryz.ntmps100
      go_wp2_with fail
      go_ret
      exact ⟨by rw [H.out]; rfl, h2⟩
  have e3 : (k == 3) = false := by rw [beq_eq_false_iff_ne]; exact q3
  have H : Hid (Vw.may ⟨nb s, S, c, b⟩ ⟨nb s', k, m⟩ = false) := may_no q1 q2 q3 q4
  clear q1 q2 q3 q4
  go_enter Tryz.func100, Tryz.ntmps100
  go_wp2_with fail
  go_ret
  exact ⟨by rw [H.out]; rfl, h2⟩

end Go.Proofs.YtmcaejooaaahdaaGreat

namespace Go.Proofs.YtmcaejooaaahdaaGreat
open Go.RowKit

theorem accs_at {w : World} {A : Option Addr} {n C : Nat} {l : List Vw.Acc} (h : Accs w (.slice A n C) l) : ∀ i a, l[i]? = some a → ∃ b o, A = some ⟨b, o, none⟩ ∧ AcIn w b (o + i * 4) a := by
  obtain ⟨_, _, hv, _, _, hc⟩ := h
  cases hv
  exact hc
end Go.Proofs.YtmcaejooaaahdaaGreat
