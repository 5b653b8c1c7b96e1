/-
  What the document's own WrongView does, call by call.
-/
import Derived.Test.YtabolanakcmgfaeVMem
import Derived.Test.YtabolanakcmgfaeVWrong
import Derived.Test.YtabolanakcmgfaeENamed
namespace Go.Proofs.Ytabolanakcmgfae
open Go.RowKit

theorem Try.enters_bad : ∀ args w, (callFunc 32 args).run Try.prog w = .ok (.enter 32 args) w := enters_of Try.func32 (by kernel_rfl) rfl
set_option maxHeartbeats 400000 in
set_option maxRecDepth 100000 in
theorem refBad_any (I : Nat) (i x : Int) (w : World) (hc : w.cell? ⟨I, 0, none⟩ = some (.int .i64 i)) : Calls Try.prog 32 #[.int .i64 x, .pointer (some ⟨I, 0, none⟩)] w fun e w' => e = .returned (.agg #[.int .i64 x, .int .i64 i]) ∧ Below w.heap.size w w' := by
  have hb0 : Below w.heap.size w (w.alloc (.cells #[.int .i64 0, .int .i64 0] 36)) := (Below.refl _ _).alloc (Nat.le_refl _) _
  have hb1 : Below w.heap.size w (w.alloc (.cells #[.int .i64 x, .int .i64 i] 36)) := (Below.refl _ _).alloc (Nat.le_refl _) _
  have hc' := (hb0.cell (p := ⟨I, 0, none⟩) (World.block_lt_of_cell? _ _ hc)).trans hc
  go_enter Try.func32, Try.ntmps32
  go_wp2_with fail
  refine bodyPost_ret (v := .agg #[.int .i64 x, .int .i64 i]) (by simp [results, Try.results32, go_sem]) rfl ⟨rfl, hb1⟩

theorem leq_nb (s t : ByteArray) : (Op.bytesLess s.toList t.toList || s.toList == t.toList) = !Vw.lt (nb t) (nb s) := by
  rw [less_nb, same_nb]
  cases h : Vw.lt (nb t) (nb s) with
  | true =>
    rw [Vw.lt_anti h, decide_eq_false (fun e => Vw.lt_ne h e.symm)]
    rfl
  | false =>
    rcases Vw.lt_tri (nb s) (nb t) with q | q | q
    · rw [q]
      rfl
    · rw [decide_eq_true q, Bool.or_true]
      rfl
    · rw [h] at q
      cases q

set_option maxHeartbeats 4000000 in
set_option maxRecDepth 100000 in
theorem refWrongV_any (u : Int) (vs : Value) (l : List Vw.Acc) (w : World) (h : Accs w vs l) :
    Calls Try.prog 12 #[.agg #[.int .i64 u, vs]] w fun e w' => e = .returned (faultV (Vw.wrongV u l)) ∧ Below w.heap.size w w' := by
  have eg := Try.enters_bad
  obtain ⟨A, C, rfl, hC1, hC2, hc⟩ := h
  unfold maxLen at hC2
  have hb0 : Below w.heap.size w (w.alloc (.cells #[.int .i64 u, .slice A l.length C] 33)) := (Below.refl _ _).alloc (Nat.le_refl _) _
  have hb1 : Below w.heap.size w ((w.alloc (.cells #[.int .i64 u, .slice A l.length C] 33)).alloc (.cells #[.int .i64 0, .int .i64 0] 36)) := hb0.alloc hb0.size _
  by_cases q0 : u < 0
  · have H : Hid (Vw.wrongV u l = (3, 0)) := Vw.wrongV_range (Or.inl q0)
    go_enter Try.func12, Try.ntmps12
    go_wp2_with fail
    refine bodyPost_ret (v := .agg #[.int .i64 3, .int .i64 0]) (by simp [results, Try.results12, go_sem]) rfl ⟨by rw [H.out]; rfl, ?_⟩
    exact hb0.alloc hb0.size _
  by_cases q1 : 150 < u
  · have H : Hid (Vw.wrongV u l = (3, 0)) := Vw.wrongV_range (Or.inr q1)
    go_enter Try.func12, Try.ntmps12
    go_wp2_with fail
    refine bodyPost_ret (v := .agg #[.int .i64 3, .int .i64 0]) (by simp [results, Try.results12, go_sem]) rfl ⟨by rw [H.out]; rfl, ?_⟩
    exact hb0.alloc hb0.size _
  have HE : Hid (Vw.wrongV u l = Vw.wrongL u 0 none 0 l) := Vw.wrongV_else (by omega)
  have VV := (varF_new w 33 (.int .i64 u) (.slice A l.length C)).below ((Below.refl _ _).alloc (Nat.le_refl _) (.cells #[.int .i64 0, .int .i64 0] 36))
  have VF := varF_new (w.alloc (.cells #[.int .i64 u, .slice A l.length C] 33)) 36 (.int .i64 0) (.int .i64 0)
  have szx : (w.alloc (.cells #[.int .i64 u, .slice A l.length C] 33)).heap.size = w.heap.size + 1 := by simp
  rw [szx] at VF
  clear szx
  go_enter Try.func12, Try.ntmps12
  obtain ⟨v0, v1, _⟩ := VV
  go_wp2_with fail
  generalize (w.alloc (.cells #[.int .i64 u, .slice A l.length C] 33)).alloc (.cells #[.int .i64 0, .int .i64 0] 36) = W0 at hb1 VF v0 v1 ⊢
  go_loopw [3, 21] (fun y x wr => ∃ (k : Nat) (s : Int), k ≤ l.length ∧ x = .int .i64 k ∧ y = .int .i64 (u - s) ∧ 0 ≤ s ∧ s ≤ u ∧ Hid (Vw.wrongV u l = Vw.wrongL u k (Vw.prev l k) s (l.drop k)) ∧ Below W0.heap.size W0 wr) (fun _ x _ => l.length - (intOf x).toNat)
  case atStart => exact ⟨0, 0, Nat.zero_le _, rfl, val_int (by omega), Int.le_refl 0, by omega, HE.out, Below.refl _ _⟩
  case round =>
    obtain ⟨k, s, hkl, rfl, rfl, s0, s1, HS, hbr⟩ := hrel
    have bz := bt hb1 hbr
    have v0 := (hbr.cell (p := ⟨w.heap.size, 0, none⟩) (World.block_lt_of_cell? _ _ v0)).trans v0
    have v1 := (hbr.cell (p := ⟨w.heap.size, 1, none⟩) (World.block_lt_of_cell? _ _ v1)).trans v1
    by_cases hlt : k < l.length
    · have hlt' : (k : Int) < (l.length : Int) := by omega
      obtain ⟨a, ha⟩ : ∃ a, l[k]? = some a := ⟨l[k], List.getElem?_eq_getElem hlt⟩
      obtain ⟨b, o, rfl, hin⟩ := hc k a ha
      obtain ⟨st, hs1, hs2, d0, d1, d2, d3⟩ := hin.below bz
      have HNM : Hid (nb st = a.name) := hs2
      have HD : Hid (l.drop k = a :: l.drop (k + 1)) := Vw.drop_at ha
      have HP : Hid (Vw.prev l (k + 1) = some a.name) := Vw.prev_next ha
      obtain ⟨wo, rfl⟩ : ∃ y, y = wr := ⟨wr, rfl⟩
      have hI : Below wo.heap.size wo (wo.alloc (.cells #[.int .i64 (k : Int)] 3)) := (Below.refl _ _).alloc (Nat.le_refl _) _
      have hA2 : Below (wo.alloc (.cells #[.int .i64 (k : Int)] 3)).heap.size (wo.alloc (.cells #[.int .i64 (k : Int)] 3)) ((wo.alloc (.cells #[.int .i64 (k : Int)] 3)).alloc (.cells #[.string st, .int .i64 a.sum, .int .i64 a.cnt, .bool a.opn] 39)) := (Below.refl _ _).alloc (Nat.le_refl _) _
      have i0 : ((wo.alloc (.cells #[.int .i64 (k : Int)] 3)).alloc (.cells #[.string st, .int .i64 a.sum, .int .i64 a.cnt, .bool a.opn] 39)).cell? ⟨wo.heap.size, 0, none⟩ = some (.int .i64 (k : Int)) := by go_simp
      have VA := varA_new (wo.alloc (.cells #[.int .i64 (k : Int)] 3)) 39 (.string st) (.int .i64 a.sum) (.int .i64 a.cnt) (.bool a.opn)
      rw [show (wo.alloc (.cells #[.int .i64 (k : Int)] 3)).heap.size = wo.heap.size + 1 by simp] at VA
      have bA := bt hI hA2
      have HN := fun w' => refNamed_any st w' hs1
      have VF := (VF.below hbr).below bA
      have v0 := (bA.cell (p := ⟨w.heap.size, 0, none⟩) (World.block_lt_of_cell? _ _ v0)).trans v0
      have v1 := (bA.cell (p := ⟨w.heap.size, 1, none⟩) (World.block_lt_of_cell? _ _ v1)).trans v1
      clear hI hA2
      by_cases hn0 : Evt.named a.name
      case neg =>
        have hn : Hid (¬ Evt.named (nb st)) := by
          show ¬ _
          rw [HNM.out]
          exact hn0
        have HA0 : Vw.wrongA u a = 7 := Vw.wrongA_name hn0
        have HR : Hid (Vw.wrongV u l = (7, k)) := by
          show _ = _
          rw [HS.out, HD.out, Vw.wrongL_acc (by rw [HA0]; decide), HA0]
        clear hn0 HA0 hc
        go_wp2_with fail
        refine (HN _).mono ?_
        rintro e w1 ⟨⟨y, rfl, hy⟩, b1⟩
        obtain rfl : y = false := by cases y with | false => rfl | true => exact absurd (hy.1 rfl) hn.out
        have i0 := (b1.cell (p := ⟨wo.heap.size, 0, none⟩) (World.block_lt_of_cell? _ _ i0)).trans i0
        obtain ⟨g0, g1, g2, g3, _⟩ := VA.below b1
        have v0 := (b1.cell (p := ⟨w.heap.size, 0, none⟩) (World.block_lt_of_cell? _ _ v0)).trans v0
        have v1 := (b1.cell (p := ⟨w.heap.size, 1, none⟩) (World.block_lt_of_cell? _ _ v1)).trans v1
        have VF := VF.below b1
        have b1 := bt bA b1
        clear HN hy VA
        go_wp2_with fail
        refine (refBad_any wo.heap.size (k : Nat) 7 _ i0).mono ?_
        rintro e w2 ⟨rfl, b2⟩
        obtain ⟨c0, c1, fr⟩ := VF.below b2
        have f0 := fr 0
        have f1 := fr 1
        go_wp2_with fail
        refine bodyPost_ret (v := .agg #[.int .i64 7, .int .i64 (k : Nat)]) (by simp [results, Try.results12, go_sem, c0, c1]) rfl ⟨by rw [HR.out]; rfl, ?_⟩
        exact ((bt (bt bz b1) b2).setCell (Nat.le_succ _) _).setCell (Nat.le_succ _) _
      have hn : Hid (Evt.named (nb st)) := by
        show Evt.named _
        rw [HNM.out]
        exact hn0
      by_cases r0 : a.cnt < 1
      · have HA0 : Vw.wrongA u a = 3 := Vw.wrongA_range hn0 (Or.inl r0)
        have HR : Hid (Vw.wrongV u l = (3, k)) := by
          show _ = _
          rw [HS.out, HD.out, Vw.wrongL_acc (by rw [HA0]; decide), HA0]
        clear hn0 HA0 hc
        go_wp2_with fail
        refine (HN _).mono ?_
        rintro e w1 ⟨⟨y, rfl, hy⟩, b1⟩
        obtain rfl : y = true := hy.2 hn.out
        have i0 := (b1.cell (p := ⟨wo.heap.size, 0, none⟩) (World.block_lt_of_cell? _ _ i0)).trans i0
        obtain ⟨g0, g1, g2, g3, _⟩ := VA.below b1
        have v0 := (b1.cell (p := ⟨w.heap.size, 0, none⟩) (World.block_lt_of_cell? _ _ v0)).trans v0
        have v1 := (b1.cell (p := ⟨w.heap.size, 1, none⟩) (World.block_lt_of_cell? _ _ v1)).trans v1
        have VF := VF.below b1
        have b1 := bt bA b1
        clear HN hy VA
        go_wp2_with fail
        refine (refBad_any wo.heap.size (k : Nat) 3 _ i0).mono ?_
        rintro e w2 ⟨rfl, b2⟩
        obtain ⟨c0, c1, fr⟩ := VF.below b2
        have f0 := fr 0
        have f1 := fr 1
        go_wp2_with fail
        refine bodyPost_ret (v := .agg #[.int .i64 3, .int .i64 (k : Nat)]) (by simp [results, Try.results12, go_sem, c0, c1]) rfl ⟨by rw [HR.out]; rfl, ?_⟩
        exact ((bt (bt bz b1) b2).setCell (Nat.le_succ _) _).setCell (Nat.le_succ _) _
      by_cases r1 : u < a.cnt
      · have HA0 : Vw.wrongA u a = 3 := Vw.wrongA_range hn0 (Or.inr (Or.inl r1))
        have HR : Hid (Vw.wrongV u l = (3, k)) := by
          show _ = _
          rw [HS.out, HD.out, Vw.wrongL_acc (by rw [HA0]; decide), HA0]
        clear hn0 HA0 hc
        go_wp2_with fail
        refine (HN _).mono ?_
        rintro e w1 ⟨⟨y, rfl, hy⟩, b1⟩
        obtain rfl : y = true := hy.2 hn.out
        have i0 := (b1.cell (p := ⟨wo.heap.size, 0, none⟩) (World.block_lt_of_cell? _ _ i0)).trans i0
        obtain ⟨g0, g1, g2, g3, _⟩ := VA.below b1
        have v0 := (b1.cell (p := ⟨w.heap.size, 0, none⟩) (World.block_lt_of_cell? _ _ v0)).trans v0
        have v1 := (b1.cell (p := ⟨w.heap.size, 1, none⟩) (World.block_lt_of_cell? _ _ v1)).trans v1
        have VF := VF.below b1
        have b1 := bt bA b1
        clear HN hy VA
        go_wp2_with fail
        refine (refBad_any wo.heap.size (k : Nat) 3 _ i0).mono ?_
        rintro e w2 ⟨rfl, b2⟩
        obtain ⟨c0, c1, fr⟩ := VF.below b2
        have f0 := fr 0
        have f1 := fr 1
        go_wp2_with fail
        refine bodyPost_ret (v := .agg #[.int .i64 3, .int .i64 (k : Nat)]) (by simp [results, Try.results12, go_sem, c0, c1]) rfl ⟨by rw [HR.out]; rfl, ?_⟩
        exact ((bt (bt bz b1) b2).setCell (Nat.le_succ _) _).setCell (Nat.le_succ _) _
      by_cases r2 : 1000000 * a.cnt < a.sum
      · have HA0 : Vw.wrongA u a = 3 := Vw.wrongA_range hn0 (Or.inr (Or.inr (Or.inl r2)))
        have HR : Hid (Vw.wrongV u l = (3, k)) := by
          show _ = _
          rw [HS.out, HD.out, Vw.wrongL_acc (by rw [HA0]; decide), HA0]
        have m1 : 1 ≤ a.cnt := by omega
        have m2 : a.cnt ≤ 150 := by omega
        clear hn0 HA0 hc
        go_wp2_with fail
        refine (HN _).mono ?_
        rintro e w1 ⟨⟨y, rfl, hy⟩, b1⟩
        obtain rfl : y = true := hy.2 hn.out
        have i0 := (b1.cell (p := ⟨wo.heap.size, 0, none⟩) (World.block_lt_of_cell? _ _ i0)).trans i0
        obtain ⟨g0, g1, g2, g3, _⟩ := VA.below b1
        have v0 := (b1.cell (p := ⟨w.heap.size, 0, none⟩) (World.block_lt_of_cell? _ _ v0)).trans v0
        have v1 := (b1.cell (p := ⟨w.heap.size, 1, none⟩) (World.block_lt_of_cell? _ _ v1)).trans v1
        have VF := VF.below b1
        have b1 := bt bA b1
        clear HN hy VA
        go_wp2_with fail
        refine (refBad_any wo.heap.size (k : Nat) 3 _ i0).mono ?_
        rintro e w2 ⟨rfl, b2⟩
        obtain ⟨c0, c1, fr⟩ := VF.below b2
        have f0 := fr 0
        have f1 := fr 1
        go_wp2_with fail
        refine bodyPost_ret (v := .agg #[.int .i64 3, .int .i64 (k : Nat)]) (by simp [results, Try.results12, go_sem, c0, c1]) rfl ⟨by rw [HR.out]; rfl, ?_⟩
        exact ((bt (bt bz b1) b2).setCell (Nat.le_succ _) _).setCell (Nat.le_succ _) _
      by_cases r3 : a.sum < -(1000000 * a.cnt)
      · have HA0 : Vw.wrongA u a = 3 := Vw.wrongA_range hn0 (Or.inr (Or.inr (Or.inr r3)))
        have HR : Hid (Vw.wrongV u l = (3, k)) := by
          show _ = _
          rw [HS.out, HD.out, Vw.wrongL_acc (by rw [HA0]; decide), HA0]
        have m1 : 1 ≤ a.cnt := by omega
        have m2 : a.cnt ≤ 150 := by omega
        clear hn0 HA0 hc
        go_wp2_with fail
        refine (HN _).mono ?_
        rintro e w1 ⟨⟨y, rfl, hy⟩, b1⟩
        obtain rfl : y = true := hy.2 hn.out
        have i0 := (b1.cell (p := ⟨wo.heap.size, 0, none⟩) (World.block_lt_of_cell? _ _ i0)).trans i0
        obtain ⟨g0, g1, g2, g3, _⟩ := VA.below b1
        have v0 := (b1.cell (p := ⟨w.heap.size, 0, none⟩) (World.block_lt_of_cell? _ _ v0)).trans v0
        have v1 := (b1.cell (p := ⟨w.heap.size, 1, none⟩) (World.block_lt_of_cell? _ _ v1)).trans v1
        have VF := VF.below b1
        have b1 := bt bA b1
        clear HN hy VA
        go_wp2_with fail
        refine (refBad_any wo.heap.size (k : Nat) 3 _ i0).mono ?_
        rintro e w2 ⟨rfl, b2⟩
        obtain ⟨c0, c1, fr⟩ := VF.below b2
        have f0 := fr 0
        have f1 := fr 1
        go_wp2_with fail
        refine bodyPost_ret (v := .agg #[.int .i64 3, .int .i64 (k : Nat)]) (by simp [results, Try.results12, go_sem, c0, c1]) rfl ⟨by rw [HR.out]; rfl, ?_⟩
        exact ((bt (bt bz b1) b2).setCell (Nat.le_succ _) _).setCell (Nat.le_succ _) _
      have HE0 : Hid (Vw.wrongA u a = 0) := Vw.wrongA_ok hn0 (by omega)
      have m1 : 1 ≤ a.cnt := by omega
      have m2 : a.cnt ≤ 150 := by omega
      have m3 : a.cnt ≤ u := by omega
      clear hn0
      rcases Nat.eq_zero_or_pos k with hk0 | hk0
      · have HR0 : Hid (Vw.rises (Vw.prev l k) a.name = true) := by
          show _ = _
          rw [hk0]
          rfl
        clear hc
        subst hk0
        simp only [Nat.zero_mul, Nat.add_zero] at d0 d1 d2 d3
        go_wp2_with fail
        refine (HN _).mono ?_
        rintro e w1 ⟨⟨y, rfl, hy⟩, b1⟩
        obtain rfl : y = true := hy.2 hn.out
        have i0 := (b1.cell (p := ⟨wo.heap.size, 0, none⟩) (World.block_lt_of_cell? _ _ i0)).trans i0
        obtain ⟨g0, g1, g2, g3, _⟩ := VA.below b1
        have v0 := (b1.cell (p := ⟨w.heap.size, 0, none⟩) (World.block_lt_of_cell? _ _ v0)).trans v0
        have v1 := (b1.cell (p := ⟨w.heap.size, 1, none⟩) (World.block_lt_of_cell? _ _ v1)).trans v1
        have VF := VF.below b1
        have b1 := bt bA b1
        clear HN hy VA
        go_wp2_with fail
        go_quiet (fail)
        by_cases hfit : s + a.cnt ≤ u
        · have HX : Hid (Vw.wrongV u l = Vw.wrongL u (0 + 1) (Vw.prev l (0 + 1)) (s + a.cnt) (l.drop (0 + 1))) := by
            show _ = _
            rw [HS.out, HD.out, HP.out]
            exact Vw.wrongL_next HE0.out HR0.out hfit
          have hf2 : ¬ u - s - a.cnt < 0 := by omega
          go_wp2_with fail
          exact ⟨⟨0 + 1, s + a.cnt, by omega, by go_num, val_int (by omega), by omega, hfit, HX.out, bdn (bt hbr b1) _⟩, by simp [intOf]; omega⟩
        · have HR : Hid (Vw.wrongV u l = (8, 0)) := by
            show _ = _
            rw [HS.out, HD.out]
            exact Vw.wrongL_fit HE0.out HR0.out hfit
          have hf2 : u - s - a.cnt < 0 := by omega
          go_wp2_with fail
          refine (refBad_any wo.heap.size ((0 : Nat) : Int) 8 (w1.drewN nq) i0).mono ?_
          rintro e w2 ⟨rfl, b2⟩
          obtain ⟨c0, c1, fr⟩ := (VF.below (drewN_below _ _)).below b2
          have f0 := fr 0
          have f1 := fr 1
          go_wp2_with fail
          refine bodyPost_ret (v := .agg #[.int .i64 8, .int .i64 (0 : Nat)]) (by simp [results, Try.results12, go_sem, c0, c1]) rfl ⟨by rw [HR.out]; rfl, ?_⟩
          exact ((bt (bdn (bt bz b1) _) b2).setCell (Nat.le_succ _) _).setCell (Nat.le_succ _) _
      · obtain ⟨j, rfl⟩ : ∃ j, k = j + 1 := ⟨k - 1, by omega⟩
        obtain ⟨p, hp⟩ : ∃ p, l[j]? = some p := ⟨l[j], List.getElem?_eq_getElem (by omega)⟩
        obtain ⟨b', o', hA', hin'⟩ := hc j p hp
        cases hA'
        obtain ⟨sp, hp1, hp2, e0, _, _, _⟩ := hin'.below (bt bz bA)
        have hle := leq_nb st sp
        rw [hp2, HNM.out] at hle
        have HL : Hid (Vw.rises (Vw.prev l (j + 1)) a.name = Vw.lt p.name a.name) := by
          show _ = _
          rw [Vw.prev_next hp]
          rfl
        clear hc hp2
        generalize Vw.lt p.name a.name = y at HL hle
        cases y with
        | true =>
          have hle : (Op.bytesLess st.toList sp.toList || st.toList == sp.toList) = false := hle
          go_wp2_with fail
          refine (HN _).mono ?_
          rintro e w1 ⟨⟨y, rfl, hy⟩, b1⟩
          obtain rfl : y = true := hy.2 hn.out
          have i0 := (b1.cell (p := ⟨wo.heap.size, 0, none⟩) (World.block_lt_of_cell? _ _ i0)).trans i0
          obtain ⟨g0, g1, g2, g3, _⟩ := VA.below b1
          have v0 := (b1.cell (p := ⟨w.heap.size, 0, none⟩) (World.block_lt_of_cell? _ _ v0)).trans v0
          have v1 := (b1.cell (p := ⟨w.heap.size, 1, none⟩) (World.block_lt_of_cell? _ _ v1)).trans v1
          have VF := VF.below b1
          have e0 := (b1.cell (p := ⟨b, o + j * 4, none⟩) (World.block_lt_of_cell? _ _ e0)).trans e0
          have b1 := bt bA b1
          clear HN hy VA
          go_wp2_with fail
          go_quiet (fail)
          by_cases hfit : s + a.cnt ≤ u
          · have HX : Hid (Vw.wrongV u l = Vw.wrongL u ((j + 1) + 1) (Vw.prev l ((j + 1) + 1)) (s + a.cnt) (l.drop ((j + 1) + 1))) := by
              show _ = _
              rw [HS.out, HD.out, HP.out]
              exact Vw.wrongL_next HE0.out HL.out hfit
            have hf2 : ¬ u - s - a.cnt < 0 := by omega
            go_wp2_with fail
            exact ⟨⟨(j + 1) + 1, s + a.cnt, by omega, by go_num, val_int (by omega), by omega, hfit, HX.out, bdn (bt hbr b1) _⟩, by simp [intOf]; omega⟩
          · have HR : Hid (Vw.wrongV u l = (8, (j + 1))) := by
              show _ = _
              rw [HS.out, HD.out]
              exact Vw.wrongL_fit HE0.out HL.out hfit
            have hf2 : u - s - a.cnt < 0 := by omega
            go_wp2_with fail
            refine (refBad_any wo.heap.size ((j + 1 : Nat) : Int) 8 (w1.drewN nq) i0).mono ?_
            rintro e w2 ⟨rfl, b2⟩
            obtain ⟨c0, c1, fr⟩ := (VF.below (drewN_below _ _)).below b2
            have f0 := fr 0
            have f1 := fr 1
            go_wp2_with fail
            refine bodyPost_ret (v := .agg #[.int .i64 8, .int .i64 (j + 1 : Nat)]) (by simp [results, Try.results12, go_sem, c0, c1]) rfl ⟨by rw [HR.out]; rfl, ?_⟩
            exact ((bt (bdn (bt bz b1) _) b2).setCell (Nat.le_succ _) _).setCell (Nat.le_succ _) _
        | false =>
          have hle : (Op.bytesLess st.toList sp.toList || st.toList == sp.toList) = true := hle
          have HR : Hid (Vw.wrongV u l = (2, j + 1)) := by
            show _ = _
            rw [HS.out, HD.out]
            exact Vw.wrongL_form HE0.out HL.out
          go_wp2_with fail
          refine (HN _).mono ?_
          rintro e w1 ⟨⟨y, rfl, hy⟩, b1⟩
          obtain rfl : y = true := hy.2 hn.out
          have i0 := (b1.cell (p := ⟨wo.heap.size, 0, none⟩) (World.block_lt_of_cell? _ _ i0)).trans i0
          obtain ⟨g0, g1, g2, g3, _⟩ := VA.below b1
          have v0 := (b1.cell (p := ⟨w.heap.size, 0, none⟩) (World.block_lt_of_cell? _ _ v0)).trans v0
          have v1 := (b1.cell (p := ⟨w.heap.size, 1, none⟩) (World.block_lt_of_cell? _ _ v1)).trans v1
          have VF := VF.below b1
          have e0 := (b1.cell (p := ⟨b, o + j * 4, none⟩) (World.block_lt_of_cell? _ _ e0)).trans e0
          have b1 := bt bA b1
          clear HN hy VA
          go_wp2_with fail
          go_quiet (fail)
          go_wp2_with fail
          refine (refBad_any wo.heap.size ((j + 1 : Nat) : Int) 2 (w1.drewN nq) i0).mono ?_
          rintro e w2 ⟨rfl, b2⟩
          obtain ⟨c0, c1, fr⟩ := (VF.below (drewN_below _ _)).below b2
          have f0 := fr 0
          have f1 := fr 1
          go_wp2_with fail
          refine bodyPost_ret (v := .agg #[.int .i64 2, .int .i64 (j + 1 : Nat)]) (by simp [results, Try.results12, go_sem, c0, c1]) rfl ⟨by rw [HR.out]; rfl, ?_⟩
          exact ((bt (bdn (bt bz b1) _) b2).setCell (Nat.le_succ _) _).setCell (Nat.le_succ _) _
    · obtain rfl : k = l.length := by omega
      obtain ⟨c0, c1, fr⟩ := VF.below hbr
      have f0 := fr 0
      have f1 := fr 1
      clear hc
      by_cases hsu : s = u
      · have HZ : Hid (Vw.wrongV u l = (0, 0)) := by
          show _ = _
          rw [HS.out, List.drop_length, Vw.wrongL, if_pos hsu]
        have hne : (u - s != 0) = false := by rw [bne_eq_false_iff_eq]; omega
        clear hsu
        go_wp2_with fail
        refine bodyPost_ret (v := .agg #[.int .i64 0, .int .i64 0]) (by simp [results, Try.results12, go_sem, c0, c1]) rfl ⟨by rw [HZ.out]; rfl, ?_⟩
        exact (bz.setCell (Nat.le_succ _) _).setCell (Nat.le_succ _) _
      · have HZ : Hid (Vw.wrongV u l = (8, l.length)) := by
          show _ = _
          rw [HS.out, List.drop_length, Vw.wrongL, if_neg hsu]
        have hne : (u - s != 0) = true := by rw [bne_iff_ne]; omega
        clear hsu
        go_wp2_with fail
        refine bodyPost_ret (v := .agg #[.int .i64 8, .int .i64 (l.length : Nat)]) (by simp [results, Try.results12, go_sem, c0, c1]) rfl ⟨by rw [HZ.out]; rfl, ?_⟩
        exact (bz.setCell (Nat.le_succ _) _).setCell (Nat.le_succ _) _

end Go.Proofs.Ytabolanakcmgfae
