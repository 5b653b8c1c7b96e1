/-
  What view's Wrong does, call by call.
-/
import Derived.Test.YtabolanakcmgfaeVMem
import Derived.Test.YtabolanakcmgfaeXNamed
namespace Go.Proofs.Ytabolanakcmgfae
open Go.RowKit

set_option maxHeartbeats 1000000 in
theorem wrongAcc_any (s : ByteArray) (k m : Int) (b : Bool) (u : Int) (w : World) (hs : s.size ≤ 9223372036854775807) (hu : u ≤ 150) :
    Calls Try.prog 31 #[.agg #[.string s, .int .i64 k, .int .i64 m, .bool b], .int .i64 u] w fun e w' => e = .returned (.int .i64 (Vw.wrongA u ⟨nb s, k, m, b⟩ : Nat)) ∧ Below w.heap.size w w' := by
  have HN := fun w' => named_any s w' hs
  have hb0 : Below w.heap.size w (w.alloc (.cells #[.string s, .int .i64 k, .int .i64 m, .bool b] 39)) := (Below.refl _ _).alloc (Nat.le_refl _) _
  obtain ⟨c0, c1, c2, c3, _⟩ := varA_new w 39 (.string s) (.int .i64 k) (.int .i64 m) (.bool b)
  by_cases hn0 : Evt.named (nb s)
  case neg =>
    have hn : Hid (¬ Evt.named (nb s)) := hn0
    have H : Hid (Vw.wrongA u ⟨nb s, k, m, b⟩ = 7) := Vw.wrongA_name hn0
    clear hn0
    go_enter Try.func31, Try.ntmps31
    go_wp2_with fail
    refine (HN _).mono ?_
    rintro e w1 ⟨⟨y, rfl, hy⟩, rfl⟩
    obtain rfl : y = false := by cases y with | false => rfl | true => exact absurd (hy.1 rfl) hn.out
    clear hy HN
    go_wp2_with fail
    go_ret
    exact ⟨ret_int (by rw [H.out]; rfl), hb0⟩
  have hn : Hid (Evt.named (nb s)) := hn0
  clear hn0
  by_cases q0 : m < 1
  · have H : Hid (Vw.wrongA u ⟨nb s, k, m, b⟩ = 3) := Vw.wrongA_range hn.out (Or.inl q0)
    go_enter Try.func31, Try.ntmps31
    go_wp2_with fail
    refine (HN _).mono ?_
    rintro e w1 ⟨⟨y, rfl, hy⟩, rfl⟩
    obtain rfl : y = true := hy.2 hn.out
    clear hy HN
    go_wp2_with fail
    go_ret
    exact ⟨ret_int (by rw [H.out]; rfl), hb0⟩
  by_cases q1 : u < m
  · have H : Hid (Vw.wrongA u ⟨nb s, k, m, b⟩ = 3) := Vw.wrongA_range hn.out (Or.inr (Or.inl q1))
    go_enter Try.func31, Try.ntmps31
    go_wp2_with fail
    refine (HN _).mono ?_
    rintro e w1 ⟨⟨y, rfl, hy⟩, rfl⟩
    obtain rfl : y = true := hy.2 hn.out
    clear hy HN
    go_wp2_with fail
    go_ret
    exact ⟨ret_int (by rw [H.out]; rfl), hb0⟩
  have m1 : 1 ≤ m := by omega
  have m2 : m ≤ 150 := by omega
  by_cases q2 : k < -(1000000 * m)
  · have H : Hid (Vw.wrongA u ⟨nb s, k, m, b⟩ = 3) := Vw.wrongA_range hn.out (Or.inr (Or.inr (Or.inr q2)))
    go_enter Try.func31, Try.ntmps31
    go_wp2_with fail
    refine (HN _).mono ?_
    rintro e w1 ⟨⟨y, rfl, hy⟩, rfl⟩
    obtain rfl : y = true := hy.2 hn.out
    clear hy HN
    go_wp2_with fail
    go_ret
    exact ⟨ret_int (by rw [H.out]; rfl), hb0⟩
  by_cases q3 : 1000000 * m < k
  · have H : Hid (Vw.wrongA u ⟨nb s, k, m, b⟩ = 3) := Vw.wrongA_range hn.out (Or.inr (Or.inr (Or.inl q3)))
    go_enter Try.func31, Try.ntmps31
    go_wp2_with fail
    refine (HN _).mono ?_
    rintro e w1 ⟨⟨y, rfl, hy⟩, rfl⟩
    obtain rfl : y = true := hy.2 hn.out
    clear hy HN
    go_wp2_with fail
    go_ret
    exact ⟨ret_int (by rw [H.out]; rfl), hb0⟩
  · have H : Hid (Vw.wrongA u ⟨nb s, k, m, b⟩ = 0) := Vw.wrongA_ok hn.out (show ¬ (m < 1 ∨ u < m ∨ 1000000 * m < k ∨ k < -(1000000 * m)) by omega)
    go_enter Try.func31, Try.ntmps31
    go_wp2_with fail
    refine (HN _).mono ?_
    rintro e w1 ⟨⟨y, rfl, hy⟩, rfl⟩
    obtain rfl : y = true := hy.2 hn.out
    clear hy HN
    go_wp2_with fail
    go_ret
    exact ⟨ret_int (by rw [H.out]; rfl), hb0⟩

/-- What is wrong with a view, as it is told. -/
abbrev faultV (p : Nat × Nat) : Value := .agg #[.int .i64 (p.1 : Nat), .int .i64 (p.2 : Nat)]

set_option maxHeartbeats 2000000 in
theorem viewWrong_any (u : Int) (vs : Value) (l : List Vw.Acc) (w : World) (h : Accs w vs l) :
    Calls Try.prog 11 #[.agg #[.int .i64 u, vs]] w fun e w' => e = .returned (faultV (Vw.wrongV u l)) ∧ Below w.heap.size w w' := by
  obtain ⟨A, C, rfl, hC1, hC2, hc⟩ := h
  unfold maxLen at hC2
  have hb0 : Below w.heap.size w (w.alloc (.cells #[.int .i64 u, .slice A l.length C] 33)) := (Below.refl _ _).alloc (Nat.le_refl _) _
  have hb1 : Below w.heap.size w ((w.alloc (.cells #[.int .i64 u, .slice A l.length C] 33)).alloc (.cells #[.int .i64 0, .int .i64 0] 36)) := hb0.alloc hb0.size _
  by_cases q0 : u < 0
  · have H : Hid (Vw.wrongV u l = (3, 0)) := Vw.wrongV_range (Or.inl q0)
    go_enter Try.func11, Try.ntmps11
    go_wp2_with fail
    refine bodyPost_ret (v := .agg #[.int .i64 3, .int .i64 0]) (by simp [results, Try.results11, go_sem]) rfl ⟨by rw [H.out]; rfl, ?_⟩
    exact hb0.alloc hb0.size _
  by_cases q1 : 150 < u
  · have H : Hid (Vw.wrongV u l = (3, 0)) := Vw.wrongV_range (Or.inr q1)
    go_enter Try.func11, Try.ntmps11
    go_wp2_with fail
    refine bodyPost_ret (v := .agg #[.int .i64 3, .int .i64 0]) (by simp [results, Try.results11, go_sem]) rfl ⟨by rw [H.out]; rfl, ?_⟩
    exact hb0.alloc hb0.size _
  have HE : Hid (Vw.wrongV u l = Vw.wrongL u 0 none 0 l) := Vw.wrongV_else (by omega)
  have VV := (varF_new w 33 (.int .i64 u) (.slice A l.length C)).below (hb0.mono (Nat.le_refl _) |> fun _ => ((Below.refl _ _).alloc (Nat.le_refl _) (.cells #[.int .i64 0, .int .i64 0] 36)))
  have VF := varF_new (w.alloc (.cells #[.int .i64 u, .slice A l.length C] 33)) 36 (.int .i64 0) (.int .i64 0)
  have szx : (w.alloc (.cells #[.int .i64 u, .slice A l.length C] 33)).heap.size = w.heap.size + 1 := by simp
  rw [szx] at VF
  clear szx
  go_enter Try.func11, Try.ntmps11
  obtain ⟨v0, v1, _⟩ := VV
  go_wp2_with fail
  generalize (w.alloc (.cells #[.int .i64 u, .slice A l.length C] 33)).alloc (.cells #[.int .i64 0, .int .i64 0] 36) = W0 at hb1 VF v0 v1 ⊢
  go_loopw [3, 19] (fun y x wr => ∃ (k : Nat) (s : Int), k ≤ l.length ∧ x = .int .i64 k ∧ y = .int .i64 s ∧ 0 ≤ s ∧ s ≤ u ∧ Hid (Vw.wrongV u l = Vw.wrongL u k (Vw.prev l k) s (l.drop k)) ∧ Below W0.heap.size W0 wr) (fun _ x _ => l.length - (intOf x).toNat)
  case atStart => exact ⟨0, 0, Nat.zero_le _, rfl, rfl, Int.le_refl 0, by omega, HE.out, Below.refl _ _⟩
  case round =>
    obtain ⟨k, s, hkl, rfl, rfl, s0, s1, HS, hbr⟩ := hrel
    have bz := bt hb1 hbr
    have v0 := (hbr.cell (p := ⟨w.heap.size, 0, none⟩) (World.block_lt_of_cell? _ _ v0)).trans v0
    have v1 := (hbr.cell (p := ⟨w.heap.size, 1, none⟩) (World.block_lt_of_cell? _ _ v1)).trans v1
    by_cases hlt : k < l.length
    · have hlt' : (k : Int) < (l.length : Int) := by omega
      obtain ⟨a, ha⟩ : ∃ a, l[k]? = some a := ⟨l[k], List.getElem?_eq_getElem hlt⟩
      obtain ⟨b, o, rfl, hin⟩ := hc k a ha
      obtain ⟨st, hs1, hs2, d0, d1, d2, d3⟩ := hin.below bz
      have HNM : Hid (nb st = a.name) := hs2
      have HD : Hid (l.drop k = a :: l.drop (k + 1)) := Vw.drop_at ha
      have HP : Hid (Vw.prev l (k + 1) = some a.name) := Vw.prev_next ha
      have HW := wrongAcc_any st a.sum a.cnt a.opn u (wr.alloc (.cells #[.string st, .int .i64 a.sum, .int .i64 a.cnt, .bool a.opn] 39)) hs1 q1
      rw [hs2] at HW
      have bA : Below wr.heap.size wr (wr.alloc (.cells #[.string st, .int .i64 a.sum, .int .i64 a.cnt, .bool a.opn] 39)) := (Below.refl _ _).alloc (Nat.le_refl _) _
      have VA := varA_new wr 39 (.string st) (.int .i64 a.sum) (.int .i64 a.cnt) (.bool a.opn)
      have v0a := (bA.cell (p := ⟨w.heap.size, 0, none⟩) (World.block_lt_of_cell? _ _ v0)).trans v0
      clear hs2
      by_cases hE : Vw.wrongA u a = 0
      · have HE0 : Hid (Vw.wrongA u a = 0) := hE
        rw [hE] at HW
        clear hE
        obtain ⟨m1, m2⟩ : 1 ≤ a.cnt ∧ a.cnt ≤ u := ⟨(Vw.wrongA_inv HE0.out).2.1, (Vw.wrongA_inv HE0.out).2.2.1⟩
        rcases Nat.eq_zero_or_pos k with hk0 | hk0
        · have HR0 : Hid (Vw.rises (Vw.prev l k) a.name = true) := by
            show _ = _
            rw [hk0]
            rfl
          clear hc
          subst hk0
          simp only [Nat.zero_mul, Nat.add_zero] at d0 d1 d2 d3
          go_wp2_with fail
          refine HW.mono ?_
          rintro e w1 ⟨rfl, b1x⟩
          have b1 := bt bA b1x
          obtain ⟨c0, c1, fr⟩ := (VF.below hbr).below b1
          have f0 := fr 0
          have f1 := fr 1
          obtain ⟨g0, _, g2, _, _⟩ := VA.below b1x
          have v0 := (b1.cell (p := ⟨w.heap.size, 0, none⟩) (World.block_lt_of_cell? _ _ v0)).trans v0
          have v1 := (b1.cell (p := ⟨w.heap.size, 1, none⟩) (World.block_lt_of_cell? _ _ v1)).trans v1
          clear HW VA fr
          go_wp2_with fail
          go_quiet (fail)
          by_cases hfit : s + a.cnt ≤ u
          · have HN : Hid (Vw.wrongV u l = Vw.wrongL u (0 + 1) (Vw.prev l (0 + 1)) (s + a.cnt) (l.drop (0 + 1))) := by
              show _ = _
              rw [HS.out, HD.out, HP.out]
              exact Vw.wrongL_next HE0.out HR0.out hfit
            go_wp2_with fail
            exact ⟨⟨0 + 1, s + a.cnt, by omega, by go_num, val_int (by omega), by omega, hfit, HN.out, bdn (bt hbr b1) _⟩, by simp [intOf]; omega⟩
          · have HZ : Hid (Vw.wrongV u l = (8, 0)) := by
              show _ = _
              rw [HS.out, HD.out]
              exact Vw.wrongL_fit HE0.out HR0.out hfit
            have hfit' : u < s + a.cnt := by omega
            go_wp2_with fail
            refine bodyPost_ret (v := .agg #[.int .i64 8, .int .i64 ((0 : Nat) : Int)]) (by simp [results, Try.results11, go_sem, c0, c1]) rfl ⟨by rw [HZ.out]; rfl, ?_⟩
            exact ((bdn (bt bz b1) _).setCell (Nat.le_succ _) _).setCell (Nat.le_succ _) _
        · obtain ⟨j, rfl⟩ : ∃ j, k = j + 1 := ⟨k - 1, by omega⟩
          obtain ⟨p, hp⟩ : ∃ p, l[j]? = some p := ⟨l[j], List.getElem?_eq_getElem (by omega)⟩
          obtain ⟨b', o', hA', hin'⟩ := hc j p hp
          cases hA'
          obtain ⟨sp, hp1, hp2, e0, _, _, _⟩ := hin'.below bz
          have HL : Hid (Vw.rises (Vw.prev l (j + 1)) a.name = Op.bytesLess sp.toList st.toList) := by
            show _ = _
            rw [Vw.prev_next hp, less_nb, hp2, HNM.out]
            rfl
          clear hc hp2
          generalize hy : Op.bytesLess sp.toList st.toList = y at HL
          cases y with
          | true =>
            go_wp2_with fail
            refine HW.mono ?_
            rintro e w1 ⟨rfl, b1x⟩
            have b1 := bt bA b1x
            obtain ⟨c0, c1, fr⟩ := (VF.below hbr).below b1
            have f0 := fr 0
            have f1 := fr 1
            obtain ⟨g0, _, g2, _, _⟩ := VA.below b1x
            have v0 := (b1.cell (p := ⟨w.heap.size, 0, none⟩) (World.block_lt_of_cell? _ _ v0)).trans v0
            have v1 := (b1.cell (p := ⟨w.heap.size, 1, none⟩) (World.block_lt_of_cell? _ _ v1)).trans v1
            have e0 := (b1.cell (p := ⟨b, o + j * 4, none⟩) (World.block_lt_of_cell? _ _ e0)).trans e0
            clear HW VA fr
            go_wp2_with fail
            go_quiet (fail)
            by_cases hfit : s + a.cnt ≤ u
            · have HN : Hid (Vw.wrongV u l = Vw.wrongL u ((j + 1) + 1) (Vw.prev l ((j + 1) + 1)) (s + a.cnt) (l.drop ((j + 1) + 1))) := by
                show _ = _
                rw [HS.out, HD.out, HP.out]
                exact Vw.wrongL_next HE0.out HL.out hfit
              go_wp2_with fail
              exact ⟨⟨(j + 1) + 1, s + a.cnt, by omega, by go_num, val_int (by omega), by omega, hfit, HN.out, bdn (bt hbr b1) _⟩, by simp [intOf]; omega⟩
            · have HZ : Hid (Vw.wrongV u l = (8, (j + 1))) := by
                show _ = _
                rw [HS.out, HD.out]
                exact Vw.wrongL_fit HE0.out HL.out hfit
              have hfit' : u < s + a.cnt := by omega
              go_wp2_with fail
              refine bodyPost_ret (v := .agg #[.int .i64 8, .int .i64 (((j + 1) : Nat) : Int)]) (by simp [results, Try.results11, go_sem, c0, c1]) rfl ⟨by rw [HZ.out]; rfl, ?_⟩
              exact ((bdn (bt bz b1) _).setCell (Nat.le_succ _) _).setCell (Nat.le_succ _) _
          | false =>
            have HZ : Hid (Vw.wrongV u l = (2, j + 1)) := by
              show _ = _
              rw [HS.out, HD.out]
              exact Vw.wrongL_form HE0.out HL.out
            go_wp2_with fail
            refine HW.mono ?_
            rintro e w1 ⟨rfl, b1x⟩
            have b1 := bt bA b1x
            obtain ⟨c0, c1, fr⟩ := (VF.below hbr).below b1
            have f0 := fr 0
            have f1 := fr 1
            obtain ⟨g0, _, g2, _, _⟩ := VA.below b1x
            have v0 := (b1.cell (p := ⟨w.heap.size, 0, none⟩) (World.block_lt_of_cell? _ _ v0)).trans v0
            have v1 := (b1.cell (p := ⟨w.heap.size, 1, none⟩) (World.block_lt_of_cell? _ _ v1)).trans v1
            have e0 := (b1.cell (p := ⟨b, o + j * 4, none⟩) (World.block_lt_of_cell? _ _ e0)).trans e0
            clear HW VA fr
            go_wp2_with fail
            go_quiet (fail)
            go_wp2_with fail
            refine bodyPost_ret (v := .agg #[.int .i64 2, .int .i64 ((j + 1 : Nat) : Int)]) (by simp [results, Try.results11, go_sem, c0, c1]) rfl ⟨by rw [HZ.out]; rfl, ?_⟩
            exact ((bdn (bt bz b1) _).setCell (Nat.le_succ _) _).setCell (Nat.le_succ _) _
      · have HR : Hid (Vw.wrongV u l = (Vw.wrongA u a, k)) := by
          show _ = _
          rw [HS.out, HD.out]
          exact Vw.wrongL_acc hE
        generalize Vw.wrongA u a = x at HW HR hE
        have hx' : ((x : Int) == 0) = false := by rw [beq_eq_false_iff_ne]; omega
        have hxn : ((x : Int) != 0) = true := by rw [bne, hx']; rfl
        clear hE hc
        go_wp2_with fail
        refine HW.mono ?_
        rintro e w1 ⟨rfl, b1⟩
        have b1 := bt bA b1
        obtain ⟨c0, c1, fr⟩ := (VF.below hbr).below b1
        have f0 := fr 0
        have f1 := fr 1
        clear HW
        go_wp2_with fail
        refine bodyPost_ret (v := .agg #[.int .i64 (x : Nat), .int .i64 (k : Nat)]) (by simp [results, Try.results11, go_sem, c0, c1]) rfl ⟨by rw [HR.out], ?_⟩
        exact ((bt bz b1).setCell (Nat.le_succ _) _).setCell (Nat.le_succ _) _
    · obtain rfl : k = l.length := by omega
      obtain ⟨c0, c1, fr⟩ := VF.below hbr
      have f0 := fr 0
      have f1 := fr 1
      clear hc
      by_cases hsu : s = u
      · have HZ : Hid (Vw.wrongV u l = (0, 0)) := by
          show _ = _
          rw [HS.out, List.drop_length, Vw.wrongL, if_pos hsu]
        have hne : (s != u) = false := by rw [bne_eq_false_iff_eq]; exact hsu
        clear hsu
        go_wp2_with fail
        refine bodyPost_ret (v := .agg #[.int .i64 0, .int .i64 0]) (by simp [results, Try.results11, go_sem, c0, c1]) rfl ⟨by rw [HZ.out]; rfl, ?_⟩
        exact (bz.setCell (Nat.le_succ _) _).setCell (Nat.le_succ _) _
      · have HZ : Hid (Vw.wrongV u l = (8, l.length)) := by
          show _ = _
          rw [HS.out, List.drop_length, Vw.wrongL, if_neg hsu]
        have hne : (s != u) = true := by rw [bne_iff_ne]; exact hsu
        clear hsu
        go_wp2_with fail
        refine bodyPost_ret (v := .agg #[.int .i64 8, .int .i64 (l.length : Nat)]) (by simp [results, Try.results11, go_sem, c0, c1]) rfl ⟨by rw [HZ.out]; rfl, ?_⟩
        exact (bz.setCell (Nat.le_succ _) _).setCell (Nat.le_succ _) _

end Go.Proofs.Ytabolanakcmgfae
