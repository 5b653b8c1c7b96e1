/-
  Texts of the proof, joined: VWrong, VGet.
-/
import Derived.Test.YtmcaejooaaahdaaGreatZ18
import Derived.Test.YtmcaejooaaahdaaGreatZ16
namespace Go.Proofs.YtmcaejooaaahdaaGreat
open Go.RowKit

set_option maxHeartbeats 1000000 in
theorem wrongAcc_any (s : ByteArray) (k m : Int) (b : Bool) (u : Int) (w : World) (hs : s.size ≤ 9223372036854775807) (hu : u ≤ 150) :
    Calls Tryz.prog 103 #[.agg #[.string s, .int .i64 k, .int .i64 m, .bool b], .int .i64 u] w fun e w' => e = .returned (.int .i64 (Vw.wrongA u ⟨nb s, k, m, b⟩ : Nat)) ∧ Below w.heap.size w w' := by
  have HN := fun w' => named_any s w' hs
  have hb0 : Below w.heap.size w (w.alloc (.cells #[.string s, .int .i64 k, .int .i64 m, .bool b] 93)) := (Below.refl _ _).alloc (Nat.le_refl _) _
  obtain ⟨c0, c1, c2, c3, _⟩ := varA_new w 93 (.string s) (.int .i64 k) (.int .i64 m) (.bool b)
  by_cases hn0 : Evt.named (nb s)
  case neg =>
    have hn : Hid (¬ Evt.named (nb s)) := hn0
    have H : Hid (Vw.wrongA u ⟨nb s, k, m, b⟩ = 7) := Vw.wrongA_name hn0
    clear hn0
    go_enter Tryz.func103, Tryz.ntmps103
    go_wp2_with fail
    refine (HN _).mono ?_
    rintro e w1 ⟨⟨y, rfl, hy⟩, rfl⟩
    obtain rfl : y = false := by cases y with | false => rfl | true => exact absurd (hy.1 rfl) hn.out
    clear hy HN
    go_wp2_with fail
    go_ret
    exact ⟨ret_int (by rw [H.out]; rfl), hb0⟩
  have hn : Hid (Evt.named (nb s)) := hn0
  clear hn0
  by_cases q0 : m < 1
  · have H : Hid (Vw.wrongA u ⟨nb s, k, m, b⟩ = 3) := Vw.wrongA_range hn.out (Or.inl q0)
    go_enter Tryz.func103, Tryz.ntmps103
    go_wp2_with fail
    refine (HN _).mono ?_
    rintro e w1 ⟨⟨y, rfl, hy⟩, rfl⟩
    obtain rfl : y = true := hy.2 hn.out
    clear hy HN
    go_wp2_with fail
    go_ret
    exact ⟨ret_int (by rw [H.out]; rfl), hb0⟩
  by_cases q1 : u < m
  · have H : Hid (Vw.wrongA u ⟨nb s, k, m, b⟩ = 3) := Vw.wrongA_range hn.out (Or.inr (Or.inl q1))
    go_enter Tryz.func103, Tryz.ntmps103
    go_wp2_with fail
    refine (HN _).mono ?_
    rintro e w1 ⟨⟨y, rfl, hy⟩, rfl⟩
    obtain rfl : y = true := hy.2 hn.out
    clear hy HN
    go_wp2_with fail
    go_ret
    exact ⟨ret_int (by rw [H.out]; rfl), hb0⟩
  have m1 : 1 ≤ m := by omega
  have m2 : m ≤ 150 := by omega
  by_cases q2 : k < -(1000000 * m)
  · have H : Hid (Vw.wrongA u ⟨nb s, k, m, b⟩ = 3) := Vw.wrongA_range hn.out (Or.inr (Or.inr (Or.inr q2)))
    go_enter Tryz.func103, Tryz.ntmps103
    go_wp2_with fail
    refine (HN _).mono ?_
    rintro e w1 ⟨⟨y, rfl, hy⟩, rfl⟩
    obtain rfl : y = true := hy.2 hn.out
    clear hy HN
    go_wp2_with fail
    go_ret
    exact ⟨ret_int (by rw [H.out]; rfl), hb0⟩
  by_cases q3 : 1000000 * m < k
  · have H : Hid (Vw.wrongA u ⟨nb s, k, m, b⟩ = 3) := Vw.wrongA_range hn.out (Or.inr (Or.inr (Or.inl q3)))
    go_enter Tryz.func103, Tryz.ntmps103
    go_wp2_with fail
    refine (HN _).mono ?_
    rintro e w1 ⟨⟨y, rfl, hy⟩, rfl⟩
    obtain rfl : y = true := hy.2 hn.out
    clear hy HN
    go_wp2_with fail
    go_ret
    exact ⟨ret_int (by rw [H.out]; rfl), hb0⟩
  · have H : Hid (Vw.wrongA u ⟨nb s, k, m, b⟩ = 0) := Vw.wrongA_ok hn.out (show ¬ (m < 1 ∨ u < m ∨ 1000000 * m < k ∨ k < -(1000000 * m)) by omega)
    go_enter Tryz.func103, Tryz.ntmps103
    go_wp2_with fail
    refine (HN _).mono ?_
    rintro e w1 ⟨⟨y, rfl, hy⟩, rfl⟩
    obtain rfl : y = true := hy.2 hn.out
    clear hy HN
    go_wp2_with fail
    go_ret
    exact ⟨ret_int (by rw [H.out]; rfl), hb0⟩

/-- What is wrong with a view, as it is told. -/
abbrev faultV (p : Nat × Nat) : Value := .agg #[.int .i64 (p.1 : Nat), .int .i64 (p.2 : Nat)]

set_option maxHeartbeats 2000000 in
theorem viewWrong_any (u : Int) (vs : Value) (l : List Vw.Acc) (w : World) (h : Accs w vs l) :
    Calls Tryz.prog 74 #[.agg #[.int .i64 u, vs]] w fun e w' => e = .returned (faultV (Vw.wrongV u l)) ∧ Below w.heap.size w w' := by
  obtain ⟨A, C, rfl, hC1, hC2, hc⟩ := h
  unfold maxLen at hC2
  have hb0 : Below w.heap.size w (w.alloc (.cells #[.int .i64 u, .slice A l.length C] 30)) := (Below.refl _ _).alloc (Nat.le_refl _) _
  have hb1 : Below w.heap.size w ((w.alloc (.cells #[.int .i64 u, .slice A l.length C] 30)).alloc (.cells #[.int .i64 0, .int .i64 0] 78)) := hb0.alloc hb0.size _
  by_cases q0 : u < 0
  · have H : Hid (Vw.wrongV u l = (3, 0)) := Vw.wrongV_range (Or.inl q0)
    go_enter Tryz.func74, Tryz.ntmps74
    go_wp2_with fail
    refine bodyPost_ret (v := .agg #[.int .i64 3, .int .i64 0]) (by simp [results, Tryz.results74, go_sem]) rfl ⟨by rw [H.out]; rfl, ?_⟩
    exact hb0.alloc hb0.size _
  by_cases q1 : 150 < u
  · have H : Hid (Vw.wrongV u l = (3, 0)) := Vw.wrongV_range (Or.inr q1)
    go_enter Tryz.func74, Tryz.ntmps74
    go_wp2_with fail
    refine bodyPost_ret (v := .agg #[.int .i64 3, .int .i64 0]) (by simp [results, Tryz.results74, go_sem]) rfl ⟨by rw [H.out]; rfl, ?_⟩
    exact hb0.alloc hb0.size _
  have HE : Hid (Vw.wrongV u l = Vw.wrongL u 0 none 0 l) := Vw.wrongV_else (by omega)
  have VV := (varF_new w 30 (.int .i64 u) (.slice A l.length C)).below (hb0.mono (Nat.le_refl _) |> fun _ => ((Below.refl _ _).alloc (Nat.le_refl _) (.cells #[.int .i64 0, .int .i64 0] 78)))
  have VF := varF_new (w.alloc (.cells #[.int .i64 u, .slice A l.length C] 30)) 78 (.int .i64 0) (.int .i64 0)
  have szx : (w.alloc (.cells #[.int .i64 u, .slice A l.length C] 30)).heap.size = w.heap.size + 1 := by simp
  rw [szx] at VF
  clear szx
  go_enter Tryz.func74, Tryz.ntmps74
  obtain ⟨v0, v1, _⟩ := VV
  go_wp2_with fail
  generalize (w.alloc (.cells #[.int .i64 u, .slice A l.length C] 30)).alloc (.cells #[.int .i64 0, .int .i64 0] 78) = W0 at hb1 VF v0 v1 ⊢
  go_loopw [3, 19] (fun y x wr => ∃ (k : Nat) (s : Int), k ≤ l.length ∧ x = .int .i64 k ∧ y = .int .i64 s ∧ 0 ≤ s ∧ s ≤ u ∧ Hid (Vw.wrongV u l = Vw.wrongL u k (Vw.prev l k) s (l.drop k)) ∧ Below W0.heap.size W0 wr) (fun _ x _ => l.length - (intOf x).toNat)
  case atStart => exact ⟨0, 0, Nat.zero_le _, rfl, rfl, Int.le_refl 0, by omega, HE.out, Below.refl _ _⟩
  case round =>
    obtain ⟨k, s, hkl, rfl, rfl, s0, s1, HS, hbr⟩ := hrel
    have bz := bt hb1 hbr
    have v0 := (hbr.cell (p := ⟨w.heap.size, 0, none⟩) (World.block_lt_of_cell? _ _ v0)).trans v0
    have v1 := (hbr.cell (p := ⟨w.heap.size, 1, none⟩) (World.block_lt_of_cell? _ _ v1)).trans v1
    by_cases hlt : k < l.length
    · have hlt' : (k : Int) < (l.length : Int) := by omega
      obtain ⟨a, ha⟩ : ∃ a, l[k]? = some a := ⟨l[k], List.getElem?_eq_getElem hlt⟩
      obtain ⟨b, o, rfl, hin⟩ := hc k a ha
      obtain ⟨st, hs1, hs2, d0, d1, d2, d3⟩ := hin.below bz
      have HNM : Hid (nb st = a.name) := hs2
      have HD : Hid (l.drop k = a :: l.drop (k + 1)) := Vw.drop_at ha
      have HP : Hid (Vw.prev l (k + 1) = some a.name) := Vw.prev_next ha
      have HW := wrongAcc_any st a.sum a.cnt a.opn u (wr.alloc (.cells #[.string st, .int .i64 a.sum, .int .i64 a.cnt, .bool a.opn] 93)) hs1 q1
      rw [hs2] at HW
      have bA : Below wr.heap.size wr (wr.alloc (.cells #[.string st, .int .i64 a.sum, .int .i64 a.cnt, .bool a.opn] 93)) := (Below.refl _ _).alloc (Nat.le_refl _) _
      have VA := varA_new wr 93 (.string st) (.int .i64 a.sum) (.int .i64 a.cnt) (.bool a.opn)
      have v0a := (bA.cell (p := ⟨w.heap.size, 0, none⟩) (World.block_lt_of_cell? _ _ v0)).trans v0
      clear hs2
      by_cases hE : Vw.wrongA u a = 0
      · have HE0 : Hid (Vw.wrongA u a = 0) := hE
        rw [hE] at HW
        clear hE
        obtain ⟨m1, m2⟩ : 1 ≤ a.cnt ∧ a.cnt ≤ u := ⟨(Vw.wrongA_inv HE0.out).2.1, (Vw.wrongA_inv HE0.out).2.2.1⟩
        rcases Nat.eq_zero_or_pos k with hk0 | hk0
        · have HR0 : Hid (Vw.rises (Vw.prev l k) a.name = true) := by
            show _ = _
            rw [hk0]
            rfl
          clear hc
          subst hk0
          simp only [Nat.zero_mul, Nat.add_zero] at d0 d1 d2 d3
          go_wp2_with fail
          refine HW.mono ?_
          rintro e w1 ⟨rfl, b1x⟩
          have b1 := bt bA b1x
          obtain ⟨c0, c1, fr⟩ := (VF.below hbr).below b1
          have f0 := fr 0
          have f1 := fr 1
          obtain ⟨g0, _, g2, _, _⟩ := VA.below b1x
          have v0 := (b1.cell (p := ⟨w.heap.size, 0, none⟩) (World.block_lt_of_cell? _ _ v0)).trans v0
          have v1 := (b1.cell (p := ⟨w.heap.size, 1, none⟩) (World.block_lt_of_cell? _ _ v1)).trans v1
          clear HW VA fr
          go_wp2_with fail
          go_quiet (fail)
          by_cases hfit : s + a.cnt ≤ u
          · have HN : Hid (Vw.wrongV u l = Vw.wrongL u (0 + 1) (Vw.prev l (0 + 1)) (s + a.cnt) (l.drop (0 + 1))) := by
              show _ = _
              rw [HS.out, HD.out, HP.out]
              exact Vw.wrongL_next HE0.out HR0.out hfit
            go_wp2_with fail
            exact ⟨⟨0 + 1, s + a.cnt, by omega, by go_num, val_int (by omega), by omega, hfit, HN.out, bdn (bt hbr b1) _⟩, by simp [intOf]; omega⟩
          · have HZ : Hid (Vw.wrongV u l = (8, 0)) := by
              show _ = _
              rw [HS.out, HD.out]
              exact Vw.wrongL_fit HE0.out HR0.out hfit
            have hfit' : u < s + a.cnt := by omega
            go_wp2_with fail
            refine bodyPost_ret (v := .agg #[.int .i64 8, .int .i64 ((0 : Nat) : Int)]) (by simp [results, Tryz.results74, go_sem, c0, c1]) rfl ⟨by rw [HZ.out]; rfl, ?_⟩
            exact ((bdn (bt bz b1) _).setCell (Nat.le_succ _) _).setCell (Nat.le_succ _) _
        · obtain ⟨j, rfl⟩ : ∃ j, k = j + 1 := ⟨k - 1, by omega⟩
          obtain ⟨p, hp⟩ : ∃ p, l[j]? = some p := ⟨l[j], List.getElem?_eq_getElem (by omega)⟩
          obtain ⟨b', o', hA', hin'⟩ := hc j p hp
          cases hA'
          obtain ⟨sp, hp1, hp2, e0, _, _, _⟩ := hin'.below bz
          have HL : Hid (Vw.rises (Vw.prev l (j + 1)) a.name = Op.bytesLess sp.toList st.toList) := by
            show _ = _
            rw [Vw.prev_next hp, less_nb, hp2, HNM.out]
            rfl
          clear hc hp2
          generalize hy : Op.bytesLess sp.toList st.toList = y at HL
          cases y with
          | true =>
            go_wp2_with fail
            refine HW.mono ?_
            rintro e w1 ⟨rfl, b1x⟩
            have b1 := bt bA b1x
            obtain ⟨c0, c1, fr⟩ := (VF.below hbr).below b1
            have f0 := fr 0
            have f1 := fr 1
            obtain ⟨g0, _, g2, _, _⟩ := VA.below b1x
            have v0 := (b1.cell (p := ⟨w.heap.size, 0, none⟩) (World.block_lt_of_cell? _ _ v0)).trans v0
            have v1 := (b1.cell (p := ⟨w.heap.size, 1, none⟩) (World.block_lt_of_cell? _ _ v1)).trans v1
            have e0 := (b1.cell (p := ⟨b, o + j * 4, none⟩) (World.block_lt_of_cell? _ _ e0)).trans e0
            clear HW VA fr
            go_wp2_with fail
            go_quiet (fail)
            by_cases hfit : s + a.cnt ≤ u
            · have HN : Hid (Vw.wrongV u l = Vw.wrongL u ((j + 1) + 1) (Vw.prev l ((j + 1) + 1)) (s + a.cnt) (l.drop ((j + 1) + 1))) := by
                show _ = _
                rw [HS.out, HD.out, HP.out]
                exact Vw.wrongL_next HE0.out HL.out hfit
              go_wp2_with fail
              exact ⟨⟨(j + 1) + 1, s + a.cnt, by omega, by go_num, val_int (by omega), by omega, hfit, HN.out, bdn (bt hbr b1) _⟩, by simp [intOf]; omega⟩
            · have HZ : Hid (Vw.wrongV u l = (8, (j + 1))) := by
                show _ = _
                rw [HS.out, HD.out]
                exact Vw.wrongL_fit HE0.out HL.out hfit
              have hfit' : u < s + a.cnt := by omega
              go_wp2_with fail
              refine bodyPost_ret (v := .agg #[.int .i64 8, .int .i64 (((j + 1) : Nat) : Int)]) (by simp [results, Tryz.results74, go_sem, c0, c1]) rfl ⟨by rw [HZ.out]; rfl, ?_⟩
              exact ((bdn (bt bz b1) _).setCell (Nat.le_succ _) _).setCell (Nat.le_succ _) _
          | false =>
            have HZ : Hid (Vw.wrongV u l = (2, j + 1)) := by
              show _ = _
              rw [HS.out, HD.out]
              exact Vw.wrongL_form HE0.out HL.out
            go_wp2_with fail
            refine HW.mono ?_
            rintro e w1 ⟨rfl, b1x⟩
            have b1 := bt bA b1x
            obtain ⟨c0, c1, fr⟩ := (VF.below hbr).below b1
            have f0 := fr 0
            have f1 := fr 1
            obtain ⟨g0, _, g2, _, _⟩ := VA.below b1x
            have v0 := (b1.cell (p := ⟨w.heap.size, 0, none⟩) (World.block_lt_of_cell? _ _ v0)).trans v0
            have v1 := (b1.cell (p := ⟨w.heap.size, 1, none⟩) (World.block_lt_of_cell? _ _ v1)).trans v1
            have e0 := (b1.cell (p := ⟨b, o + j * 4, none⟩) (World.block_lt_of_cell? _ _ e0)).trans e0
            clear HW VA fr
            go_wp2_with fail
            go_quiet (fail)
            go_wp2_with fail
            refine bodyPost_ret (v := .agg #[.int .i64 2, .int .i64 ((j + 1 : Nat) : Int)]) (by simp [results, Tryz.results74, go_sem, c0, c1]) rfl ⟨by rw [HZ.out]; rfl, ?_⟩
            exact ((bdn (bt bz b1) _).setCell (Nat.le_succ _) _).setCell (Nat.le_succ _) _
      · have HR : Hid (Vw.wrongV u l = (Vw.wrongA u a, k)) := by
          show _ = _
          rw [HS.out, HD.out]
          exact Vw.wrongL_acc hE
        generalize Vw.wrongA u a = x at HW HR hE
        have hx' : ((x : Int) == 0) = false := by rw [beq_eq_false_iff_ne]; omega
        have hxn : ((x : Int) != 0) = true := by rw [bne, hx']; rfl
        clear hE hc
        go_wp2_with fail
        refine HW.mono ?_
        rintro e w1 ⟨rfl, b1⟩
        have b1 := bt bA b1
        obtain ⟨c0, c1, fr⟩ := (VF.below hbr).below b1
        have f0 := fr 0
        have f1 := fr 1
        clear HW
        go_wp2_with fail
        refine bodyPost_ret (v := .agg #[.int .i64 (x : Nat), .int .i64 (k : Nat)]) (by simp [results, Tryz.results74, go_sem, c0, c1]) rfl ⟨by rw [HR.out], ?_⟩
        exact ((bt bz b1).setCell (Nat.le_succ _) _).setCell (Nat.le_succ _) _
    · obtain rfl : k = l.length := by omega
      obtain ⟨c0, c1, fr⟩ := VF.below hbr
      have f0 := fr 0
      have f1 := fr 1
      clear hc
      by_cases hsu : s = u
      · have HZ : Hid (Vw.wrongV u l = (0, 0)) := by
          show _ = _
          rw [HS.out, List.drop_length, Vw.wrongL, if_pos hsu]
        have hne : (s != u) = false := by rw [bne_eq_false_iff_eq]; exact hsu
        clear hsu
        go_wp2_with fail
        refine bodyPost_ret (v := .agg #[.int .i64 0, .int .i64 0]) (by simp [results, Tryz.results74, go_sem, c0, c1]) rfl ⟨by rw [HZ.out]; rfl, ?_⟩
        exact (bz.setCell (Nat.le_succ _) _).setCell (Nat.le_succ _) _
      · have HZ : Hid (Vw.wrongV u l = (8, l.length)) := by
          show _ = _
          rw [HS.out, List.drop_length, Vw.wrongL, if_neg hsu]
        have hne : (s != u) = true := by rw [bne_iff_ne]; exact hsu
        clear hsu
        go_wp2_with fail
        refine bodyPost_ret (v := .agg #[.int .i64 8, .int .i64 (l.length : Nat)]) (by simp [results, Tryz.results74, go_sem, c0, c1]) rfl ⟨by rw [HZ.out]; rfl, ?_⟩
        exact (bz.setCell (Nat.le_succ _) _).setCell (Nat.le_succ _) _

end Go.Proofs.YtmcaejooaaahdaaGreat

namespace Go.Proofs.YtmcaejooaaahdaaGreat
open Go.RowKit

theorem Tryz.enters_getEq : ∀ args w, (callFunc 73 args).run Tryz.prog w = .ok (.enter 73 args) w := enters_of Tryz.func73 (by kernel_rfl) rfl

set_option maxHeartbeats 400000 in
set_option maxRecDepth 100000 in
theorem getEq_any (p : Nat) (s t : ByteArray) (k m : Int) (b : Bool) (w : World) (hc : w.cell? ⟨p, 0, none⟩ = some (.string t)) :
    Calls Tryz.prog 73 #[.agg #[.string s, .int .i64 k, .int .i64 m, .bool b], .pointer (some ⟨p, 0, none⟩)] w fun e w' => e = .returned (.bool (s.toList == t.toList)) ∧ Below w.heap.size w w' := by
  have hb0 : Below w.heap.size w (w.alloc (.cells #[.string s, .int .i64 k, .int .i64 m, .bool b] 93)) := (Below.refl _ _).alloc (Nat.le_refl _) _
  have hc' := (hb0.cell (p := ⟨p, 0, none⟩) (World.block_lt_of_cell? _ _ hc)).trans hc
  obtain ⟨c0, _, _, _, _⟩ := varA_new w 93 (.string s) (.int .i64 k) (.int .i64 m) (.bool b)
  go_enter Tryz.func73, Tryz.ntmps73
  go_wp2_with fail
  go_ret
  exact ⟨rfl, hb0⟩

/-- Where the first account of that name is. -/
def FirstA (l : List Vw.Acc) (n : List Nat) (i : Int) : Prop := (i = -1 ∧ Vw.get l n = Vw.fresh n) ∨ ∃ (r : Nat) (a : Vw.Acc), l[r]? = some a ∧ i = (r : Int) ∧ Vw.get l n = a
theorem get_skip : ∀ {l : List Vw.Acc} {n : List Nat} {k : Nat}, (∀ j a, j < k → l[j]? = some a → a.name ≠ n) → Vw.get l n = Vw.get (l.drop k) n
  | _, _, 0, _ => rfl
  | [], _, k + 1, _ => rfl
  | x :: r, n, k + 1, h => by
    rw [Vw.get, if_neg (h 0 x (Nat.succ_pos k) rfl), List.drop_succ_cons]
    exact get_skip (fun j a hj ha => h (j + 1) a (by omega) (by simpa using ha))
theorem get_at {l : List Vw.Acc} {n : List Nat} {k : Nat} {a : Vw.Acc} (h : ∀ j a, j < k → l[j]? = some a → a.name ≠ n) (ha : l[k]? = some a) (hn : a.name = n) : Vw.get l n = a := by
  rw [get_skip h, Vw.drop_at ha, Vw.get, if_pos hn]

set_option maxHeartbeats 1000000 in
set_option maxRecDepth 100000 in
theorem indexA_any (p : Nat) (t : ByteArray) (vs : Value) (l : List Vw.Acc) (w : World) (h : Accs w vs l) (hc : w.cell? ⟨p, 0, none⟩ = some (.string t)) :
    Calls Tryz.prog 72 #[vs, .func (.func 73) #[] #[.pointer (some ⟨p, 0, none⟩)]] w fun e w' => ∃ i : Int, e = .returned (.int .i64 i) ∧ FirstA l (nb t) i ∧ Below w.heap.size w w' := by
  have hln := h.len
  have eg := Tryz.enters_getEq
  obtain ⟨A, C, rfl, _, _, ha⟩ := h
  go_enter Tryz.func72, Tryz.ntmps72
  go_wp2_with fail
  go_loopw [8] (fun i wr => ∃ k : Nat, k ≤ l.length ∧ i = .int .i64 k ∧ Hid (∀ j a, j < k → l[j]? = some a → a.name ≠ nb t) ∧ Below w.heap.size w wr) (fun i _ => l.length - (intOf i).toNat)
  case atStart => exact ⟨0, Nat.zero_le _, rfl, fun j a hj => absurd hj (Nat.not_lt_zero j), Below.refl _ _⟩
  case round =>
    obtain ⟨k, hk, rfl, HS, hb⟩ := hrel
    by_cases hlt : k < l.length
    · have hlt' : (k : Int) < (l.length : Int) := by omega
      obtain ⟨a, hak⟩ : ∃ a, l[k]? = some a := ⟨l[k], List.getElem?_eq_getElem hlt⟩
      obtain ⟨b, o, rfl, hin⟩ := ha k a hak
      obtain ⟨s, hs1, hs2, d0, d1, d2, d3⟩ := hin.below hb
      have HK : Hid (l[k]? = some a ∧ nb s = a.name) := ⟨hak, hs2⟩
      have HC := getEq_any p s t a.sum a.cnt a.opn wr ((hb.cell (p := ⟨p, 0, none⟩) (World.block_lt_of_cell? _ _ hc)).trans hc)
      have HY : Hid ((s.toList == t.toList) = decide (nb s = nb t)) := same_nb s t
      clear ha hak hs2 hin
      generalize (s.toList == t.toList) = y at HC HY
      cases y with
      | true =>
        have HF : Hid (FirstA l (nb t) (k : Int)) := Or.inr ⟨k, a, HK.out.1, rfl, get_at HS.out HK.out.1 (HK.out.2.symm.trans (of_decide_eq_true HY.out.symm))⟩
        go_wp2_with fail
        refine HC.mono ?_
        rintro e w1 ⟨rfl, hb1⟩
        clear HC
        go_wp2_with fail
        go_ret
        exact ⟨_, rfl, HF.out, bt hb hb1⟩
      | false =>
        have HN : Hid (a.name ≠ nb t) := fun e => of_decide_eq_false HY.out.symm (HK.out.2.trans e)
        go_wp2_with fail
        refine HC.mono ?_
        rintro e w1 ⟨rfl, hb1⟩
        clear HC
        go_wp2_with fail
        refine ⟨⟨k + 1, by omega, by go_num, fun j x hj hx => ?_, bt hb hb1⟩, by simp [intOf]; omega⟩
        by_cases e : j = k
        · rw [e, HK.out.1] at hx
          cases hx
          exact HN.out
        · exact HS.out j x (by omega) hx
    · obtain rfl : k = l.length := by omega
      have HF : Hid (FirstA l (nb t) (-1)) := Or.inl ⟨rfl, by rw [get_skip HS.out, List.drop_length]; rfl⟩
      clear ha
      go_wp2_with fail
      go_ret
      exact ⟨_, rfl, HF.out, hb⟩

/-- An account is told. -/
def GetO (e : Ending) (a : Vw.Acc) : Prop := ∃ v, e = .returned v ∧ AcV v a

set_option maxHeartbeats 1000000 in
set_option maxRecDepth 100000 in
theorem get_any (u : Int) (t : ByteArray) (vs : Value) (l : List Vw.Acc) (w : World) (h : Accs w vs l) (ht : t.size ≤ 9223372036854775807) :
    Calls Tryz.prog 43 #[.agg #[.int .i64 u, vs], .string t] w fun e w' => GetO e (Vw.get l (nb t)) ∧ Below w.heap.size w w' := by
  obtain ⟨A, C, rfl⟩ := h.shape
  have h1 : Below w.heap.size w (w.alloc (.cells #[.int .i64 u, .slice A l.length C] 30)) := (Below.refl _ _).alloc (Nat.le_refl _) _
  have h2 := h1.alloc h1.size (.cells #[.string t] 9)
  have h3 := h2.alloc h2.size (.cells #[.string (ByteArray.mk #[]), .int .i64 0, .int .i64 0, .bool false] 93)
  have hA := h.below h3
  have v1 : (((w.alloc (.cells #[.int .i64 u, .slice A l.length C] 30)).alloc (.cells #[.string t] 9)).alloc (.cells #[.string (ByteArray.mk #[]), .int .i64 0, .int .i64 0, .bool false] 93)).cell? ⟨w.heap.size, 1, none⟩ = some (.slice A l.length C) := by go_simp
  have t0 : (((w.alloc (.cells #[.int .i64 u, .slice A l.length C] 30)).alloc (.cells #[.string t] 9)).alloc (.cells #[.string (ByteArray.mk #[]), .int .i64 0, .int .i64 0, .bool false] 93)).cell? ⟨w.heap.size + 1, 0, none⟩ = some (.string t) := by go_simp
  have VA := varA_new ((w.alloc (.cells #[.int .i64 u, .slice A l.length C] 30)).alloc (.cells #[.string t] 9)) 93 (.string (ByteArray.mk #[])) (.int .i64 0) (.int .i64 0) (.bool false)
  have szx : ((w.alloc (.cells #[.int .i64 u, .slice A l.length C] 30)).alloc (.cells #[.string t] 9)).heap.size = w.heap.size + 1 + 1 := by simp
  rw [szx] at VA
  clear szx h1 h2 h
  go_enter Tryz.func43, Tryz.ntmps43
  go_wp2_with fail
  generalize ((w.alloc (.cells #[.int .i64 u, .slice A l.length C] 30)).alloc (.cells #[.string t] 9)).alloc (.cells #[.string (ByteArray.mk #[]), .int .i64 0, .int .i64 0, .bool false] 93) = W at h3 hA v1 t0 VA ⊢
  refine (indexA_any (w.heap.size + 1) t (.slice A l.length C) l W hA t0).mono ?_
  rintro e w1 ⟨i, rfl, HF, b1⟩
  have hA := hA.below b1
  have v1 := (b1.cell (p := ⟨w.heap.size, 1, none⟩) (World.block_lt_of_cell? _ _ v1)).trans v1
  have t0 := (b1.cell (p := ⟨w.heap.size + 1, 0, none⟩) (World.block_lt_of_cell? _ _ t0)).trans t0
  obtain ⟨g0, g1, g2, g3, fr⟩ := VA.below b1
  have f0 := fr 0
  have f1 := fr 1
  have f2 := fr 2
  have f3 := fr 3
  clear VA fr
  rcases HF with ⟨rfl, hg⟩ | ⟨r, a, hr, rfl, hg⟩
  · have HG : Hid (Vw.get l (nb t) = Vw.fresh (nb t)) := hg
    clear hg hA
    go_wp2_with fail
    refine bodyPost_ret (v := .agg #[.string t, .int .i64 0, .int .i64 0, .bool false]) (by simp [results, Tryz.results43, go_sem, g0, g1, g2, g3]) rfl ⟨⟨_, rfl, ?_⟩, ?_⟩
    · rw [HG.out]
      exact ⟨t, ht, rfl, rfl⟩
    · exact ((((bt h3 b1).setCell (by show w.heap.size ≤ w.heap.size + 1 + 1; omega) _).setCell (by show w.heap.size ≤ w.heap.size + 1 + 1; omega) _).setCell (by show w.heap.size ≤ w.heap.size + 1 + 1; omega) _).setCell (by show w.heap.size ≤ w.heap.size + 1 + 1; omega) _
  · have HG : Hid (Vw.get l (nb t) = a) := hg
    have hrl : r < l.length := (List.getElem?_eq_some_iff.1 hr).1
    have hln := hA.len
    obtain ⟨b, o, C', hv, _, _, hin⟩ := hA.some (by omega)
    cases hv
    obtain ⟨s, hs1, hs2, d0, d1, d2, d3⟩ := hin r a hr
    have HN : Hid (nb s = a.name) := hs2
    have hr0 : ¬ (r : Int) < 0 := by omega
    have hrl' : (r : Int) < (l.length : Int) := by omega
    clear hg hA hr hs2 hin
    go_wp2_with fail
    refine bodyPost_ret (v := .agg #[.string s, .int .i64 a.sum, .int .i64 a.cnt, .bool a.opn]) (by simp [results, Tryz.results43, go_sem, g0, g1, g2, g3]) rfl ⟨⟨_, rfl, ?_⟩, ?_⟩
    · rw [HG.out]
      exact ⟨s, hs1, HN.out, rfl⟩
    · exact ((((bt h3 b1).setCell (by show w.heap.size ≤ w.heap.size + 1 + 1; omega) _).setCell (by show w.heap.size ≤ w.heap.size + 1 + 1; omega) _).setCell (by show w.heap.size ≤ w.heap.size + 1 + 1; omega) _).setCell (by show w.heap.size ≤ w.heap.size + 1 + 1; omega) _

/-- A bool is told. -/
theorem may_1 {a : Vw.Acc} {e : Evt.Ev} (h : e.kind = 1) : Vw.may a e = !a.opn := if_pos h
theorem may_24 {a : Vw.Acc} {e : Evt.Ev} (h : e.kind = 2 ∨ e.kind = 4) : Vw.may a e = a.opn := by unfold Vw.may; rw [if_neg (by omega), if_pos h]
theorem may_3 {a : Vw.Acc} {e : Evt.Ev} (h : e.kind = 3) : Vw.may a e = (a.opn && decide (e.num ≤ a.sum)) := by unfold Vw.may; rw [if_neg (by omega), if_neg (by omega), if_pos h]
theorem may_no {a : Vw.Acc} {e : Evt.Ev} (h1 : e.kind ≠ 1) (h2 : e.kind ≠ 2) (h3 : e.kind ≠ 3) (h4 : e.kind ≠ 4) : Vw.may a e = false := by unfold Vw.may; rw [if_neg h1, if_neg (by omega), if_neg h3]

set_option maxHeartbeats 1000000 in
set_option maxRecDepth 100000 in
theorem may_any (s s' : ByteArray) (S c k m : Int) (b : Bool) (w : World) :
    Calls Tryz.prog 104 #[.agg #[.string s, .int .i64 S, .int .i64 c, .bool b], .agg #[.string s', .int .i64 k, .int .i64 m]] w fun e w' => e = .returned (.bool (Vw.may ⟨nb s, S, c, b⟩ ⟨nb s', k, m⟩)) ∧ Below w.heap.size w w' := by
  have h1 : Below w.heap.size w (w.alloc (.cells #[.string s, .int .i64 S, .int .i64 c, .bool b] 93)) := (Below.refl _ _).alloc (Nat.le_refl _) _
  have h2 := h1.alloc h1.size (.cells #[.string s', .int .i64 k, .int .i64 m] 83)
  by_cases q1 : k = 1
  · have H : Hid (Vw.may ⟨nb s, S, c, b⟩ ⟨nb s', k, m⟩ = !b) := may_1 q1
    subst q1
    go_enter Tryz.func104, Tryz.ntmps104
    go_wp2_with fail
    go_ret
    exact ⟨by rw [H.out]; rfl, h2⟩
  have e1 : (k == 1) = false := by rw [beq_eq_false_iff_ne]; exact q1
  by_cases q2 : k = 2
  · have H : Hid (Vw.may ⟨nb s, S, c, b⟩ ⟨nb s', k, m⟩ = b) := may_24 (Or.inl q2)
    subst q2
    clear q1 e1
    go_enter Tryz.func104, Tryz.ntmps104
    go_wp2_with fail
    go_ret
    exact ⟨by rw [H.out]; rfl, h2⟩
  have e2 : (k == 2) = false := by rw [beq_eq_false_iff_ne]; exact q2
  by_cases q4 : k = 4
  · have H : Hid (Vw.may ⟨nb s, S, c, b⟩ ⟨nb s', k, m⟩ = b) := may_24 (Or.inr q4)
    subst q4
    clear q1 e1 q2 e2
    go_enter Tryz.func104, Tryz.ntmps104
    go_wp2_with fail
    go_ret
    exact ⟨by rw [H.out]; rfl, h2⟩
  have e4 : (k == 4) = false := by rw [beq_eq_false_iff_ne]; exact q4
  by_cases q3 : k = 3
  · have H : Hid (Vw.may ⟨nb s, S, c, b⟩ ⟨nb s', k, m⟩ = (b && decide (m ≤ S))) := may_3 q3
    subst q3
    clear q1 e1 q2 e2 q4 e4
    cases b with
    | false =>
      go_enter Tryz.func104, Tryz.ntmps104
      go_wp2_with fail
      go_ret
      exact ⟨by rw [H.out]; rfl, h2⟩
    | true =>
      go_enter Tryz.func104, Tryz.ntmps104
      go_wp2_with fail
      go_ret
      exact ⟨by rw [H.out]; rfl, h2⟩
  have e3 : (k == 3) = false := by rw [beq_eq_false_iff_ne]; exact q3
  have H : Hid (Vw.may ⟨nb s, S, c, b⟩ ⟨nb s', k, m⟩ = false) := may_no q1 q2 q3 q4
  clear q1 q2 q3 q4
  go_enter Tryz.func104, Tryz.ntmps104
  go_wp2_with fail
  go_ret
  exact ⟨by rw [H.out]; rfl, h2⟩

end Go.Proofs.YtmcaejooaaahdaaGreat
