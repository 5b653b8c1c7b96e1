/-
  Texts of the proof, joined: JPut.
-/
import Derived.Test.YtmcaejooaaahdaaGreatZ69
namespace Go.Proofs.YtmcaejooaaahdaaGreat
open Go.RowKit

set_option maxHeartbeats 8000000 in
set_option maxRecDepth 100000 in
theorem refPut_any {X : Sto.Six} (hX : Sto.SixOk X) (c : Sto.Cfg) (s : Sto.St) (vd vt vs va : Value) (d : Sto.Do) (ve : Value) (t : ByteArray) (T : Nat → Bool) (w : World) (h : StIn (blank T w) vd vt vs va s) (hw : WfJ c s) (hd : DoIn (blank T w) d ve t) (hpv : PlainV vs) (hT : ∀ k, T k = true → k < w.heap.size) :
    Calls Tryz.prog 32 #[stC c vd s vt vs va, .agg (doCells d ve t).toArray] w fun e w' => StepO e T w w' c (Sto.put X c s d) := by
  have HS0 : Hid (StIn (blank T w) vd vt vs va s) := h
  have HS : Hid (StIn w vd vt vs va s) := h.sub (blank_sub T w)
  have HWF : Hid (WfJ c s) := hw
  have HD0 : Hid (DoIn (blank T w) d ve t) := hd
  have HDI : Hid (DoIn w d ve t) := hd.sub (blank_sub T w)
  have HT : Hid (∀ k, T k = true → k < w.heap.size) := hT
  have HX : Hid (Sto.SixOk X) := hX
  have HPV : Hid (PlainV vs) := hpv
  obtain ⟨Ad, nd, Cd, rfl⟩ := dks_shape h.dk
  obtain ⟨At, nt, Ct, rfl⟩ := bats_shape h.tl
  obtain ⟨As, ns, Cs, rfl⟩ := nms_shape h.sn
  obtain ⟨Aa, na, Ca, rfl⟩ := accs_shape h.ac
  obtain ⟨Ae, ne, Ce, rfl⟩ : ∃ A n C, ve = .slice A n C := by
    obtain ⟨A, C, h⟩ := hd.evs.shape
    exact ⟨A, _, C, h⟩
  obtain ⟨r, hr⟩ : ∃ r, r = Sto.put X c s d := ⟨_, rfl⟩
  have HRR : Hid (Sto.put X c s d = r) := hr.symm
  rw [← hr]
  change Calls Tryz.prog 32 #[stA (c.d : Int) (c.s : Int) (c.b : Int) (.slice Ad nd Cd) (s.segs : Int) (.slice At nt Ct) (.slice As ns Cs) s.u (.slice Aa na Ca), .agg #[.int .i64 d.kind, .int .i64 d.n, .int .i64 d.seg, .int .i64 d.pos, .int .u8 (d.turn : Int), .int .i64 d.bat.cmd, .slice Ae ne Ce, .string t, .int .i64 d.ver]] w _
  have HNOF : Hid (∀ (E : Nat) (n : Int), r = (s, ⟨E, n, [], 0, []⟩) → ∀ w', Below w.heap.size w w' → StepO (.returned (.tuple #[stA (c.d : Int) (c.s : Int) (c.b : Int) (.slice Ad nd Cd) (s.segs : Int) (.slice At nt Ct) (.slice As ns Cs) s.u (.slice Aa na Ca), .agg #[.int .i64 (E : Nat), .int .i64 n, .slice none 0 0, .int .i64 0, .slice none 0 0]])) T w w' c r) := fun E n e w' hb => by
    rw [e]
    exact stepO_no HS0.out HPV.out hb E n
  have PJ0 := pj_new w #[.int .i64 (c.d : Int), .int .i64 (c.s : Int), .int .i64 (c.b : Int), .slice Ad nd Cd, .int .i64 (s.segs : Int), .slice At nt Ct, .slice As ns Cs, .int .i64 s.u, .slice Aa na Ca] #[.int .i64 d.kind, .int .i64 d.n, .int .i64 d.seg, .int .i64 d.pos, .int .u8 (d.turn : Int), .int .i64 d.bat.cmd, .slice Ae ne Ce, .string t, .int .i64 d.ver]
  have eg := Tryz.enters_noP
  clear h hw hd hX hr hpv hT
  go_enter Tryz.func32, Tryz.ntmps32
  go_upto_region 1 with fail
  obtain ⟨w1, hw1⟩ : ∃ q, q = (((w.alloc (.cells #[.int .i64 (c.d : Int), .int .i64 (c.s : Int), .int .i64 (c.b : Int), .slice Ad nd Cd, .int .i64 (s.segs : Int), .slice At nt Ct, .slice As ns Cs, .int .i64 s.u, .slice Aa na Ca] 32)).alloc (.cells #[.int .i64 d.kind, .int .i64 d.n, .int .i64 d.seg, .int .i64 d.pos, .int .u8 (d.turn : Int), .int .i64 d.bat.cmd, .slice Ae ne Ce, .string t, .int .i64 d.ver] 49)).alloc (.cells zStA 32)).alloc (.cells zAnA 42) := ⟨_, rfl⟩
  rw [← hw1] at PJ0 ⊢
  clear hw1
  have PJ0 : PJ w w1 (stL c (.slice Ad nd Cd) (s.segs : Int) (.slice At nt Ct) (.slice As ns Cs) s.u (.slice Aa na Ca)) (doCells d (.slice Ae ne Ce) t) := PJ0
  have HP0 : Hid (PJ w w1 (stL c (.slice Ad nd Cd) (s.segs : Int) (.slice At nt Ct) (.slice As ns Cs) s.u (.slice Aa na Ca)) (doCells d (.slice Ae ne Ce) t)) := PJ0
  have d5 := PJ0.dc.cell (i := 5) rfl
  have d6 := PJ0.dc.cell (i := 6) rfl
  have HWB := refWrongB_any d.bat.cmd (.slice Ae ne Ce) d.bat.evs w1 (HDI.out.evs.below PJ0.bel)
  have HE0 : Hid (∀ y, y = (Evt.wrongB ⟨d.bat.cmd, d.bat.evs⟩).1 → y = (Evt.wrongB d.bat).1) := fun y hy => hy
  generalize (Evt.wrongB ⟨d.bat.cmd, d.bat.evs⟩).2 = E2 at HWB
  obtain ⟨E, hE⟩ : ∃ E, E = (Evt.wrongB ⟨d.bat.cmd, d.bat.evs⟩).1 := ⟨_, rfl⟩
  rw [← hE] at HWB
  have HE : Hid (E = (Evt.wrongB d.bat).1) := HE0.out E hE
  clear hE HE0 PJ0
  go_wp2_with fail
  refine HWB.mono ?_
  rintro e w2 ⟨rfl, b2⟩
  have bF : Below w2.heap.size w2 (w2.alloc (.cells #[.int .i64 (E : Nat), .int .i64 (E2 : Nat)] 78)) := (Below.refl _ _).alloc (Nat.le_refl _) _
  have PJ3 := (HP0.out.below b2).below bF
  have VF := varN_new w2 #[.int .i64 (E : Nat), .int .i64 (E2 : Nat)] 78
  clear HWB b2 bF d5 d6 HP0
  go_upto_region 3 with fail
  obtain ⟨w3, hw3⟩ : ∃ q, q = w2.alloc (.cells #[.int .i64 (E : Nat), .int .i64 (E2 : Nat)] 78) := ⟨_, rfl⟩
  rw [← hw3] at PJ3 VF ⊢
  obtain ⟨F7, hF7⟩ : ∃ q, q = w2.heap.size := ⟨_, rfl⟩
  rw [← hF7] at VF ⊢
  have v0 := VF.cell (i := 0) rfl
  clear hw3 hF7 VF
  by_cases hE0 : E = 0
  case neg =>
    have HFN : Hid (∀ w', Below w.heap.size w w' → StepO (.returned (.tuple #[stA (c.d : Int) (c.s : Int) (c.b : Int) (.slice Ad nd Cd) (s.segs : Int) (.slice At nt Ct) (.slice As ns Cs) s.u (.slice Aa na Ca), .agg #[.int .i64 (E : Nat), .int .i64 0, .slice none 0 0, .int .i64 0, .slice none 0 0]])) T w w' c r) := HNOF.out E 0 (by
      rw [← HRR.out, put_wrong (by rw [← HE.out]; exact hE0), ← HE.out]
      rfl)
    have hEn : ((E : Int) != 0) = true := by rw [bne_iff_ne]; omega
    have HNO := noP_any w.heap.size E (c.d : Int) (c.s : Int) (c.b : Int) (s.segs : Int) s.u Ad nd Cd At nt Ct As ns Cs Aa na Ca _ (PJ3).st
    have HPJ : Hid (PJ w w3 (stL c (.slice Ad nd Cd) (s.segs : Int) (.slice At nt Ct) (.slice As ns Cs) s.u (.slice Aa na Ca)) (doCells d (.slice Ae ne Ce) t)) := PJ3
    clear hE0 HNOF PJ3 HRR
    go_wp2_with fail
    refine HNO.mono ?_
    rintro e wn ⟨rfl, bn⟩
    have PJn := HPJ.out.below bn
    obtain ⟨x0, x1, x2, x3, x4, x5, x6, x7, x8, p0, p1, p2, p3, p4, p5, p6, p7, p8, y0, y1, y2, y3, y4, q0, q1, q2, q3, q4⟩ := PJn.res
    have HBN := PJn.bel
    clear HNO HPJ PJn bn
    go_wp2_with fail
    refine bodyPost_ret (v := .tuple #[stA (c.d : Int) (c.s : Int) (c.b : Int) (.slice Ad nd Cd) (s.segs : Int) (.slice At nt Ct) (.slice As ns Cs) s.u (.slice Aa na Ca), .agg #[.int .i64 (E : Nat), .int .i64 0, .slice none 0 0, .int .i64 0, .slice none 0 0]]) (by simp [results, Tryz.results32, go_sem, x0, x1, x2, x3, x4, x5, x6, x7, x8, y0, y1, y2, y3, y4]) rfl ?_
    exact HFN.out _ (noB HBN (by omega) (by omega) _ _ _ _ _ _ _ _ _ _ _ _ _ _)
  case pos =>
    have HW0 : Hid ((Evt.wrongB d.bat).1 = 0) := by rw [← HE.out]; exact hE0
    subst hE0
    have HP3 : Hid (PJ w w3 (stL c (.slice Ad nd Cd) (s.segs : Int) (.slice At nt Ct) (.slice As ns Cs) s.u (.slice Aa na Ca)) (doCells d (.slice Ae ne Ce) t)) := PJ3
    have c6 := PJ3.st.cell (i := 6) rfl
    obtain ⟨Cs', hs0, hs1, hs2⟩ : ∃ C', Value.slice As ns Cs = .slice As s.seen.length C' ∧ s.seen.length ≤ C' ∧ C' ≤ maxLen := by
      obtain ⟨A, C, q1, q2, q3, _⟩ := HS.out.sn
      cases q1
      exact ⟨_, rfl, q2, q3⟩
    cases hs0
    have HNM : Hid (∀ i x, s.seen[i]? = some x → ∃ b o, As = some ⟨b, o, none⟩ ∧ w3.cell? ⟨b, o + i, none⟩ = some (.int .i64 x)) := fun i x hx => by
      obtain ⟨A, C, q1, q2, q3, q4⟩ := HS.out.sn.below HP3.out.bel
      cases q1
      exact q4 i x hx
    obtain ⟨m, hm⟩ : ∃ m, m = s.seen.length := ⟨_, rfl⟩
    have HM : Hid (m = s.seen.length) := hm
    have hs2 : Cs ≤ 9223372036854775807 := by unfold maxLen at hs2; exact hs2
    have hm150 : m ≤ 150 := by rw [hm]; exact HWF.out.seen
    have hcc : w3.cell? ⟨w.heap.size + 1, 5, none⟩ = some (.int .i64 d.bat.cmd) := PJ3.dc.cell (i := 5) rfl
    have HCM : Hid (w3.cell? ⟨w.heap.size + 1, 5, none⟩ = some (.int .i64 d.bat.cmd)) := hcc
    rw [← hm] at c6 hs1
    clear PJ3 hm HE
    go_wp2_with fail
    clear c6 v0
    go_loopw [8, 34] (fun v8 x wr => ∃ k : Nat, k ≤ m ∧ x = .int .i64 k ∧ v8 = .int .i64 ((Sto.below d.bat.cmd (s.seen.take k) : Nat) : Int) ∧ Hid (d.bat.cmd ∉ s.seen.take k) ∧ wr = w3) (fun _ x _ => m - (intOf x).toNat)
    case atStart => exact ⟨0, Nat.zero_le _, rfl, rfl, (fun z => by cases z), rfl⟩
    case round =>
      obtain ⟨k, hk, rfl, rfl, HN, rfl⟩ := hrel
      by_cases hlt : k < m
      · have hlt' : (k : Int) < (m : Int) := by omega
        obtain ⟨x, hx⟩ : ∃ x, s.seen[k]? = some x := ⟨s.seen[k]'(by rw [← HM.out]; exact hlt), List.getElem?_eq_getElem _⟩
        obtain ⟨b, o, rfl, hcx⟩ := HNM.out k x hx
        by_cases hxc : x = d.bat.cmd
        · have HFN : Hid (∀ w', Below w.heap.size w w' → StepO (.returned (.tuple #[stA (c.d : Int) (c.s : Int) (c.b : Int) (.slice Ad nd Cd) (s.segs : Int) (.slice At nt Ct) (.slice (some ⟨b, o, none⟩) m Cs) s.u (.slice Aa na Ca), .agg #[.int .i64 0, .int .i64 s.u, .slice none 0 0, .int .i64 0, .slice none 0 0]])) T w w' c r) := by
            have := HNOF.out 0 s.u (by
              rw [← HRR.out, put_seen HW0.out (by rw [← hxc]; exact List.mem_of_getElem? hx)]
              rfl)
            rw [← HM.out] at this
            exact this
          have PJn := HP3.out
          rw [← HM.out] at PJn
          obtain ⟨a0, a1, a2, a3, a4, a5, a6, a7, a8⟩ := PJn.st.c9
          obtain ⟨x0, x1, x2, x3, x4, x5, x6, x7, x8, p0, p1, p2, p3, p4, p5, p6, p7, p8, y0, y1, y2, y3, y4, q0, q1, q2, q3, q4⟩ := PJn.res
          have HBN := PJn.bel
          have hkk : (x == d.bat.cmd) = true := beq_iff_eq.2 hxc
          clear PJn HP3 HNOF HRR HNM hx HN hxc
          go_upto_region 10 with fail
          go_region
          go_wp2_with fail
          refine bodyPost_ret (v := .tuple #[stA (c.d : Int) (c.s : Int) (c.b : Int) (.slice Ad nd Cd) (s.segs : Int) (.slice At nt Ct) (.slice (some ⟨b, o, none⟩) m Cs) s.u (.slice Aa na Ca), .agg #[.int .i64 0, .int .i64 s.u, .slice none 0 0, .int .i64 0, .slice none 0 0]]) (by simp [results, Tryz.results32, go_sem, x0, x1, x2, x3, x4, x5, x6, x7, x8, y0, y1, y2, y3, y4]) rfl ?_
          exact HFN.out _ (noB HBN (by omega) (by omega) _ _ _ _ _ _ _ _ _ _ _ _ _ _).drew
        · have hkk : (x == d.bat.cmd) = false := by rw [beq_eq_false_iff_ne]; exact hxc
          have hnx := below_next (cmd := d.bat.cmd) hx
          have HN2 : Hid (d.bat.cmd ∉ s.seen.take (k + 1)) := fun z => by
            rw [List.take_add_one, hx] at z
            rcases List.mem_append.1 z with y | y
            · exact HN.out y
            · have y : d.bat.cmd = x := by simpa using y
              exact hxc y.symm
          have hbk : Sto.below d.bat.cmd (s.seen.take k) ≤ k := by
            unfold Sto.below
            have := List.length_filter_le (fun x => decide (x < d.bat.cmd)) (s.seen.take k)
            rw [List.length_take] at this
            omega
          by_cases hlc : x < d.bat.cmd
          · rw [if_pos hlc] at hnx
            have HNE : Hid (Sto.below d.bat.cmd (s.seen.take (k + 1)) = Sto.below d.bat.cmd (s.seen.take k) + 1) := hnx
            generalize Sto.below d.bat.cmd (s.seen.take k) = q at *
            clear hx HN hxc hnx
            go_wp2_with fail
            exact ⟨⟨k + 1, by omega, by go_num, by rw [HNE.out]; go_num, HN2, trivial⟩, by simp [intOf]; omega⟩
          · rw [if_neg hlc, Nat.add_zero] at hnx
            have HNE : Hid (Sto.below d.bat.cmd (s.seen.take (k + 1)) = Sto.below d.bat.cmd (s.seen.take k)) := hnx
            generalize Sto.below d.bat.cmd (s.seen.take k) = q at *
            clear hx HN hxc hnx
            go_wp2_with fail
            exact ⟨⟨k + 1, by omega, by go_num, by rw [HNE.out], HN2, trivial⟩, by simp [intOf]; omega⟩
      · obtain rfl : k = m := by omega
        have HNS : Hid (d.bat.cmd ∉ s.seen) := by
          have := HN.out
          rw [HM.out, List.take_length] at this
          exact this
        have HAT : Hid (Sto.below d.bat.cmd (s.seen.take k) = Sto.below d.bat.cmd s.seen) := by
          show Sto.below d.bat.cmd (s.seen.take k) = _
          rw [HM.out, List.take_length]
        have hbk : Sto.below d.bat.cmd (s.seen.take k) ≤ k := by
          unfold Sto.below
          have := List.length_filter_le (fun x => decide (x < d.bat.cmd)) (s.seen.take k)
          rw [List.length_take] at this
          omega
        generalize Sto.below d.bat.cmd (s.seen.take k) = at9 at *
        have PJ5 := HP3.out
        have hns : s.seen.length = k := HM.out.symm
        rw [hns] at PJ5
        have hna : na = s.acc.length := by
          obtain ⟨A, C, q⟩ := HS.out.ac.shape
          cases q
          rfl
        have c7 := PJ5.st.cell (i := 7) rfl
        have c8 := PJ5.st.cell (i := 8) rfl
        have e7 := PJ5.dc.cell (i := 7) rfl
        have e8 := PJ5.dc.cell (i := 8) rfl
        have HP5 : Hid (PJ w wr (stL c (.slice Ad nd Cd) (s.segs : Int) (.slice At nt Ct) (.slice As k Cs) s.u (.slice Aa na Ca)) (doCells d (.slice Ae ne Ce) t)) := PJ5
        obtain ⟨old, hold⟩ : ∃ y, y = decide (0 ≤ d.ver ∧ d.ver ≠ (Vw.get s.acc d.name).cnt) := ⟨_, rfl⟩
        have HOLD : Hid (old = decide (0 ≤ d.ver ∧ d.ver ≠ (Vw.get s.acc d.name).cnt)) := hold
        have HGT := refGet_any s.u t (.slice Aa na Ca) s.acc wr.drew ((HS.out.ac.below PJ5.bel).below (Below.refl _ _).drew) HDI.out.sz
        rw [HDI.out.name] at HGT
        unfold GetO AcV at HGT
        clear HP3 PJ5 hold HN HNM hns hna
        go_upto_region 14 with fail
        go_cut [69] from 56 to 69 (fun v69 wx => v69 = .bool old ∧ Hid (Below wr.heap.size wr wx))
        case first =>
          by_cases hv : 0 ≤ d.ver
          · have HOB : Hid (old = (d.ver != (Vw.get s.acc d.name).cnt)) := by
              show old = (d.ver != (Vw.get s.acc d.name).cnt)
              rw [HOLD.out]
              by_cases q : d.ver = (Vw.get s.acc d.name).cnt
              · rw [decide_eq_false (fun z => z.2 q), q]
                simp
              · rw [decide_eq_true ⟨hv, q⟩]
                exact (bne_iff_ne.2 q).symm
            have hvd : decide (d.ver ≥ 0) = true := decide_eq_true hv
            have TD : wr.drew.cell? ⟨w.heap.size, 7, none⟩ = some (.int .i64 s.u) ∧ wr.drew.cell? ⟨w.heap.size, 8, none⟩ = some (.slice Aa na Ca) ∧ wr.drew.cell? ⟨w.heap.size + 1, 7, none⟩ = some (.string t) ∧ wr.drew.cell? ⟨w.heap.size + 1, 8, none⟩ = some (.int .i64 d.ver) ∧ Below wr.heap.size wr wr.drew := ⟨c7, c8, e7, e8, (Below.refl _ _).drew⟩
            have HSo : ∀ w', Below wr.heap.size wr w' → w'.cell? ⟨w.heap.size, 7, none⟩ = some (.int .i64 s.u) ∧ w'.cell? ⟨w.heap.size, 8, none⟩ = some (.slice Aa na Ca) ∧ w'.cell? ⟨w.heap.size + 1, 7, none⟩ = some (.string t) ∧ w'.cell? ⟨w.heap.size + 1, 8, none⟩ = some (.int .i64 d.ver) ∧ Below wr.heap.size wr w' := fun w' hb => ⟨(HP5.out.st.below hb).cell (i := 7) rfl, (HP5.out.st.below hb).cell (i := 8) rfl, (HP5.out.dc.below hb).cell (i := 7) rfl, (HP5.out.dc.below hb).cell (i := 8) rfl, hb⟩
            have hfc := fun s2 a2 o2 w' => field_acc2 s2 a2 (Vw.get s.acc d.name).cnt o2 w'
            generalize (Vw.get s.acc d.name).cnt = cn at HOB HGT hfc
            go_region_held3 (fun w' => w'.cell? ⟨w.heap.size, 7, none⟩ = some (.int .i64 s.u) ∧ w'.cell? ⟨w.heap.size, 8, none⟩ = some (.slice Aa na Ca) ∧ w'.cell? ⟨w.heap.size + 1, 7, none⟩ = some (.string t) ∧ w'.cell? ⟨w.heap.size + 1, 8, none⟩ = some (.int .i64 d.ver) ∧ Below wr.heap.size wr w')
              (first | with_reducible exact TD | with_reducible assumption)
              (first | (go_at_call 60; refine HGT.mono ?_; rintro e6 w6 ⟨⟨v6, rfl, s6, _, _, rfl⟩, b6⟩; have S6 := HSo w6 (bt (Below.refl _ _).drew b6)))
            go_wp2_with fail
            go_meet
            exact ⟨by rw [HOB.out], S6.2.2.2.2⟩
          · have hvd : decide (d.ver ≥ 0) = false := decide_eq_false hv
            have hold : old = false := by
              rw [HOLD.out]
              exact decide_eq_false fun z => hv z.1
            subst hold
            clear HGT
            go_quiet (fail)
            go_wp2_with fail
            go_meet
            exact ⟨rfl, bdn (Below.refl _ _) _⟩
        case rest =>
          obtain ⟨rfl, hbc⟩ := hcut
          obtain ⟨w6, hw6⟩ : ∃ y, y = wc := ⟨wc, rfl⟩
          rw [← hw6] at hbc ⊢
          have PJ6 := HP5.out.below hbc.out
          clear hw6 HP5 HGT c7 c8 e7 e8 hbc
          cases old with
          | true =>
            have HFN : Hid (∀ w', Below w.heap.size w w' → StepO (.returned (.tuple #[stA (c.d : Int) (c.s : Int) (c.b : Int) (.slice Ad nd Cd) (s.segs : Int) (.slice At nt Ct) (.slice As k Cs) s.u (.slice Aa na Ca), .agg #[.int .i64 ((11 : Nat) : Int), .int .i64 0, .slice none 0 0, .int .i64 0, .slice none 0 0]])) T w w' c r) := by
              have := HNOF.out 11 0 (by
                rw [← HRR.out, put_old HW0.out HNS.out (of_decide_eq_true HOLD.out.symm)]
                rfl)
              rw [← HM.out] at this
              exact this
            have HNO := noP_any w.heap.size 11 (c.d : Int) (c.s : Int) (c.b : Int) (s.segs : Int) s.u Ad nd Cd At nt Ct As k Cs Aa na Ca _ (PJ6).st
            have HPJ : Hid (PJ w w6 (stL c (.slice Ad nd Cd) (s.segs : Int) (.slice At nt Ct) (.slice As k Cs) s.u (.slice Aa na Ca)) (doCells d (.slice Ae ne Ce) t)) := PJ6
            clear HNOF PJ6 HRR
            go_wp2_with fail
            refine HNO.mono ?_
            rintro e wn ⟨rfl, bn⟩
            have PJn := HPJ.out.below bn
            obtain ⟨x0, x1, x2, x3, x4, x5, x6, x7, x8, p0, p1, p2, p3, p4, p5, p6, p7, p8, y0, y1, y2, y3, y4, q0, q1, q2, q3, q4⟩ := PJn.res
            have HBN := PJn.bel
            clear HNO HPJ PJn bn
            go_wp2_with fail
            refine bodyPost_ret (v := .tuple #[stA (c.d : Int) (c.s : Int) (c.b : Int) (.slice Ad nd Cd) (s.segs : Int) (.slice At nt Ct) (.slice As k Cs) s.u (.slice Aa na Ca), .agg #[.int .i64 (11 : Nat), .int .i64 0, .slice none 0 0, .int .i64 0, .slice none 0 0]]) (by simp [results, Tryz.results32, go_sem, x0, x1, x2, x3, x4, x5, x6, x7, x8, y0, y1, y2, y3, y4]) rfl ?_
            exact HFN.out _ (noB HBN (by omega) (by omega) _ _ _ _ _ _ _ _ _ _ _ _ _ _)
          | false =>
            have HNV : Hid (¬ (0 ≤ d.ver ∧ d.ver ≠ (Vw.get s.acc d.name).cnt)) := of_decide_eq_false HOLD.out.symm
            have c7 := PJ6.st.cell (i := 7) rfl
            have c8 := PJ6.st.cell (i := 8) rfl
            have e6 := PJ6.dc.cell (i := 6) rfl
            have HFO := refFold_any s.u (.slice Aa na Ca) (.slice Ae ne Ce) s.acc d.bat.evs w6 (HS.out.ac.below PJ6.bel) (HDI.out.evs.below PJ6.bel)
            obtain ⟨fo, hfo⟩ : ∃ q, q = Vw.fold s.u s.acc d.bat.evs := ⟨_, rfl⟩
            rw [← hfo] at HFO
            have HFOE : Hid (fo = Vw.fold s.u s.acc d.bat.evs) := hfo
            obtain ⟨⟨E4, i4⟩, u4, l4⟩ := fo
            unfold FoR faultV at HFO
            have HP6 : Hid (PJ w w6 (stL c (.slice Ad nd Cd) (s.segs : Int) (.slice At nt Ct) (.slice As k Cs) s.u (.slice Aa na Ca)) (doCells d (.slice Ae ne Ce) t)) := PJ6
            clear HOLD hfo PJ6
            go_wp2_with fail
            refine HFO.mono ?_
            rintro e w7 ⟨⟨v7, rfl, hA7, hP7⟩, b7⟩
            obtain ⟨Av, nv, Cv, rfl⟩ := accs_shape hA7
            have HPA : Hid (Past (w.heap.size + 1 + 1 + 1 + 1) (.slice Av nv Cv) ∨ (Value.slice Av nv Cv = .slice Aa na Ca ∧ l4 = s.acc)) := hP7.imp (fun z => z.mono HP6.out.size) id
            have bV : Below w7.heap.size w7 (w7.alloc (.cells #[.int .i64 u4, .slice Av nv Cv] 30)) := (Below.refl _ _).alloc (Nat.le_refl _) _
            have bW : Below (w7.alloc (.cells #[.int .i64 u4, .slice Av nv Cv] 30)).heap.size (w7.alloc (.cells #[.int .i64 u4, .slice Av nv Cv] 30)) ((w7.alloc (.cells #[.int .i64 u4, .slice Av nv Cv] 30)).alloc (.cells #[.int .i64 (E4 : Nat), .int .i64 (i4 : Nat)] 78)) := (Below.refl _ _).alloc (Nat.le_refl _) _
            have VV := (varN_new w7 #[.int .i64 u4, .slice Av nv Cv] 30).below bW
            have VF := varN_new (w7.alloc (.cells #[.int .i64 u4, .slice Av nv Cv] 30)) #[.int .i64 (E4 : Nat), .int .i64 (i4 : Nat)] 78
            have hsz : (w7.alloc (.cells #[.int .i64 u4, .slice Av nv Cv] 30)).heap.size = w7.heap.size + 1 := Array.size_push _
            rw [hsz] at VF
            have HAC := (hA7.below bV).below bW
            have PJ8 := ((HP6.out.below b7).below bV).below bW
            clear HFO HP6 b7 bV bW hsz hA7 hP7 c7 c8 e6
            go_upto_region 17 with fail
            obtain ⟨w8, hw8⟩ : ∃ q, q = (w7.alloc (.cells #[.int .i64 u4, .slice Av nv Cv] 30)).alloc (.cells #[.int .i64 (E4 : Nat), .int .i64 (i4 : Nat)] 78) := ⟨_, rfl⟩
            rw [← hw8] at VV VF HAC PJ8 ⊢
            obtain ⟨QV, hQV⟩ : ∃ q, q = w7.heap.size := ⟨_, rfl⟩
            rw [← hQV] at VV VF ⊢
            have v0 := VF.cell (i := 0) rfl
            clear hw8 hQV
            by_cases hE4 : E4 = 0
            case neg =>
              have hEn : ((E4 : Int) != 0) = true := by rw [bne_iff_ne]; omega
              have HFN : Hid (∀ w', Below w.heap.size w w' → StepO (.returned (.tuple #[stA (c.d : Int) (c.s : Int) (c.b : Int) (.slice Ad nd Cd) (s.segs : Int) (.slice At nt Ct) (.slice As k Cs) s.u (.slice Aa na Ca), .agg #[.int .i64 ((E4 : Nat) : Int), .int .i64 0, .slice none 0 0, .int .i64 0, .slice none 0 0]])) T w w' c r) := by
                have := HNOF.out E4 0 (by
                  rw [← HRR.out, put_fit HW0.out HNS.out HNV.out (by rw [← HFOE.out]; exact hE4), ← HFOE.out]
                  rfl)
                rw [← HM.out] at this
                exact this
              have HNO := noP_any w.heap.size E4 (c.d : Int) (c.s : Int) (c.b : Int) (s.segs : Int) s.u Ad nd Cd At nt Ct As k Cs Aa na Ca _ (PJ8).st
              have HPJ : Hid (PJ w w8 (stL c (.slice Ad nd Cd) (s.segs : Int) (.slice At nt Ct) (.slice As k Cs) s.u (.slice Aa na Ca)) (doCells d (.slice Ae ne Ce) t)) := PJ8
              clear HNOF PJ8 HRR hE4 HAC VV VF
              go_wp2_with fail
              refine HNO.mono ?_
              rintro e wn ⟨rfl, bn⟩
              have PJn := HPJ.out.below bn
              obtain ⟨x0, x1, x2, x3, x4, x5, x6, x7, x8, p0, p1, p2, p3, p4, p5, p6, p7, p8, y0, y1, y2, y3, y4, q0, q1, q2, q3, q4⟩ := PJn.res
              have HBN := PJn.bel
              clear HNO HPJ PJn bn
              go_wp2_with fail
              refine bodyPost_ret (v := .tuple #[stA (c.d : Int) (c.s : Int) (c.b : Int) (.slice Ad nd Cd) (s.segs : Int) (.slice At nt Ct) (.slice As k Cs) s.u (.slice Aa na Ca), .agg #[.int .i64 (E4 : Nat), .int .i64 0, .slice none 0 0, .int .i64 0, .slice none 0 0]]) (by simp [results, Tryz.results32, go_sem, x0, x1, x2, x3, x4, x5, x6, x7, x8, y0, y1, y2, y3, y4]) rfl ?_
              exact HFN.out _ (noB HBN (by omega) (by omega) _ _ _ _ _ _ _ _ _ _ _ _ _ _)
            case pos =>
              subst hE4
              have HFOK : Hid ((Vw.fold s.u s.acc d.bat.evs).1.1 = 0 ∧ (Vw.fold s.u s.acc d.bat.evs).2 = (u4, l4)) := by rw [← HFOE.out]; exact ⟨rfl, rfl⟩
              obtain ⟨a0, a1, a2, a3, a4, a5, a6, a7, a8⟩ := PJ8.st.c9
              have HOW := refOwn_any (c.d : Int) (c.s : Int) (c.b : Int) (s.segs : Int) s.u (.slice Ad nd Cd) (.slice At nt Ct) (.slice As k Cs) (.slice Aa na Ca) s.disks w8 (HS.out.dk.below PJ8.bel) HWF.out.n1 HWF.out.n12 (fun i d hd => HWF.out.bl hd) HWF.out.len ⟨_, _, _, rfl⟩ ⟨_, _, _, rfl⟩ ⟨_, _, _, rfl⟩
              have HP8 : Hid (PJ w w8 (stL c (.slice Ad nd Cd) (s.segs : Int) (.slice At nt Ct) (.slice As k Cs) s.u (.slice Aa na Ca)) (doCells d (.slice Ae ne Ce) t)) := PJ8
              have HAC8 : Hid (Accs w8 (.slice Av nv Cv) l4) := HAC
              have HVV : Hid (VarN w8 QV 30 [.int .i64 u4, .slice Av nv Cv]) := VV
              clear HFOE PJ8 HAC VV VF
              go_wp2_with fail
              refine HOW.mono ?_
              rintro e w9 ⟨D, C, V, U, rfl, hC1, hC2, hDk, b9⟩
              obtain ⟨n9, hn9⟩ : ∃ q, q = s.disks.length := ⟨_, rfl⟩
              rw [← hn9] at hC1 ⊢
              have HN9 : Hid (n9 = s.disks.length) := hn9
              have bT : Below w9.heap.size w9 (w9.alloc (.cells #[.int .i64 (c.d : Int), .int .i64 (c.s : Int), .int .i64 (c.b : Int), .slice (some ⟨D, 0, none⟩) n9 C, .int .i64 (s.segs : Int), .slice At nt Ct, .slice As k Cs, .int .i64 s.u, .slice Aa na Ca] 32)) := (Below.refl _ _).alloc (Nat.le_refl _) _
              have VT := varN_new w9 #[.int .i64 (c.d : Int), .int .i64 (c.s : Int), .int .i64 (c.b : Int), .slice (some ⟨D, 0, none⟩) n9 C, .int .i64 (s.segs : Int), .slice At nt Ct, .slice As k Cs, .int .i64 s.u, .slice Aa na Ca] 32
              have hDk10 := hDk.below bT
              have b810 := bt b9 bT
              have h89 : w8.heap.size ≤ w9.heap.size := b9.size
              have hn12 : n9 ≤ 12 := by rw [hn9]; exact HWF.out.n12
              have hC2 : C ≤ 9223372036854775807 := by unfold maxLen at hC2; exact hC2
              clear HOW hDk b9 bT a0 a1 a2 a3 a4 a5 a6 a7 a8 v0 hn9
              go_upto_region 20 with fail
              obtain ⟨w10, hw10⟩ : ∃ q, q = w9.alloc (.cells #[.int .i64 (c.d : Int), .int .i64 (c.s : Int), .int .i64 (c.b : Int), .slice (some ⟨D, 0, none⟩) n9 C, .int .i64 (s.segs : Int), .slice At nt Ct, .slice As k Cs, .int .i64 s.u, .slice Aa na Ca] 32) := ⟨_, rfl⟩
              rw [← hw10] at VT hDk10 b810 ⊢
              obtain ⟨QT, hQT⟩ : ∃ q, q = w9.heap.size := ⟨_, rfl⟩
              rw [← hQT] at VT ⊢
              have hQ8 : w8.heap.size ≤ QT := by rw [hQT]; exact h89
              have PJ10 := HP8.out.below b810
              obtain ⟨tc, t1, t2, t3, t4⟩ := bats_cells HS0.out.tl
              obtain ⟨hnt, hAt, htc⟩ := t4 At nt Ct rfl
              have HTC : Hid (tc.length = s.tail.length ∧ (∀ (i : Nat) (x : Int × Value) (b : Evt.Bat), tc[i]? = some x → s.tail[i]? = some b → b.cmd = x.1 ∧ Evs (blank T w) x.2 b.evs) ∧ nt = s.tail.length) := ⟨t1, t2, hnt⟩
              have hnt10 : nt ≤ 10 := by
                have := HWF.out.tail
                have := HWF.out.b10
                omega
              have hlt10 : (tc.flatMap batCells).length = nt * 2 := by rw [flat_len batCells 2 _ (fun _ _ => rfl), t1, hnt]
              obtain ⟨⟨A1, n1, C1, x1, A2, n2, C2, y1, r1, B1, r2, R2⟩, ⟨A3, n3, C3, x3, A4, n4, C4, y3, r3, B3, r4, R4⟩, ⟨A5, n5, C5, x5, A6, n6, C6, y5, r5, B5, r6, R6⟩⟩ := app_orders (t := 26) Tryz.underlying26 Tryz.infoBatch rfl (by decide) (by decide) w10 At nt Ct hAt (tc.flatMap batCells) hlt10 (fun a ha j v hj => CSub.of_below PJ10.bel _ _ (blank_sub T w _ _ (htc a ha j v hj))) t3 (by omega) #[.int .i64 d.bat.cmd, .slice Ae ne Ce] rfl (by simp [Value.oneCell'])
              have HSo : ∀ w', Below w10.heap.size w10 w' → w'.cell? ⟨w.heap.size, 5, none⟩ = some (.slice At nt Ct) ∧ w'.cell? ⟨w.heap.size + 1, 5, none⟩ = some (.int .i64 d.bat.cmd) ∧ w'.cell? ⟨w.heap.size + 1, 6, none⟩ = some (.slice Ae ne Ce) := fun w' hb => ⟨(PJ10.st.below hb).cell (i := 5) rfl, (PJ10.dc.below hb).cell (i := 5) rfl, (PJ10.dc.below hb).cell (i := 6) rfl⟩
              have hNQ : w.heap.size + 1 < w8.heap.size := by have := HP8.out.size; omega
              have HSs : ∀ w' v, Below w10.heap.size w10 w' → (w'.setCell ⟨QT, 5, none⟩ v).cell? ⟨w.heap.size, 5, none⟩ = some (.slice At nt Ct) ∧ (w'.setCell ⟨QT, 5, none⟩ v).cell? ⟨w.heap.size + 1, 5, none⟩ = some (.int .i64 d.bat.cmd) ∧ (w'.setCell ⟨QT, 5, none⟩ v).cell? ⟨w.heap.size + 1, 6, none⟩ = some (.slice Ae ne Ce) := fun w' v hb => ⟨((PJ10.st.below hb).off (off_set w' ⟨QT, 5, none⟩ v) (by show ¬ w.heap.size = QT; omega)).cell (i := 5) rfl, ((PJ10.dc.below hb).off (off_set w' ⟨QT, 5, none⟩ v) (by show ¬ w.heap.size + 1 = QT; omega)).cell (i := 5) rfl, ((PJ10.dc.below hb).off (off_set w' ⟨QT, 5, none⟩ v) (by show ¬ w.heap.size + 1 = QT; omega)).cell (i := 6) rfl⟩
              have bA : ∀ o, Below w10.heap.size w10 (w10.alloc o) := fun o => (Below.refl _ _).alloc (Nat.le_refl _) o
              have TD := HSo w10.drew (Below.refl _ _).drew
              have T1 : Hid (∀ o, (w10.alloc o).drew.cell? ⟨w.heap.size, 5, none⟩ = some (.slice At nt Ct) ∧ (w10.alloc o).drew.cell? ⟨w.heap.size + 1, 5, none⟩ = some (.int .i64 d.bat.cmd) ∧ (w10.alloc o).drew.cell? ⟨w.heap.size + 1, 6, none⟩ = some (.slice Ae ne Ce)) := fun o => HSo (w10.alloc o).drew (bA o).drew
              have T2 : Hid (∀ o o', ((w10.alloc o).alloc o').drew.cell? ⟨w.heap.size, 5, none⟩ = some (.slice At nt Ct) ∧ ((w10.alloc o).alloc o').drew.cell? ⟨w.heap.size + 1, 5, none⟩ = some (.int .i64 d.bat.cmd) ∧ ((w10.alloc o).alloc o').drew.cell? ⟨w.heap.size + 1, 6, none⟩ = some (.slice Ae ne Ce)) := fun o o' => HSo ((w10.alloc o).alloc o').drew ((bA o).alloc (bA o).size o').drew
              have T3 : Hid (x1.cell? ⟨w.heap.size, 5, none⟩ = some (.slice At nt Ct) ∧ x1.cell? ⟨w.heap.size + 1, 5, none⟩ = some (.int .i64 d.bat.cmd) ∧ x1.cell? ⟨w.heap.size + 1, 6, none⟩ = some (.slice Ae ne Ce)) := HSo x1 B1
              have T4 : Hid (∀ o, (x1.alloc o).cell? ⟨w.heap.size, 5, none⟩ = some (.slice At nt Ct) ∧ (x1.alloc o).cell? ⟨w.heap.size + 1, 5, none⟩ = some (.int .i64 d.bat.cmd) ∧ (x1.alloc o).cell? ⟨w.heap.size + 1, 6, none⟩ = some (.slice Ae ne Ce)) := fun o => HSo (x1.alloc o) (B1.alloc B1.size o)
              have T5 : Hid (x3.cell? ⟨w.heap.size, 5, none⟩ = some (.slice At nt Ct) ∧ x3.cell? ⟨w.heap.size + 1, 5, none⟩ = some (.int .i64 d.bat.cmd) ∧ x3.cell? ⟨w.heap.size + 1, 6, none⟩ = some (.slice Ae ne Ce)) := HSo x3 B3
              have T6 : Hid (x5.cell? ⟨w.heap.size, 5, none⟩ = some (.slice At nt Ct) ∧ x5.cell? ⟨w.heap.size + 1, 5, none⟩ = some (.int .i64 d.bat.cmd) ∧ x5.cell? ⟨w.heap.size + 1, 6, none⟩ = some (.slice Ae ne Ce)) := HSo x5 B5
              have T7 : Hid (y1.cell? ⟨w.heap.size, 5, none⟩ = some (.slice At nt Ct) ∧ y1.cell? ⟨w.heap.size + 1, 5, none⟩ = some (.int .i64 d.bat.cmd) ∧ y1.cell? ⟨w.heap.size + 1, 6, none⟩ = some (.slice Ae ne Ce)) := HSo y1 R2.bel
              have T8 : Hid (y3.cell? ⟨w.heap.size, 5, none⟩ = some (.slice At nt Ct) ∧ y3.cell? ⟨w.heap.size + 1, 5, none⟩ = some (.int .i64 d.bat.cmd) ∧ y3.cell? ⟨w.heap.size + 1, 6, none⟩ = some (.slice Ae ne Ce)) := HSo y3 R4.bel
              have T9 : Hid (y5.cell? ⟨w.heap.size, 5, none⟩ = some (.slice At nt Ct) ∧ y5.cell? ⟨w.heap.size + 1, 5, none⟩ = some (.int .i64 d.bat.cmd) ∧ y5.cell? ⟨w.heap.size + 1, 6, none⟩ = some (.slice Ae ne Ce)) := HSo y5 R6.bel
              have S7 : Hid (∀ v, (y1.setCell ⟨QT, 5, none⟩ v).cell? ⟨w.heap.size, 5, none⟩ = some (.slice At nt Ct) ∧ (y1.setCell ⟨QT, 5, none⟩ v).cell? ⟨w.heap.size + 1, 5, none⟩ = some (.int .i64 d.bat.cmd) ∧ (y1.setCell ⟨QT, 5, none⟩ v).cell? ⟨w.heap.size + 1, 6, none⟩ = some (.slice Ae ne Ce)) := fun v => HSs y1 v R2.bel
              have S8 : Hid (∀ v, (y3.setCell ⟨QT, 5, none⟩ v).cell? ⟨w.heap.size, 5, none⟩ = some (.slice At nt Ct) ∧ (y3.setCell ⟨QT, 5, none⟩ v).cell? ⟨w.heap.size + 1, 5, none⟩ = some (.int .i64 d.bat.cmd) ∧ (y3.setCell ⟨QT, 5, none⟩ v).cell? ⟨w.heap.size + 1, 6, none⟩ = some (.slice Ae ne Ce)) := fun v => HSs y3 v R4.bel
              have S9 : Hid (∀ v, (y5.setCell ⟨QT, 5, none⟩ v).cell? ⟨w.heap.size, 5, none⟩ = some (.slice At nt Ct) ∧ (y5.setCell ⟨QT, 5, none⟩ v).cell? ⟨w.heap.size + 1, 5, none⟩ = some (.int .i64 d.bat.cmd) ∧ (y5.setCell ⟨QT, 5, none⟩ v).cell? ⟨w.heap.size + 1, 6, none⟩ = some (.slice Ae ne Ce)) := fun v => HSs y5 v R6.bel
              have k7 := (VT.below R2.bel).cell (i := 5) rfl
              have k8 := (VT.below R4.bel).cell (i := 5) rfl
              have k9 := (VT.below R6.bel).cell (i := 5) rfl
              have z7 := (VT.below R2.bel).frozen 5
              have z8 := (VT.below R4.bel).frozen 5
              have z9 := (VT.below R6.bel).frozen 5
              have HVT : Hid (VarN w10 QT 32 (stL c (.slice (some ⟨D, 0, none⟩) n9 C) (s.segs : Int) (.slice At nt Ct) (.slice As k Cs) s.u (.slice Aa na Ca))) := VT
              have HDK : Hid (DkAt w10 w8.heap.size D V U s.disks) := hDk10
              have HB8 : Hid (Below w8.heap.size w8 w10) := b810
              have F2 : Hid (∃ wf A n C', Value.slice A2 n2 C2 = .slice A n C' ∧ RG w10 wf 47 2 (.slice A2 n2 C2) (nt + 1) (tc.flatMap batCells ++ [.int .i64 d.bat.cmd, .slice Ae ne Ce]) ∧ y1.setCell ⟨QT, 5, none⟩ (.slice A2 n2 C2) = wf.setCell ⟨QT, 5, none⟩ (.slice A2 n2 C2)) := ⟨y1, A2, n2, C2, rfl, R2, rfl⟩
              have F4 : Hid (∃ wf A n C', Value.slice A4 n4 C4 = .slice A n C' ∧ RG w10 wf 47 2 (.slice A4 n4 C4) (nt + 1) (tc.flatMap batCells ++ [.int .i64 d.bat.cmd, .slice Ae ne Ce]) ∧ y3.setCell ⟨QT, 5, none⟩ (.slice A4 n4 C4) = wf.setCell ⟨QT, 5, none⟩ (.slice A4 n4 C4)) := ⟨y3, A4, n4, C4, rfl, R4, rfl⟩
              have F6 : Hid (∃ wf A n C', Value.slice A6 n6 C6 = .slice A n C' ∧ RG w10 wf 47 2 (.slice A6 n6 C6) (nt + 1) (tc.flatMap batCells ++ [.int .i64 d.bat.cmd, .slice Ae ne Ce]) ∧ y5.setCell ⟨QT, 5, none⟩ (.slice A6 n6 C6) = wf.setCell ⟨QT, 5, none⟩ (.slice A6 n6 C6)) := ⟨y5, A6, n6, C6, rfl, R6, rfl⟩
              clear HSo HSs bA B1 B3 B5 R2 R4 R6 PJ10 VT hDk10 b810 t1 t2 t3 t4 hAt htc hlt10 hnt hw10 hQT
              go_cut [101] from 94 to 102 (fun v wx => Hid (∃ wf A n C', v = .slice A n C' ∧ RG w10 wf 47 2 v (nt + 1) (tc.flatMap batCells ++ [.int .i64 d.bat.cmd, .slice Ae ne Ce]) ∧ wx = wf.setCell ⟨QT, 5, none⟩ v))
              case first =>
                go_region_held3 (fun w' => w'.cell? ⟨w.heap.size, 5, none⟩ = some (.slice At nt Ct) ∧ w'.cell? ⟨w.heap.size + 1, 5, none⟩ = some (.int .i64 d.bat.cmd) ∧ w'.cell? ⟨w.heap.size + 1, 6, none⟩ = some (.slice Ae ne Ce))
                  (first | with_reducible exact TD | with_reducible assumption | with_reducible exact T1.out _ | with_reducible exact T2.out _ _ | with_reducible exact T3.out | with_reducible exact T4.out _ | with_reducible exact T5.out | with_reducible exact T6.out | with_reducible exact T7.out | with_reducible exact T8.out | with_reducible exact T9.out | with_reducible exact S7.out _ | with_reducible exact S8.out _ | with_reducible exact S9.out _)
                  (first | (refine app_eqz r1 (.tmp 94) (.tmp 96) (by with_reducible rfl) (by rfl) (by rfl) (by rfl) (by rfl) (by rfl) ?_) | (refine app_eqz r3 (.tmp 94) (.tmp 96) (by with_reducible rfl) (by rfl) (by rfl) (by rfl) (by rfl) (by rfl) ?_) | (refine app_eqz r5 (.tmp 94) (.tmp 96) (by with_reducible rfl) (by rfl) (by rfl) (by rfl) (by rfl) (by rfl) ?_) | (refine app_eqz r2 (.tmp 97) (.tmp 100) (by with_reducible rfl) (by rfl) (by rfl) (by rfl) (by rfl) (by rfl) ?_) | (refine app_eqz r4 (.tmp 97) (.tmp 100) (by with_reducible rfl) (by rfl) (by rfl) (by rfl) (by rfl) (by rfl) ?_) | (refine app_eqz r6 (.tmp 97) (.tmp 100) (by with_reducible rfl) (by rfl) (by rfl) (by rfl) (by rfl) (by rfl) ?_))
                all_goals go_wp2_with fail
                all_goals go_meet
                all_goals first | with_reducible exact F2 | with_reducible exact F4 | with_reducible exact F6
              case rest =>
                obtain ⟨wf, A7, n7, C7, hv7, hRG, hwx⟩ := hcut.out
                obtain ⟨w11, hw11⟩ : ∃ y, y = wc := ⟨wc, rfl⟩
                rw [← hw11] at hwx ⊢
                have hof : Off (fun k => k = QT) w10 w11 := by
                  rw [hwx]
                  exact (Off.of_below hRG.bel).trans (off_set wf ⟨QT, 5, none⟩ _)
                have hofw : Off (fun k => k = QT) wf w11 := by
                  rw [hwx]
                  exact off_set wf ⟨QT, 5, none⟩ _
                have hQT10 : QT < w10.heap.size := RowC.lt HVT.out
                have PJ11 := (HP8.out.below HB8.out).off hof (fun q hq => by
                  have := HP8.out.size
                  have hq : q = QT := hq
                  omega)
                have hB11 : Below w8.heap.size w8 w11 := HB8.out.trans (hof.below HB8.out.size fun q hq => by
                  have hq : q = QT := hq
                  omega)
                obtain ⟨tc1, tc2, tc3⟩ := HTC.out
                have HBX : Hid (∀ wE, Off (fun q => q = QT ∨ q = w.heap.size + 1 + 1 ∨ q = w.heap.size + 1 + 1 + 1 ∨ T q = true) w11 wE → Bats wE (.slice A7 n7 C7) (s.tail ++ [d.bat])) := fun wE ho => by
                  rw [← hv7]
                  exact bats_tail hRG ((hofw.wider fun _ z => Or.inl z).trans ho) (fun q hq => by
                    have := HP8.out.size
                    have := HB8.out.size
                    rcases hq with z | z | z | z
                    · omega
                    · omega
                    · omega
                    · have := HT.out q z
                      omega) (sub_off (Off.down PJ11.bel ho fun q hq z => by
                    have := HP8.out.size
                    rcases z with z | z | z | z
                    · omega
                    · omega
                    · omega
                    · exact z)) tc1 tc2 tc3 HD0.out.evs
                have hn7 : n7 = nt + 1 := by
                  obtain ⟨A, C', q, _⟩ := row_shape hRG.own
                  rw [hv7] at q
                  cases q
                  rfl
                rw [hn7] at hv7 HBX
                subst hv7
                have VT11 := (HVT.out.below hRG.bel).set 5 (.slice A7 (nt + 1) C7) (show 5 < 9 by decide)
                rw [← hwx] at VT11
                have VT11 : VarN w11 QT 32 (stL c (.slice (some ⟨D, 0, none⟩) n9 C) (s.segs : Int) (.slice A7 (nt + 1) C7) (.slice As k Cs) s.u (.slice Aa na Ca)) := VT11
                have hDk11 := HDK.out.off hof (fun q hq => ⟨32, by subst hq; exact HVT.out.ty, by decide, by decide, by decide⟩)
                have HNV2 : Hid (Sto.put X c s d = if (Sto.laid X c s d.bat (u4, l4)).1 ≠ 0 then (s, Sto.no (Sto.laid X c s d.bat (u4, l4)).1) else ((Sto.laid X c s d.bat (u4, l4)).2, Sto.told u4)) := by
                  have := put_laid (X := X) (c := c) HW0.out HNS.out HNV.out HFOK.out.1
                  rw [HFOK.out.2] at this
                  exact this
                have HP11 : Hid (PJ w w11 (stL c (.slice Ad nd Cd) (s.segs : Int) (.slice At nt Ct) (.slice As k Cs) s.u (.slice Aa na Ca)) (doCells d (.slice Ae ne Ce) t)) := PJ11
                have HT11 : Hid (VarN w11 QT 32 (stL c (.slice (some ⟨D, 0, none⟩) n9 C) (s.segs : Int) (.slice A7 (nt + 1) C7) (.slice As k Cs) s.u (.slice Aa na Ca))) := VT11
                have HD11 : Hid (DkAt w11 w8.heap.size D V U s.disks) := hDk11
                have HS8 : Hid (w.heap.size + 1 + 1 + 1 < w8.heap.size) := HP8.out.size
                have hDge : w8.heap.size ≤ D := hDk11.ge
                have hDQ : QT ≠ D := VT11.ty.ne hDk11.row.ty (by decide)
                obtain ⟨S, hSdef⟩ : ∃ S : Nat → Bool, S = fun q => decide (q = D ∨ q = QT ∨ q = w.heap.size + 1 + 1 ∨ q = w.heap.size + 1 + 1 + 1 ∨ T q = true) := ⟨_, rfl⟩
                have HSM : Hid (∀ q, S q = true ↔ (q = D ∨ q = QT ∨ q = w.heap.size + 1 + 1 ∨ q = w.heap.size + 1 + 1 + 1 ∨ T q = true)) := fun q => by
                  rw [hSdef]
                  exact decide_eq_true_iff
                have HNE : Hid (∀ q, (q = QT ∨ q = w.heap.size + 1 + 1 ∨ q = w.heap.size + 1 + 1 + 1 ∨ T q = true) → S q = true ∧ q ≠ D) := fun q hq => ⟨(HSM.out q).2 (Or.inr hq), fun e => by
                  have := HS8.out
                  rcases hq with z | z | z | z
                  · exact hDQ (z.symm.trans e)
                  · omega
                  · omega
                  · have := HT.out q z
                    omega⟩
                have HDJ0 : Hid (∀ w', DkAt w' w8.heap.size D V U s.disks → VarN w' QT 32 (stL c (.slice (some ⟨D, 0, none⟩) n9 C) (s.segs : Int) (.slice A7 (nt + 1) C7) (.slice As k Cs) s.u (.slice Aa na Ca)) → DkJ w' S D V s.disks) := fun w' hk hv => hk.dkJ (S := S) ((HSM.out D).2 (Or.inl rfl)) (fun q hq => by
                  have := HS8.out
                  rcases (HSM.out q).1 hq with rfl | rfl | z | z | z
                  · exact Or.inr ⟨58, hk.row.ty, by decide, by decide⟩
                  · exact Or.inr ⟨32, hv.ty, by decide, by decide⟩
                  · exact Or.inl (by omega)
                  · exact Or.inl (by omega)
                  · have := HT.out q z
                    exact Or.inl (by omega))
                have HB11 : Hid (Below w8.heap.size w8 w11) := hB11
                have HNT : Hid (nt = s.tail.length) := tc3
                have j5 := VT11.cell (i := 5) rfl
                have j2 := PJ11.st.cell (i := 2) rfl
                have hcb : c.b ≤ 10 := HWF.out.b10
                clear hSdef PJ11 VT11 hDk11 hB11 tc1 tc2 tc3 hRG hwx hof hofw hcut HTC HVT HDK HB8 hw11
                go_upto_if 109 with fail
                go_cut [14, 15, 16, 17] from 109 to 153 (fun _v14 _v15 _v16 _v17 wx => Hid (∃ (G : Nat) (A9 : Option Addr) (n8 C9 : Nat) (ds : List Sto.Disk) (tl : List Evt.Bat), VarN wx QT 32 (stL c (.slice (some ⟨D, 0, none⟩) n9 C) (G : Int) (.slice A9 n8 C9) (.slice As k Cs) s.u (.slice Aa na Ca)) ∧ PJ w wx (stL c (.slice Ad nd Cd) (s.segs : Int) (.slice At nt Ct) (.slice As k Cs) s.u (.slice Aa na Ca)) (doCells d (.slice Ae ne Ce) t) ∧ Below w8.heap.size w8 wx ∧ (∀ wE, Off (fun q => q = QT ∨ q = w.heap.size + 1 + 1 ∨ q = w.heap.size + 1 + 1 + 1 ∨ T q = true) wx wE → Dks wE (.slice (some ⟨D, 0, none⟩) n9 C) ds ∧ Bats wE (.slice A9 n8 C9) tl) ∧ r = (⟨ds, G, tl, s.seen.take (Sto.below d.bat.cmd s.seen) ++ d.bat.cmd :: s.seen.drop (Sto.below d.bat.cmd s.seen), u4, l4⟩, ⟨0, u4, [], 0, []⟩)))
                case first =>
                  by_cases hL : nt + 1 < c.b
                  · have hL' : (nt : Int) + 1 < (c.b : Int) := by omega
                    have HRZ : Hid (∃ (G : Nat) (A9 : Option Addr) (n8 C9 : Nat) (ds : List Sto.Disk) (tl : List Evt.Bat), VarN w11 QT 32 (stL c (.slice (some ⟨D, 0, none⟩) n9 C) (G : Int) (.slice A9 n8 C9) (.slice As k Cs) s.u (.slice Aa na Ca)) ∧ PJ w w11 (stL c (.slice Ad nd Cd) (s.segs : Int) (.slice At nt Ct) (.slice As k Cs) s.u (.slice Aa na Ca)) (doCells d (.slice Ae ne Ce) t) ∧ Below w8.heap.size w8 w11 ∧ (∀ wE, Off (fun q => q = QT ∨ q = w.heap.size + 1 + 1 ∨ q = w.heap.size + 1 + 1 + 1 ∨ T q = true) w11 wE → Dks wE (.slice (some ⟨D, 0, none⟩) n9 C) ds ∧ Bats wE (.slice A9 n8 C9) tl) ∧ r = (⟨ds, G, tl, s.seen.take (Sto.below d.bat.cmd s.seen) ++ d.bat.cmd :: s.seen.drop (Sto.below d.bat.cmd s.seen), u4, l4⟩, ⟨0, u4, [], 0, []⟩)) := by
                      refine ⟨s.segs, A7, nt + 1, C7, s.disks, s.tail ++ [d.bat], HT11.out, HP11.out, HB11.out, fun wE ho => ?_, ?_⟩
                      · have hj := (HDJ0.out _ HD11.out HT11.out).offS ho HNE.out
                        have := hj.dks (C := C) (by rw [← HN9.out]; exact hC1) (by unfold maxLen; exact hC2)
                        rw [← HN9.out] at this
                        exact ⟨this, HBX.out wE ho⟩
                      · rw [← HRR.out, HNV2.out, laid_few (by rw [← HNT.out]; exact hL), if_neg (fun z => z rfl)]
                        rfl
                    clear hL
                    go_wp2_with fail
                    go_meet
                    exact HRZ
                  · have hL' : ¬ (nt : Int) + 1 < (c.b : Int) := by omega
                    have HLL : Hid (¬ s.tail.length + 1 < c.b) := by rw [← HNT.out]; exact hL
                    have HBY := refBytesL_any (.slice A7 (nt + 1) C7) (s.tail ++ [d.bat]) w11 (HBX.out _ (Off.refl _ _))
                    generalize (Evt.wrongL (s.tail ++ [d.bat])).2 = i5 at HBY
                    obtain ⟨E5, hE5⟩ : ∃ q, q = (Evt.wrongL (s.tail ++ [d.bat])).1 := ⟨_, rfl⟩
                    rw [← hE5] at HBY
                    have HE5 : Hid (E5 = (Evt.wrongL (s.tail ++ [d.bat])).1) := hE5
                    clear hE5
                    go_wp2_with fail
                    refine HBY.mono ?_
                    rintro e w12 ⟨v12, rfl, hbuf, b12⟩
                    obtain ⟨Ab, nb9, Cb, rfl⟩ : ∃ A n C, v12 = .slice A n C := by
                      obtain ⟨A, C, q, _⟩ := row_shape hbuf
                      exact ⟨A, _, C, q⟩
                    have bF : Below w12.heap.size w12 (w12.alloc (.cells #[.int .i64 (E5 : Nat), .int .i64 (i5 : Nat)] 78)) := (Below.refl _ _).alloc (Nat.le_refl _) _
                    have VF := varN_new w12 #[.int .i64 (E5 : Nat), .int .i64 (i5 : Nat)] 78
                    have bF13 := bt b12 bF
                    have hbuf13 := hbuf.below bF
                    clear HBY b12 bF hbuf j5 j2
                    go_upto_region 23 with fail
                    obtain ⟨w13, hw13⟩ : ∃ q, q = w12.alloc (.cells #[.int .i64 (E5 : Nat), .int .i64 (i5 : Nat)] 78) := ⟨_, rfl⟩
                    rw [← hw13] at VF bF13 hbuf13 ⊢
                    obtain ⟨QF, hQF⟩ : ∃ q, q = w12.heap.size := ⟨_, rfl⟩
                    rw [← hQF] at VF ⊢
                    have v0 := VF.cell (i := 0) rfl
                    have PJ13 := HP11.out.below bF13
                    clear hw13 hQF VF
                    by_cases hE0 : E5 = 0
                    case neg =>
                      have hEn : ((E5 : Int) != 0) = true := by rw [bne_iff_ne]; omega
                      have HFN : Hid (∀ w', Below w.heap.size w w' → StepO (.returned (.tuple #[stA (c.d : Int) (c.s : Int) (c.b : Int) (.slice Ad nd Cd) (s.segs : Int) (.slice At nt Ct) (.slice As k Cs) s.u (.slice Aa na Ca), .agg #[.int .i64 ((E5 : Nat) : Int), .int .i64 0, .slice none 0 0, .int .i64 0, .slice none 0 0]])) T w w' c r) := by
                        have := HNOF.out E5 0 (by
                          rw [← HRR.out, HNV2.out, laid_wrong HLL.out (by rw [← HE5.out]; exact hE0), ← HE5.out, if_pos hE0]
                          rfl)
                        rw [← HM.out] at this
                        exact this
                      have HNO := noP_any w.heap.size E5 (c.d : Int) (c.s : Int) (c.b : Int) (s.segs : Int) s.u Ad nd Cd At nt Ct As k Cs Aa na Ca _ (PJ13).st
                      have HPJ : Hid (PJ w w13 (stL c (.slice Ad nd Cd) (s.segs : Int) (.slice At nt Ct) (.slice As k Cs) s.u (.slice Aa na Ca)) (doCells d (.slice Ae ne Ce) t)) := PJ13
                      clear HNOF PJ13 HRR hE0 hbuf13
                      go_wp2_with fail
                      refine HNO.mono ?_
                      rintro e wn ⟨rfl, bn⟩
                      have PJn := HPJ.out.below bn
                      obtain ⟨x0, x1, x2, x3, x4, x5, x6, x7, x8, p0, p1, p2, p3, p4, p5, p6, p7, p8, y0, y1, y2, y3, y4, q0, q1, q2, q3, q4⟩ := PJn.res
                      have HBN := PJn.bel
                      clear HNO HPJ PJn bn
                      go_wp2_with fail
                      refine bodyPost_ret (v := .tuple #[stA (c.d : Int) (c.s : Int) (c.b : Int) (.slice Ad nd Cd) (s.segs : Int) (.slice At nt Ct) (.slice As k Cs) s.u (.slice Aa na Ca), .agg #[.int .i64 (E5 : Nat), .int .i64 0, .slice none 0 0, .int .i64 0, .slice none 0 0]]) (by simp [results, Tryz.results32, go_sem, x0, x1, x2, x3, x4, x5, x6, x7, x8, y0, y1, y2, y3, y4]) rfl ?_
                      exact HFN.out _ (noB HBN (by omega) (by omega) _ _ _ _ _ _ _ _ _ _ _ _ _ _)
                    case pos =>
                      have HW5 : Hid ((Evt.wrongL (s.tail ++ [d.bat])).1 = 0) := by rw [← HE5.out]; exact hE0
                      subst hE0
                      have hout : outL (s.tail ++ [d.bat]) = Evt.encL (s.tail ++ [d.bat]) := if_pos HW5.out
                      rw [hout] at hbuf13
                      have hbyt := bufL_byt hbuf13 (Sto.encL_bytes HW5.out)
                      have HLY := layJ_any HX.out (.slice Ab nb9 Cb) (Evt.encL (s.tail ++ [d.bat])) s.segs c w13 hbyt
                      obtain ⟨xl, hxl⟩ : ∃ q, q = X.lay (Evt.encL (s.tail ++ [d.bat])) s.segs c := ⟨_, rfl⟩
                      rw [← hxl] at HLY
                      have HXL : Hid (xl = X.lay (Evt.encL (s.tail ++ [d.bat])) s.segs c) := hxl
                      obtain ⟨E6, L6⟩ := xl
                      unfold BlP at HLY
                      have g0 := PJ13.st.cell (i := 0) rfl
                      have g1 := PJ13.st.cell (i := 1) rfl
                      have g4 := PJ13.st.cell (i := 4) rfl
                      have HP13 : Hid (PJ w w13 (stL c (.slice Ad nd Cd) (s.segs : Int) (.slice At nt Ct) (.slice As k Cs) s.u (.slice Aa na Ca)) (doCells d (.slice Ae ne Ce) t)) := PJ13
                      clear hbuf13 hbyt hxl hout PJ13
                      go_wp2_with fail
                      refine HLY.mono ?_
                      rintro e w14 ⟨⟨v14, rfl, hO⟩, b14⟩
                      have PJ14 := HP13.out.below b14
                      have b1114 := bt bF13 b14
                      by_cases hE6 : E6 = 0
                      case neg =>
                        have hv14 : v14 = .slice none 0 0 := by
                          rcases hO with q | q
                          · exact absurd q.1 hE6
                          · exact q.2
                        subst hv14
                        have hEn : ((E6 : Int) != 0) = true := by rw [bne_iff_ne]; omega
                        have HFN : Hid (∀ w', Below w.heap.size w w' → StepO (.returned (.tuple #[stA (c.d : Int) (c.s : Int) (c.b : Int) (.slice Ad nd Cd) (s.segs : Int) (.slice At nt Ct) (.slice As k Cs) s.u (.slice Aa na Ca), .agg #[.int .i64 ((E6 : Nat) : Int), .int .i64 0, .slice none 0 0, .int .i64 0, .slice none 0 0]])) T w w' c r) := by
                          have := HNOF.out E6 0 (by
                            rw [← HRR.out, HNV2.out, laid_none HLL.out HW5.out (by rw [← HXL.out]; exact hE6), ← HXL.out, if_pos hE6]
                            rfl)
                          rw [← HM.out] at this
                          exact this
                        have HNO := noP_any w.heap.size E6 (c.d : Int) (c.s : Int) (c.b : Int) (s.segs : Int) s.u Ad nd Cd At nt Ct As k Cs Aa na Ca _ (PJ14).st
                        have HPJ : Hid (PJ w w14 (stL c (.slice Ad nd Cd) (s.segs : Int) (.slice At nt Ct) (.slice As k Cs) s.u (.slice Aa na Ca)) (doCells d (.slice Ae ne Ce) t)) := PJ14
                        clear HNOF PJ14 HRR hE6 hO HLY g0 g1 g4
                        go_wp2_with fail
                        refine HNO.mono ?_
                        rintro e wn ⟨rfl, bn⟩
                        have PJn := HPJ.out.below bn
                        obtain ⟨x0, x1, x2, x3, x4, x5, x6, x7, x8, p0, p1, p2, p3, p4, p5, p6, p7, p8, y0, y1, y2, y3, y4, q0, q1, q2, q3, q4⟩ := PJn.res
                        have HBN := PJn.bel
                        clear HNO HPJ PJn bn
                        go_wp2_with fail
                        refine bodyPost_ret (v := .tuple #[stA (c.d : Int) (c.s : Int) (c.b : Int) (.slice Ad nd Cd) (s.segs : Int) (.slice At nt Ct) (.slice As k Cs) s.u (.slice Aa na Ca), .agg #[.int .i64 (E6 : Nat), .int .i64 0, .slice none 0 0, .int .i64 0, .slice none 0 0]]) (by simp [results, Tryz.results32, go_sem, x0, x1, x2, x3, x4, x5, x6, x7, x8, y0, y1, y2, y3, y4]) rfl ?_
                        exact HFN.out _ (noB HBN (by omega) (by omega) _ _ _ _ _ _ _ _ _ _ _ _ _ _)
                      case pos =>
                        subst hE6
                        have hBl : BlM w14 w13.heap.size v14 L6 := by
                          rcases hO with q | q
                          · exact q.2
                          · exact absurd rfl q.1
                        have HLD : Hid (Sto.laid X c s d.bat (u4, l4) = (0, ⟨Sto.write s.segs L6 0 s.disks, s.segs + 1, [], s.seen.take (Sto.below d.bat.cmd s.seen) ++ d.bat.cmd :: s.seen.drop (Sto.below d.bat.cmd s.seen), u4, l4⟩)) := by
                          have := laid_done (X := X) (v := (u4, l4)) HLL.out HW5.out (by rw [← HXL.out])
                          rw [← HXL.out] at this
                          exact this
                        have hL6 : L6.length = n9 := by
                          have := HXL.out
                          rw [HX.out.lay] at this
                          rw [(Sto.layX_inv this.symm).2.1, HN9.out, HWF.out.dl]
                        have VT14 := HT11.out.below b1114
                        have hDk14 := HD11.out.below b1114
                        have hSlt : ∀ q, S q = true → q < w13.heap.size := fun q hq => by
                          have h1 : D < w11.heap.size := HD11.out.row.lt
                          have h2 : QT < w11.heap.size := RowC.lt HT11.out
                          have h3 := HP11.out.size
                          have h4 := bF13.size
                          rcases (HSM.out q).1 hq with z | z | z | z | z
                          · omega
                          · omega
                          · omega
                          · omega
                          · have := HT.out q z
                            omega
                        have hDJ14 := HDJ0.out _ hDk14 VT14
                        have HWR := refWrite_any S QT D n9 C (c.d : Int) (c.s : Int) (c.b : Int) (s.segs : Int) s.u (s.segs : Int) (.slice A7 (nt + 1) C7) (.slice As k Cs) (.slice Aa na Ca) v14 L6 V s.disks w14 VT14 hDJ14 (fun q hq => Nat.lt_of_lt_of_le (hSlt q hq) b14.size) HN9.out hn12 hC1 (by unfold maxLen; exact hC2) (fun i d hd => HWF.out.bl hd) (hBl.2 S hSlt) hL6
                        obtain ⟨Al, nl, Cl, rfl⟩ : ∃ A n C, v14 = .slice A n C := by
                          obtain ⟨A, C, q⟩ := hBl.1.shape
                          exact ⟨A, _, C, q⟩
                        have HV14 : Hid (VarN w14 QT 32 (stL c (.slice (some ⟨D, 0, none⟩) n9 C) (s.segs : Int) (.slice A7 (nt + 1) C7) (.slice As k Cs) s.u (.slice Aa na Ca))) := VT14
                        have HP14 : Hid (PJ w w14 (stL c (.slice Ad nd Cd) (s.segs : Int) (.slice At nt Ct) (.slice As k Cs) s.u (.slice Aa na Ca)) (doCells d (.slice Ae ne Ce) t)) := PJ14
                        have HB14 : Hid (Below w8.heap.size w8 w14) := bt HB11.out b1114
                        have s4 := PJ14.st.cell (i := 4) rfl
                        clear hO HLY PJ14 hBl hDJ14 hSlt VT14 hDk14 g0 g1 g4 HE5 HW5 HLL b1114 hL6
                        go_wp2_with fail
                        refine HWR.mono ?_
                        rintro e w15 ⟨rfl, ⟨V', hDJ⟩, hof15⟩
                        have VT15 := HV14.out.off hof15 hDQ
                        have PJ15 := HP14.out.off hof15 (fun q hq => by
                          have hq : q = D := hq
                          have := HS8.out
                          omega)
                        have hB15 : Below w8.heap.size w8 w15 := HB14.out.trans (hof15.below HB14.out.size fun q hq => by
                          have hq : q = D := hq
                          omega)
                        have g4 := PJ15.st.cell (i := 4) rfl
                        have t4 := VT15.cell (i := 4) rfl
                        have t5 := VT15.cell (i := 5) rfl
                        have u4_ := VT15.frozen 4
                        have u5_ := VT15.frozen 5
                        have hsg : s.segs ≤ 40 := HWF.out.segs
                        have HV15 : Hid (VarN w15 QT 32 (stL c (.slice (some ⟨D, 0, none⟩) n9 C) (s.segs : Int) (.slice A7 (nt + 1) C7) (.slice As k Cs) s.u (.slice Aa na Ca))) := VT15
                        have HP15 : Hid (PJ w w15 (stL c (.slice Ad nd Cd) (s.segs : Int) (.slice At nt Ct) (.slice As k Cs) s.u (.slice Aa na Ca)) (doCells d (.slice Ae ne Ce) t)) := PJ15
                        have HB15 : Hid (Below w8.heap.size w8 w15) := hB15
                        have HDJ : Hid (DkJ w15 S D V' (Sto.write s.segs L6 0 s.disks)) := hDJ
                        clear HWR hDJ hof15 VT15 PJ15 hB15 s4 HV14 HP14 HB14
                        have HRZ : Hid (∃ (G : Nat) (A9 : Option Addr) (n8 C9 : Nat) (ds : List Sto.Disk) (tl : List Evt.Bat), VarN ((w15.setCell ⟨QT, 4, none⟩ (.int .i64 ((s.segs : Int) + 1))).setCell ⟨QT, 5, none⟩ (.slice none 0 0)) QT 32 (stL c (.slice (some ⟨D, 0, none⟩) n9 C) (G : Int) (.slice A9 n8 C9) (.slice As k Cs) s.u (.slice Aa na Ca)) ∧ PJ w ((w15.setCell ⟨QT, 4, none⟩ (.int .i64 ((s.segs : Int) + 1))).setCell ⟨QT, 5, none⟩ (.slice none 0 0)) (stL c (.slice Ad nd Cd) (s.segs : Int) (.slice At nt Ct) (.slice As k Cs) s.u (.slice Aa na Ca)) (doCells d (.slice Ae ne Ce) t) ∧ Below w8.heap.size w8 ((w15.setCell ⟨QT, 4, none⟩ (.int .i64 ((s.segs : Int) + 1))).setCell ⟨QT, 5, none⟩ (.slice none 0 0)) ∧ (∀ wE, Off (fun q => q = QT ∨ q = w.heap.size + 1 + 1 ∨ q = w.heap.size + 1 + 1 + 1 ∨ T q = true) ((w15.setCell ⟨QT, 4, none⟩ (.int .i64 ((s.segs : Int) + 1))).setCell ⟨QT, 5, none⟩ (.slice none 0 0)) wE → Dks wE (.slice (some ⟨D, 0, none⟩) n9 C) ds ∧ Bats wE (.slice A9 n8 C9) tl) ∧ r = (⟨ds, G, tl, s.seen.take (Sto.below d.bat.cmd s.seen) ++ d.bat.cmd :: s.seen.drop (Sto.below d.bat.cmd s.seen), u4, l4⟩, ⟨0, u4, [], 0, []⟩)) := by
                          have hofz : Off (fun q => q = QT) w15 ((w15.setCell ⟨QT, 4, none⟩ (.int .i64 ((s.segs : Int) + 1))).setCell ⟨QT, 5, none⟩ (.slice none 0 0)) := (off_set w15 ⟨QT, 4, none⟩ _).trans (off_set _ ⟨QT, 5, none⟩ _)
                          refine ⟨s.segs + 1, none, 0, 0, Sto.write s.segs L6 0 s.disks, [], (HV15.out.set 4 _ (show 4 < 9 by decide)).set 5 _ (show 5 < 9 by decide), HP15.out.off hofz (fun q hq => ?_), HB15.out.trans (hofz.below HB15.out.size fun q hq => ?_), fun wE ho => ?_, ?_⟩
                          · have hq : q = QT := hq
                            have := HS8.out
                            omega
                          · have hq : q = QT := hq
                            omega
                          · have hdj := HDJ.out.offS ((hofz.wider fun _ z => Or.inl z).trans ho) HNE.out
                            have hlw : (Sto.write s.segs L6 0 s.disks).length = n9 := by rw [Sto.write_length, HN9.out]
                            have := hdj.dks (C := C) (by rw [hlw]; exact hC1) (by unfold maxLen; exact hC2)
                            rw [hlw] at this
                            exact ⟨this, Bats.nil8 _⟩
                          · rw [← HRR.out, HNV2.out, HLD.out, if_neg (fun z => z rfl)]
                            rfl
                        clear HV15 HP15 HB15 HDJ
                        go_wp2_with fail
                        go_meet
                        exact HRZ
                case rest =>
                  obtain ⟨G, A9, n8, C9, ds, tl, hTz, hPz, hBz, hSTz, hRZ⟩ := hcut.out
                  obtain ⟨wz, hwz⟩ : ∃ y, y = wc := ⟨wc, rfl⟩
                  rw [← hwz] at hTz hPz hBz hSTz ⊢
                  have HTz : Hid (VarN wz QT 32 (stL c (.slice (some ⟨D, 0, none⟩) n9 C) (G : Int) (.slice A9 n8 C9) (.slice As k Cs) s.u (.slice Aa na Ca))) := hTz
                  have HPz : Hid (PJ w wz (stL c (.slice Ad nd Cd) (s.segs : Int) (.slice At nt Ct) (.slice As k Cs) s.u (.slice Aa na Ca)) (doCells d (.slice Ae ne Ce) t)) := hPz
                  have HBz : Hid (Below w8.heap.size w8 wz) := hBz
                  have HSTz : Hid (∀ wE, Off (fun q => q = QT ∨ q = w.heap.size + 1 + 1 ∨ q = w.heap.size + 1 + 1 + 1 ∨ T q = true) wz wE → Dks wE (.slice (some ⟨D, 0, none⟩) n9 C) ds ∧ Bats wE (.slice A9 n8 C9) tl) := hSTz
                  have HRZ := hRZ
                  have HRZ : Hid (r = (⟨ds, G, tl, s.seen.take (Sto.below d.bat.cmd s.seen) ++ d.bat.cmd :: s.seen.drop (Sto.below d.bat.cmd s.seen), u4, l4⟩, ⟨0, u4, [], 0, []⟩)) := HRZ
                  clear hcut hTz hPz hBz hSTz hRZ hwz HNE HSM HDJ0 HNV2 HNT HBX HP11 HT11 HD11 HB11 j5 j2
                  go_upto_region 30 with fail
                  have hNQ : w.heap.size + 1 < QT := by
                    have := HP8.out.size
                    omega
                  have HNZ0 : Hid (Nms wz (.slice As k Cs) s.seen) := by
                    have := HS.out.sn.below HPz.out.bel
                    rw [← HM.out] at this
                    exact this
                  have hat' : (at9 : Int) ≤ (k : Int) := by omega
                  have hatC : (at9 : Int) ≤ (Cs : Int) := by omega
                  have hkC' : (k : Int) ≤ (Cs : Int) := by omega
                  go_cut [169] from 154 to 170 (fun v wx => Hid (∃ wf A n C', v = .slice A n C' ∧ RG wz wf 3 1 v (k + 1) ((s.seen.take at9 ++ d.bat.cmd :: s.seen.drop at9).flatMap inCells) ∧ wx = wf.setCell ⟨QT, 6, none⟩ v))
                  case first =>
                    cases As with
                    | none =>
                      obtain ⟨e0, _⟩ := HPV.out _ _ _ rfl
                      obtain rfl : Cs = 0 := e0 rfl
                      obtain rfl : k = 0 := by omega
                      obtain rfl : at9 = 0 := by omega
                      have HSo : ∀ w', Below wz.heap.size wz w' → w'.cell? ⟨w.heap.size, 6, none⟩ = some (.slice none 0 0) ∧ w'.cell? ⟨w.heap.size + 1, 5, none⟩ = some (.int .i64 d.bat.cmd) := fun w' hb => ⟨(HPz.out.st.below hb).cell (i := 6) rfl, (HPz.out.dc.below hb).cell (i := 5) rfl⟩
                      have HSs : ∀ w' v, Below wz.heap.size wz w' → (w'.setCell ⟨QT, 6, none⟩ v).cell? ⟨w.heap.size, 6, none⟩ = some (.slice none 0 0) ∧ (w'.setCell ⟨QT, 6, none⟩ v).cell? ⟨w.heap.size + 1, 5, none⟩ = some (.int .i64 d.bat.cmd) := fun w' v hb => ⟨((HPz.out.st.below hb).off (off_set w' ⟨QT, 6, none⟩ v) (by show ¬ w.heap.size = QT; omega)).cell (i := 6) rfl, ((HPz.out.dc.below hb).off (off_set w' ⟨QT, 6, none⟩ v) (by show ¬ w.heap.size + 1 = QT; omega)).cell (i := 5) rfl⟩
                      have bA : ∀ o, Below wz.heap.size wz (wz.alloc o) := fun o => (Below.refl _ _).alloc (Nat.le_refl _) o
                      have HEQ : Hid (∀ (wf : World) (v : Value), RG wz wf 3 1 v (0 + 1 + 0) ((s.seen.take 0 ++ d.bat.cmd :: s.seen.drop 0).flatMap inCells) → RG wz wf 3 1 v (0 + 1) ((s.seen.take 0 ++ d.bat.cmd :: s.seen.drop 0).flatMap inCells)) := fun wf v hR => by
                        rw [show 0 + 1 + 0 = 0 + 1 by omega] at hR
                        exact hR
                      obtain ⟨⟨A1, n1, C1, x1, A2, n2, C2, y1, A7, n7, C7, z1, r1, B1, r2, D1, r3, R3⟩, ⟨A3, n3, C3, x3, A4, n4, C4, y3, A8, n8, C8, z3, r4, B3, r5, D3, r6, R6⟩, ⟨A5, n5, C5, x5, A6, n6, C6, y5, A9, n9_, C9, z5, r7, B5, r8, D5, r9, R9⟩⟩ := app_three wz none 0 0 (fun _ => rfl) (s.seen.take 0) rfl (fun a ha => by cases ha) d.bat.cmd none 0 0 (fun _ => rfl) (s.seen.drop 0) (by rw [List.length_drop, ← HM.out]) (fun a ha => by cases ha) (by omega) (by omega)
                      have TD := HSo wz.drew (Below.refl _ _).drew
                      have T1 : Hid (∀ o, (wz.alloc o).drew.cell? ⟨w.heap.size, 6, none⟩ = some (.slice none 0 0) ∧ (wz.alloc o).drew.cell? ⟨w.heap.size + 1, 5, none⟩ = some (.int .i64 d.bat.cmd)) := fun o => HSo (wz.alloc o).drew (bA o).drew
                      have T2 : Hid (∀ o o', ((wz.alloc o).alloc o').drew.cell? ⟨w.heap.size, 6, none⟩ = some (.slice none 0 0) ∧ ((wz.alloc o).alloc o').drew.cell? ⟨w.heap.size + 1, 5, none⟩ = some (.int .i64 d.bat.cmd)) := fun o o' => HSo ((wz.alloc o).alloc o').drew ((bA o).alloc (bA o).size o').drew
                      have U0a : Hid (x1.cell? ⟨w.heap.size, 6, none⟩ = some (.slice none 0 0) ∧ x1.cell? ⟨w.heap.size + 1, 5, none⟩ = some (.int .i64 d.bat.cmd)) := HSo x1 B1
                      have U0b : Hid (∀ o, (x1.alloc o).cell? ⟨w.heap.size, 6, none⟩ = some (.slice none 0 0) ∧ (x1.alloc o).cell? ⟨w.heap.size + 1, 5, none⟩ = some (.int .i64 d.bat.cmd)) := fun o => HSo (x1.alloc o) (B1.alloc B1.size o)
                      have U0c : Hid (y1.cell? ⟨w.heap.size, 6, none⟩ = some (.slice none 0 0) ∧ y1.cell? ⟨w.heap.size + 1, 5, none⟩ = some (.int .i64 d.bat.cmd)) := HSo y1 D1
                      have U0d : Hid (z1.cell? ⟨w.heap.size, 6, none⟩ = some (.slice none 0 0) ∧ z1.cell? ⟨w.heap.size + 1, 5, none⟩ = some (.int .i64 d.bat.cmd)) := HSo z1 R3.bel
                      have U0e : Hid (∀ v, (z1.setCell ⟨QT, 6, none⟩ v).cell? ⟨w.heap.size, 6, none⟩ = some (.slice none 0 0) ∧ (z1.setCell ⟨QT, 6, none⟩ v).cell? ⟨w.heap.size + 1, 5, none⟩ = some (.int .i64 d.bat.cmd)) := fun v => HSs z1 v R3.bel
                      have k0 := (HTz.out.below R3.bel).cell (i := 6) rfl
                      have q0 := (HTz.out.below R3.bel).frozen 6
                      have F0 : Hid (∃ wf A n C', Value.slice A7 n7 C7 = .slice A n C' ∧ RG wz wf 3 1 (.slice A7 n7 C7) (0 + 1) ((s.seen.take 0 ++ d.bat.cmd :: s.seen.drop 0).flatMap inCells) ∧ z1.setCell ⟨QT, 6, none⟩ (.slice A7 n7 C7) = wf.setCell ⟨QT, 6, none⟩ (.slice A7 n7 C7)) := ⟨z1, A7, n7, C7, rfl, HEQ.out _ _ R3, rfl⟩
                      have U1a : Hid (x3.cell? ⟨w.heap.size, 6, none⟩ = some (.slice none 0 0) ∧ x3.cell? ⟨w.heap.size + 1, 5, none⟩ = some (.int .i64 d.bat.cmd)) := HSo x3 B3
                      have U1b : Hid (∀ o, (x3.alloc o).cell? ⟨w.heap.size, 6, none⟩ = some (.slice none 0 0) ∧ (x3.alloc o).cell? ⟨w.heap.size + 1, 5, none⟩ = some (.int .i64 d.bat.cmd)) := fun o => HSo (x3.alloc o) (B3.alloc B3.size o)
                      have U1c : Hid (y3.cell? ⟨w.heap.size, 6, none⟩ = some (.slice none 0 0) ∧ y3.cell? ⟨w.heap.size + 1, 5, none⟩ = some (.int .i64 d.bat.cmd)) := HSo y3 D3
                      have U1d : Hid (z3.cell? ⟨w.heap.size, 6, none⟩ = some (.slice none 0 0) ∧ z3.cell? ⟨w.heap.size + 1, 5, none⟩ = some (.int .i64 d.bat.cmd)) := HSo z3 R6.bel
                      have U1e : Hid (∀ v, (z3.setCell ⟨QT, 6, none⟩ v).cell? ⟨w.heap.size, 6, none⟩ = some (.slice none 0 0) ∧ (z3.setCell ⟨QT, 6, none⟩ v).cell? ⟨w.heap.size + 1, 5, none⟩ = some (.int .i64 d.bat.cmd)) := fun v => HSs z3 v R6.bel
                      have k1 := (HTz.out.below R6.bel).cell (i := 6) rfl
                      have q1 := (HTz.out.below R6.bel).frozen 6
                      have F1 : Hid (∃ wf A n C', Value.slice A8 n8 C8 = .slice A n C' ∧ RG wz wf 3 1 (.slice A8 n8 C8) (0 + 1) ((s.seen.take 0 ++ d.bat.cmd :: s.seen.drop 0).flatMap inCells) ∧ z3.setCell ⟨QT, 6, none⟩ (.slice A8 n8 C8) = wf.setCell ⟨QT, 6, none⟩ (.slice A8 n8 C8)) := ⟨z3, A8, n8, C8, rfl, HEQ.out _ _ R6, rfl⟩
                      have U2a : Hid (x5.cell? ⟨w.heap.size, 6, none⟩ = some (.slice none 0 0) ∧ x5.cell? ⟨w.heap.size + 1, 5, none⟩ = some (.int .i64 d.bat.cmd)) := HSo x5 B5
                      have U2b : Hid (∀ o, (x5.alloc o).cell? ⟨w.heap.size, 6, none⟩ = some (.slice none 0 0) ∧ (x5.alloc o).cell? ⟨w.heap.size + 1, 5, none⟩ = some (.int .i64 d.bat.cmd)) := fun o => HSo (x5.alloc o) (B5.alloc B5.size o)
                      have U2c : Hid (y5.cell? ⟨w.heap.size, 6, none⟩ = some (.slice none 0 0) ∧ y5.cell? ⟨w.heap.size + 1, 5, none⟩ = some (.int .i64 d.bat.cmd)) := HSo y5 D5
                      have U2d : Hid (z5.cell? ⟨w.heap.size, 6, none⟩ = some (.slice none 0 0) ∧ z5.cell? ⟨w.heap.size + 1, 5, none⟩ = some (.int .i64 d.bat.cmd)) := HSo z5 R9.bel
                      have U2e : Hid (∀ v, (z5.setCell ⟨QT, 6, none⟩ v).cell? ⟨w.heap.size, 6, none⟩ = some (.slice none 0 0) ∧ (z5.setCell ⟨QT, 6, none⟩ v).cell? ⟨w.heap.size + 1, 5, none⟩ = some (.int .i64 d.bat.cmd)) := fun v => HSs z5 v R9.bel
                      have k2 := (HTz.out.below R9.bel).cell (i := 6) rfl
                      have q2 := (HTz.out.below R9.bel).frozen 6
                      have F2 : Hid (∃ wf A n C', Value.slice A9 n9_ C9 = .slice A n C' ∧ RG wz wf 3 1 (.slice A9 n9_ C9) (0 + 1) ((s.seen.take 0 ++ d.bat.cmd :: s.seen.drop 0).flatMap inCells) ∧ z5.setCell ⟨QT, 6, none⟩ (.slice A9 n9_ C9) = wf.setCell ⟨QT, 6, none⟩ (.slice A9 n9_ C9)) := ⟨z5, A9, n9_, C9, rfl, HEQ.out _ _ R9, rfl⟩
                      clear HSo HSs bA B1 B3 B5 D1 D3 D5 R3 R6 R9 
                      go_region_held3 (fun w' => w'.cell? ⟨w.heap.size, 6, none⟩ = some (.slice none 0 0) ∧ w'.cell? ⟨w.heap.size + 1, 5, none⟩ = some (.int .i64 d.bat.cmd))
                        (first | with_reducible assumption | with_reducible exact TD | with_reducible exact T1.out _ | with_reducible exact T2.out _ _ | with_reducible exact U0a.out | with_reducible exact U0b.out _ | with_reducible exact U0c.out | with_reducible exact U0d.out | with_reducible exact U0e.out _ | with_reducible exact U1a.out | with_reducible exact U1b.out _ | with_reducible exact U1c.out | with_reducible exact U1d.out | with_reducible exact U1e.out _ | with_reducible exact U2a.out | with_reducible exact U2b.out _ | with_reducible exact U2c.out | with_reducible exact U2d.out | with_reducible exact U2e.out _)
                        (first | (refine app_eqz r1 (.tmp 154) (.tmp 158) (by with_reducible rfl) (by rfl) (by rfl) (by rfl) (by rfl) (by rfl) ?_) | (refine app_eqz r4 (.tmp 154) (.tmp 158) (by with_reducible rfl) (by rfl) (by rfl) (by rfl) (by rfl) (by rfl) ?_) | (refine app_eqz r7 (.tmp 154) (.tmp 158) (by with_reducible rfl) (by rfl) (by rfl) (by rfl) (by rfl) (by rfl) ?_) | (refine app_eqz r2 (.tmp 159) (.tmp 163) (by with_reducible rfl) (by rfl) (by rfl) (by rfl) (by rfl) (by rfl) ?_) | (refine app_eqz r5 (.tmp 159) (.tmp 163) (by with_reducible rfl) (by rfl) (by rfl) (by rfl) (by rfl) (by rfl) ?_) | (refine app_eqz r8 (.tmp 159) (.tmp 163) (by with_reducible rfl) (by rfl) (by rfl) (by rfl) (by rfl) (by rfl) ?_) | (refine app_eqz r3 (.tmp 164) (.tmp 168) (by with_reducible rfl) (by rfl) (by rfl) (by rfl) (by rfl) (by rfl) ?_) | (refine app_eqz r6 (.tmp 164) (.tmp 168) (by with_reducible rfl) (by rfl) (by rfl) (by rfl) (by rfl) (by rfl) ?_) | (refine app_eqz r9 (.tmp 164) (.tmp 168) (by with_reducible rfl) (by rfl) (by rfl) (by rfl) (by rfl) (by rfl) ?_))
                      all_goals go_wp2_with fail
                      all_goals go_meet
                      all_goals first | with_reducible exact F0 | with_reducible exact F1 | with_reducible exact F2
                    | some a =>
                      obtain ⟨b6, o6, sp⟩ := a
                      obtain ⟨_, e0⟩ := HPV.out _ _ _ rfl
                      obtain rfl : sp = none := e0 _ rfl
                      have HNZ := HNZ0.out
                      have htk : ∀ a : Addr, some (⟨b6, o6, none⟩ : Addr) = some a → ∀ j u, ((s.seen.take at9).flatMap inCells)[j]? = some u → wz.cell? (a.add j) = some u := fun a ha j u hj => by
                        refine nms_cells HNZ 0 a (by rw [Nat.add_zero]; exact ha) j u ?_
                        rw [List.drop_zero, ← List.take_append_drop at9 s.seen, List.flatMap_append, List.getElem?_append_left (List.getElem?_eq_some_iff.1 hj).1]
                        exact hj
                      by_cases hcc : Cs = at9
                      · obtain rfl : k = at9 := by omega
                        subst hcc
                        have HSo : ∀ w', Below wz.heap.size wz w' → w'.cell? ⟨w.heap.size, 6, none⟩ = some (.slice (some ⟨b6, o6, none⟩) Cs Cs) ∧ w'.cell? ⟨w.heap.size + 1, 5, none⟩ = some (.int .i64 d.bat.cmd) := fun w' hb => ⟨(HPz.out.st.below hb).cell (i := 6) rfl, (HPz.out.dc.below hb).cell (i := 5) rfl⟩
                        have HSs : ∀ w' v, Below wz.heap.size wz w' → (w'.setCell ⟨QT, 6, none⟩ v).cell? ⟨w.heap.size, 6, none⟩ = some (.slice (some ⟨b6, o6, none⟩) Cs Cs) ∧ (w'.setCell ⟨QT, 6, none⟩ v).cell? ⟨w.heap.size + 1, 5, none⟩ = some (.int .i64 d.bat.cmd) := fun w' v hb => ⟨((HPz.out.st.below hb).off (off_set w' ⟨QT, 6, none⟩ v) (by show ¬ w.heap.size = QT; omega)).cell (i := 6) rfl, ((HPz.out.dc.below hb).off (off_set w' ⟨QT, 6, none⟩ v) (by show ¬ w.heap.size + 1 = QT; omega)).cell (i := 5) rfl⟩
                        have bA : ∀ o, Below wz.heap.size wz (wz.alloc o) := fun o => (Below.refl _ _).alloc (Nat.le_refl _) o
                        have HEQ : Hid (∀ (wf : World) (v : Value), RG wz wf 3 1 v (Cs + 1 + 0) ((s.seen.take Cs ++ d.bat.cmd :: s.seen.drop Cs).flatMap inCells) → RG wz wf 3 1 v (Cs + 1) ((s.seen.take Cs ++ d.bat.cmd :: s.seen.drop Cs).flatMap inCells)) := fun wf v hR => by
                          rw [show Cs + 1 + 0 = Cs + 1 by omega] at hR
                          exact hR
                        obtain ⟨⟨A1, n1, C1, x1, A2, n2, C2, y1, A7, n7, C7, z1, r1, B1, r2, D1, r3, R3⟩, ⟨A3, n3, C3, x3, A4, n4, C4, y3, A8, n8, C8, z3, r4, B3, r5, D3, r6, R6⟩, ⟨A5, n5, C5, x5, A6, n6, C6, y5, A9, n9_, C9, z5, r7, B5, r8, D5, r9, R9⟩⟩ := app_three wz (some ⟨b6, o6, none⟩) Cs Cs (fun e => by cases e) (s.seen.take Cs) (by rw [List.length_take, ← HM.out]; omega) (fun a ha j u hj => htk a ha j u hj) d.bat.cmd (some ⟨b6, o6, none⟩) 0 0 (fun e => by cases e) (s.seen.drop Cs) (by rw [List.length_drop, ← HM.out]; omega) (fun a ha j u hj => by rw [show s.seen.drop Cs = [] from List.eq_nil_of_length_eq_zero (by rw [List.length_drop, ← HM.out]; omega)] at hj; cases hj) (by omega) (by omega)
                        have TD := HSo wz.drew (Below.refl _ _).drew
                        have T1 : Hid (∀ o, (wz.alloc o).drew.cell? ⟨w.heap.size, 6, none⟩ = some (.slice (some ⟨b6, o6, none⟩) Cs Cs) ∧ (wz.alloc o).drew.cell? ⟨w.heap.size + 1, 5, none⟩ = some (.int .i64 d.bat.cmd)) := fun o => HSo (wz.alloc o).drew (bA o).drew
                        have T2 : Hid (∀ o o', ((wz.alloc o).alloc o').drew.cell? ⟨w.heap.size, 6, none⟩ = some (.slice (some ⟨b6, o6, none⟩) Cs Cs) ∧ ((wz.alloc o).alloc o').drew.cell? ⟨w.heap.size + 1, 5, none⟩ = some (.int .i64 d.bat.cmd)) := fun o o' => HSo ((wz.alloc o).alloc o').drew ((bA o).alloc (bA o).size o').drew
                        have U0a : Hid (x1.cell? ⟨w.heap.size, 6, none⟩ = some (.slice (some ⟨b6, o6, none⟩) Cs Cs) ∧ x1.cell? ⟨w.heap.size + 1, 5, none⟩ = some (.int .i64 d.bat.cmd)) := HSo x1 B1
                        have U0b : Hid (∀ o, (x1.alloc o).cell? ⟨w.heap.size, 6, none⟩ = some (.slice (some ⟨b6, o6, none⟩) Cs Cs) ∧ (x1.alloc o).cell? ⟨w.heap.size + 1, 5, none⟩ = some (.int .i64 d.bat.cmd)) := fun o => HSo (x1.alloc o) (B1.alloc B1.size o)
                        have U0c : Hid (y1.cell? ⟨w.heap.size, 6, none⟩ = some (.slice (some ⟨b6, o6, none⟩) Cs Cs) ∧ y1.cell? ⟨w.heap.size + 1, 5, none⟩ = some (.int .i64 d.bat.cmd)) := HSo y1 D1
                        have U0d : Hid (z1.cell? ⟨w.heap.size, 6, none⟩ = some (.slice (some ⟨b6, o6, none⟩) Cs Cs) ∧ z1.cell? ⟨w.heap.size + 1, 5, none⟩ = some (.int .i64 d.bat.cmd)) := HSo z1 R3.bel
                        have U0e : Hid (∀ v, (z1.setCell ⟨QT, 6, none⟩ v).cell? ⟨w.heap.size, 6, none⟩ = some (.slice (some ⟨b6, o6, none⟩) Cs Cs) ∧ (z1.setCell ⟨QT, 6, none⟩ v).cell? ⟨w.heap.size + 1, 5, none⟩ = some (.int .i64 d.bat.cmd)) := fun v => HSs z1 v R3.bel
                        have k0 := (HTz.out.below R3.bel).cell (i := 6) rfl
                        have q0 := (HTz.out.below R3.bel).frozen 6
                        have F0 : Hid (∃ wf A n C', Value.slice A7 n7 C7 = .slice A n C' ∧ RG wz wf 3 1 (.slice A7 n7 C7) (Cs + 1) ((s.seen.take Cs ++ d.bat.cmd :: s.seen.drop Cs).flatMap inCells) ∧ z1.setCell ⟨QT, 6, none⟩ (.slice A7 n7 C7) = wf.setCell ⟨QT, 6, none⟩ (.slice A7 n7 C7)) := ⟨z1, A7, n7, C7, rfl, HEQ.out _ _ R3, rfl⟩
                        have U1a : Hid (x3.cell? ⟨w.heap.size, 6, none⟩ = some (.slice (some ⟨b6, o6, none⟩) Cs Cs) ∧ x3.cell? ⟨w.heap.size + 1, 5, none⟩ = some (.int .i64 d.bat.cmd)) := HSo x3 B3
                        have U1b : Hid (∀ o, (x3.alloc o).cell? ⟨w.heap.size, 6, none⟩ = some (.slice (some ⟨b6, o6, none⟩) Cs Cs) ∧ (x3.alloc o).cell? ⟨w.heap.size + 1, 5, none⟩ = some (.int .i64 d.bat.cmd)) := fun o => HSo (x3.alloc o) (B3.alloc B3.size o)
                        have U1c : Hid (y3.cell? ⟨w.heap.size, 6, none⟩ = some (.slice (some ⟨b6, o6, none⟩) Cs Cs) ∧ y3.cell? ⟨w.heap.size + 1, 5, none⟩ = some (.int .i64 d.bat.cmd)) := HSo y3 D3
                        have U1d : Hid (z3.cell? ⟨w.heap.size, 6, none⟩ = some (.slice (some ⟨b6, o6, none⟩) Cs Cs) ∧ z3.cell? ⟨w.heap.size + 1, 5, none⟩ = some (.int .i64 d.bat.cmd)) := HSo z3 R6.bel
                        have U1e : Hid (∀ v, (z3.setCell ⟨QT, 6, none⟩ v).cell? ⟨w.heap.size, 6, none⟩ = some (.slice (some ⟨b6, o6, none⟩) Cs Cs) ∧ (z3.setCell ⟨QT, 6, none⟩ v).cell? ⟨w.heap.size + 1, 5, none⟩ = some (.int .i64 d.bat.cmd)) := fun v => HSs z3 v R6.bel
                        have k1 := (HTz.out.below R6.bel).cell (i := 6) rfl
                        have q1 := (HTz.out.below R6.bel).frozen 6
                        have F1 : Hid (∃ wf A n C', Value.slice A8 n8 C8 = .slice A n C' ∧ RG wz wf 3 1 (.slice A8 n8 C8) (Cs + 1) ((s.seen.take Cs ++ d.bat.cmd :: s.seen.drop Cs).flatMap inCells) ∧ z3.setCell ⟨QT, 6, none⟩ (.slice A8 n8 C8) = wf.setCell ⟨QT, 6, none⟩ (.slice A8 n8 C8)) := ⟨z3, A8, n8, C8, rfl, HEQ.out _ _ R6, rfl⟩
                        have U2a : Hid (x5.cell? ⟨w.heap.size, 6, none⟩ = some (.slice (some ⟨b6, o6, none⟩) Cs Cs) ∧ x5.cell? ⟨w.heap.size + 1, 5, none⟩ = some (.int .i64 d.bat.cmd)) := HSo x5 B5
                        have U2b : Hid (∀ o, (x5.alloc o).cell? ⟨w.heap.size, 6, none⟩ = some (.slice (some ⟨b6, o6, none⟩) Cs Cs) ∧ (x5.alloc o).cell? ⟨w.heap.size + 1, 5, none⟩ = some (.int .i64 d.bat.cmd)) := fun o => HSo (x5.alloc o) (B5.alloc B5.size o)
                        have U2c : Hid (y5.cell? ⟨w.heap.size, 6, none⟩ = some (.slice (some ⟨b6, o6, none⟩) Cs Cs) ∧ y5.cell? ⟨w.heap.size + 1, 5, none⟩ = some (.int .i64 d.bat.cmd)) := HSo y5 D5
                        have U2d : Hid (z5.cell? ⟨w.heap.size, 6, none⟩ = some (.slice (some ⟨b6, o6, none⟩) Cs Cs) ∧ z5.cell? ⟨w.heap.size + 1, 5, none⟩ = some (.int .i64 d.bat.cmd)) := HSo z5 R9.bel
                        have U2e : Hid (∀ v, (z5.setCell ⟨QT, 6, none⟩ v).cell? ⟨w.heap.size, 6, none⟩ = some (.slice (some ⟨b6, o6, none⟩) Cs Cs) ∧ (z5.setCell ⟨QT, 6, none⟩ v).cell? ⟨w.heap.size + 1, 5, none⟩ = some (.int .i64 d.bat.cmd)) := fun v => HSs z5 v R9.bel
                        have k2 := (HTz.out.below R9.bel).cell (i := 6) rfl
                        have q2 := (HTz.out.below R9.bel).frozen 6
                        have F2 : Hid (∃ wf A n C', Value.slice A9 n9_ C9 = .slice A n C' ∧ RG wz wf 3 1 (.slice A9 n9_ C9) (Cs + 1) ((s.seen.take Cs ++ d.bat.cmd :: s.seen.drop Cs).flatMap inCells) ∧ z5.setCell ⟨QT, 6, none⟩ (.slice A9 n9_ C9) = wf.setCell ⟨QT, 6, none⟩ (.slice A9 n9_ C9)) := ⟨z5, A9, n9_, C9, rfl, HEQ.out _ _ R9, rfl⟩
                        clear HSo HSs bA B1 B3 B5 D1 D3 D5 R3 R6 R9 HNZ htk
                        go_region_held3 (fun w' => w'.cell? ⟨w.heap.size, 6, none⟩ = some (.slice (some ⟨b6, o6, none⟩) Cs Cs) ∧ w'.cell? ⟨w.heap.size + 1, 5, none⟩ = some (.int .i64 d.bat.cmd))
                          (first | with_reducible assumption | with_reducible exact TD | with_reducible exact T1.out _ | with_reducible exact T2.out _ _ | with_reducible exact U0a.out | with_reducible exact U0b.out _ | with_reducible exact U0c.out | with_reducible exact U0d.out | with_reducible exact U0e.out _ | with_reducible exact U1a.out | with_reducible exact U1b.out _ | with_reducible exact U1c.out | with_reducible exact U1d.out | with_reducible exact U1e.out _ | with_reducible exact U2a.out | with_reducible exact U2b.out _ | with_reducible exact U2c.out | with_reducible exact U2d.out | with_reducible exact U2e.out _)
                          (first | (refine app_eqz r1 (.tmp 154) (.tmp 158) (by with_reducible rfl) (by rfl) (by rfl) (by rfl) (by rfl) (by rfl) ?_) | (refine app_eqz r4 (.tmp 154) (.tmp 158) (by with_reducible rfl) (by rfl) (by rfl) (by rfl) (by rfl) (by rfl) ?_) | (refine app_eqz r7 (.tmp 154) (.tmp 158) (by with_reducible rfl) (by rfl) (by rfl) (by rfl) (by rfl) (by rfl) ?_) | (refine app_eqz r2 (.tmp 159) (.tmp 163) (by with_reducible rfl) (by rfl) (by rfl) (by rfl) (by rfl) (by rfl) ?_) | (refine app_eqz r5 (.tmp 159) (.tmp 163) (by with_reducible rfl) (by rfl) (by rfl) (by rfl) (by rfl) (by rfl) ?_) | (refine app_eqz r8 (.tmp 159) (.tmp 163) (by with_reducible rfl) (by rfl) (by rfl) (by rfl) (by rfl) (by rfl) ?_) | (refine app_eqz r3 (.tmp 164) (.tmp 168) (by with_reducible rfl) (by rfl) (by rfl) (by rfl) (by rfl) (by rfl) ?_) | (refine app_eqz r6 (.tmp 164) (.tmp 168) (by with_reducible rfl) (by rfl) (by rfl) (by rfl) (by rfl) (by rfl) ?_) | (refine app_eqz r9 (.tmp 164) (.tmp 168) (by with_reducible rfl) (by rfl) (by rfl) (by rfl) (by rfl) (by rfl) ?_))
                        all_goals go_wp2_with fail
                        all_goals go_meet
                        all_goals first | with_reducible exact F0 | with_reducible exact F1 | with_reducible exact F2
                      · have hcc' : ¬ Cs = at9 := hcc
                        have HSo : ∀ w', Below wz.heap.size wz w' → w'.cell? ⟨w.heap.size, 6, none⟩ = some (.slice (some ⟨b6, o6, none⟩) k Cs) ∧ w'.cell? ⟨w.heap.size + 1, 5, none⟩ = some (.int .i64 d.bat.cmd) := fun w' hb => ⟨(HPz.out.st.below hb).cell (i := 6) rfl, (HPz.out.dc.below hb).cell (i := 5) rfl⟩
                        have HSs : ∀ w' v, Below wz.heap.size wz w' → (w'.setCell ⟨QT, 6, none⟩ v).cell? ⟨w.heap.size, 6, none⟩ = some (.slice (some ⟨b6, o6, none⟩) k Cs) ∧ (w'.setCell ⟨QT, 6, none⟩ v).cell? ⟨w.heap.size + 1, 5, none⟩ = some (.int .i64 d.bat.cmd) := fun w' v hb => ⟨((HPz.out.st.below hb).off (off_set w' ⟨QT, 6, none⟩ v) (by show ¬ w.heap.size = QT; omega)).cell (i := 6) rfl, ((HPz.out.dc.below hb).off (off_set w' ⟨QT, 6, none⟩ v) (by show ¬ w.heap.size + 1 = QT; omega)).cell (i := 5) rfl⟩
                        have bA : ∀ o, Below wz.heap.size wz (wz.alloc o) := fun o => (Below.refl _ _).alloc (Nat.le_refl _) o
                        have HEQ : Hid (∀ (wf : World) (v : Value), RG wz wf 3 1 v (at9 + 1 + (k - at9)) ((s.seen.take at9 ++ d.bat.cmd :: s.seen.drop at9).flatMap inCells) → RG wz wf 3 1 v (k + 1) ((s.seen.take at9 ++ d.bat.cmd :: s.seen.drop at9).flatMap inCells)) := fun wf v hR => by
                          rw [show at9 + 1 + (k - at9) = k + 1 by omega] at hR
                          exact hR
                        obtain ⟨⟨A1, n1, C1, x1, A2, n2, C2, y1, A7, n7, C7, z1, r1, B1, r2, D1, r3, R3⟩, ⟨A3, n3, C3, x3, A4, n4, C4, y3, A8, n8, C8, z3, r4, B3, r5, D3, r6, R6⟩, ⟨A5, n5, C5, x5, A6, n6, C6, y5, A9, n9_, C9, z5, r7, B5, r8, D5, r9, R9⟩⟩ := app_three wz (some ⟨b6, o6, none⟩) at9 Cs (fun e => by cases e) (s.seen.take at9) (by rw [List.length_take, ← HM.out]; omega) (fun a ha j u hj => htk a ha j u hj) d.bat.cmd (some ⟨b6, o6 + at9, none⟩) (k - at9) (Cs - at9) (fun e => by cases e) (s.seen.drop at9) (by rw [List.length_drop, ← HM.out]) (nms_cells HNZ at9) (by omega) (by omega)
                        have TD := HSo wz.drew (Below.refl _ _).drew
                        have T1 : Hid (∀ o, (wz.alloc o).drew.cell? ⟨w.heap.size, 6, none⟩ = some (.slice (some ⟨b6, o6, none⟩) k Cs) ∧ (wz.alloc o).drew.cell? ⟨w.heap.size + 1, 5, none⟩ = some (.int .i64 d.bat.cmd)) := fun o => HSo (wz.alloc o).drew (bA o).drew
                        have T2 : Hid (∀ o o', ((wz.alloc o).alloc o').drew.cell? ⟨w.heap.size, 6, none⟩ = some (.slice (some ⟨b6, o6, none⟩) k Cs) ∧ ((wz.alloc o).alloc o').drew.cell? ⟨w.heap.size + 1, 5, none⟩ = some (.int .i64 d.bat.cmd)) := fun o o' => HSo ((wz.alloc o).alloc o').drew ((bA o).alloc (bA o).size o').drew
                        have U0a : Hid (x1.cell? ⟨w.heap.size, 6, none⟩ = some (.slice (some ⟨b6, o6, none⟩) k Cs) ∧ x1.cell? ⟨w.heap.size + 1, 5, none⟩ = some (.int .i64 d.bat.cmd)) := HSo x1 B1
                        have U0b : Hid (∀ o, (x1.alloc o).cell? ⟨w.heap.size, 6, none⟩ = some (.slice (some ⟨b6, o6, none⟩) k Cs) ∧ (x1.alloc o).cell? ⟨w.heap.size + 1, 5, none⟩ = some (.int .i64 d.bat.cmd)) := fun o => HSo (x1.alloc o) (B1.alloc B1.size o)
                        have U0c : Hid (y1.cell? ⟨w.heap.size, 6, none⟩ = some (.slice (some ⟨b6, o6, none⟩) k Cs) ∧ y1.cell? ⟨w.heap.size + 1, 5, none⟩ = some (.int .i64 d.bat.cmd)) := HSo y1 D1
                        have U0d : Hid (z1.cell? ⟨w.heap.size, 6, none⟩ = some (.slice (some ⟨b6, o6, none⟩) k Cs) ∧ z1.cell? ⟨w.heap.size + 1, 5, none⟩ = some (.int .i64 d.bat.cmd)) := HSo z1 R3.bel
                        have U0e : Hid (∀ v, (z1.setCell ⟨QT, 6, none⟩ v).cell? ⟨w.heap.size, 6, none⟩ = some (.slice (some ⟨b6, o6, none⟩) k Cs) ∧ (z1.setCell ⟨QT, 6, none⟩ v).cell? ⟨w.heap.size + 1, 5, none⟩ = some (.int .i64 d.bat.cmd)) := fun v => HSs z1 v R3.bel
                        have k0 := (HTz.out.below R3.bel).cell (i := 6) rfl
                        have q0 := (HTz.out.below R3.bel).frozen 6
                        have F0 : Hid (∃ wf A n C', Value.slice A7 n7 C7 = .slice A n C' ∧ RG wz wf 3 1 (.slice A7 n7 C7) (k + 1) ((s.seen.take at9 ++ d.bat.cmd :: s.seen.drop at9).flatMap inCells) ∧ z1.setCell ⟨QT, 6, none⟩ (.slice A7 n7 C7) = wf.setCell ⟨QT, 6, none⟩ (.slice A7 n7 C7)) := ⟨z1, A7, n7, C7, rfl, HEQ.out _ _ R3, rfl⟩
                        have U1a : Hid (x3.cell? ⟨w.heap.size, 6, none⟩ = some (.slice (some ⟨b6, o6, none⟩) k Cs) ∧ x3.cell? ⟨w.heap.size + 1, 5, none⟩ = some (.int .i64 d.bat.cmd)) := HSo x3 B3
                        have U1b : Hid (∀ o, (x3.alloc o).cell? ⟨w.heap.size, 6, none⟩ = some (.slice (some ⟨b6, o6, none⟩) k Cs) ∧ (x3.alloc o).cell? ⟨w.heap.size + 1, 5, none⟩ = some (.int .i64 d.bat.cmd)) := fun o => HSo (x3.alloc o) (B3.alloc B3.size o)
                        have U1c : Hid (y3.cell? ⟨w.heap.size, 6, none⟩ = some (.slice (some ⟨b6, o6, none⟩) k Cs) ∧ y3.cell? ⟨w.heap.size + 1, 5, none⟩ = some (.int .i64 d.bat.cmd)) := HSo y3 D3
                        have U1d : Hid (z3.cell? ⟨w.heap.size, 6, none⟩ = some (.slice (some ⟨b6, o6, none⟩) k Cs) ∧ z3.cell? ⟨w.heap.size + 1, 5, none⟩ = some (.int .i64 d.bat.cmd)) := HSo z3 R6.bel
                        have U1e : Hid (∀ v, (z3.setCell ⟨QT, 6, none⟩ v).cell? ⟨w.heap.size, 6, none⟩ = some (.slice (some ⟨b6, o6, none⟩) k Cs) ∧ (z3.setCell ⟨QT, 6, none⟩ v).cell? ⟨w.heap.size + 1, 5, none⟩ = some (.int .i64 d.bat.cmd)) := fun v => HSs z3 v R6.bel
                        have k1 := (HTz.out.below R6.bel).cell (i := 6) rfl
                        have q1 := (HTz.out.below R6.bel).frozen 6
                        have F1 : Hid (∃ wf A n C', Value.slice A8 n8 C8 = .slice A n C' ∧ RG wz wf 3 1 (.slice A8 n8 C8) (k + 1) ((s.seen.take at9 ++ d.bat.cmd :: s.seen.drop at9).flatMap inCells) ∧ z3.setCell ⟨QT, 6, none⟩ (.slice A8 n8 C8) = wf.setCell ⟨QT, 6, none⟩ (.slice A8 n8 C8)) := ⟨z3, A8, n8, C8, rfl, HEQ.out _ _ R6, rfl⟩
                        have U2a : Hid (x5.cell? ⟨w.heap.size, 6, none⟩ = some (.slice (some ⟨b6, o6, none⟩) k Cs) ∧ x5.cell? ⟨w.heap.size + 1, 5, none⟩ = some (.int .i64 d.bat.cmd)) := HSo x5 B5
                        have U2b : Hid (∀ o, (x5.alloc o).cell? ⟨w.heap.size, 6, none⟩ = some (.slice (some ⟨b6, o6, none⟩) k Cs) ∧ (x5.alloc o).cell? ⟨w.heap.size + 1, 5, none⟩ = some (.int .i64 d.bat.cmd)) := fun o => HSo (x5.alloc o) (B5.alloc B5.size o)
                        have U2c : Hid (y5.cell? ⟨w.heap.size, 6, none⟩ = some (.slice (some ⟨b6, o6, none⟩) k Cs) ∧ y5.cell? ⟨w.heap.size + 1, 5, none⟩ = some (.int .i64 d.bat.cmd)) := HSo y5 D5
                        have U2d : Hid (z5.cell? ⟨w.heap.size, 6, none⟩ = some (.slice (some ⟨b6, o6, none⟩) k Cs) ∧ z5.cell? ⟨w.heap.size + 1, 5, none⟩ = some (.int .i64 d.bat.cmd)) := HSo z5 R9.bel
                        have U2e : Hid (∀ v, (z5.setCell ⟨QT, 6, none⟩ v).cell? ⟨w.heap.size, 6, none⟩ = some (.slice (some ⟨b6, o6, none⟩) k Cs) ∧ (z5.setCell ⟨QT, 6, none⟩ v).cell? ⟨w.heap.size + 1, 5, none⟩ = some (.int .i64 d.bat.cmd)) := fun v => HSs z5 v R9.bel
                        have k2 := (HTz.out.below R9.bel).cell (i := 6) rfl
                        have q2 := (HTz.out.below R9.bel).frozen 6
                        have F2 : Hid (∃ wf A n C', Value.slice A9 n9_ C9 = .slice A n C' ∧ RG wz wf 3 1 (.slice A9 n9_ C9) (k + 1) ((s.seen.take at9 ++ d.bat.cmd :: s.seen.drop at9).flatMap inCells) ∧ z5.setCell ⟨QT, 6, none⟩ (.slice A9 n9_ C9) = wf.setCell ⟨QT, 6, none⟩ (.slice A9 n9_ C9)) := ⟨z5, A9, n9_, C9, rfl, HEQ.out _ _ R9, rfl⟩
                        clear HSo HSs bA B1 B3 B5 D1 D3 D5 R3 R6 R9 HNZ htk
                        go_region_held3 (fun w' => w'.cell? ⟨w.heap.size, 6, none⟩ = some (.slice (some ⟨b6, o6, none⟩) k Cs) ∧ w'.cell? ⟨w.heap.size + 1, 5, none⟩ = some (.int .i64 d.bat.cmd))
                          (first | with_reducible assumption | with_reducible exact TD | with_reducible exact T1.out _ | with_reducible exact T2.out _ _ | with_reducible exact U0a.out | with_reducible exact U0b.out _ | with_reducible exact U0c.out | with_reducible exact U0d.out | with_reducible exact U0e.out _ | with_reducible exact U1a.out | with_reducible exact U1b.out _ | with_reducible exact U1c.out | with_reducible exact U1d.out | with_reducible exact U1e.out _ | with_reducible exact U2a.out | with_reducible exact U2b.out _ | with_reducible exact U2c.out | with_reducible exact U2d.out | with_reducible exact U2e.out _)
                          (first | (refine app_eqz r1 (.tmp 154) (.tmp 158) (by with_reducible rfl) (by rfl) (by rfl) (by rfl) (by rfl) (by rfl) ?_) | (refine app_eqz r4 (.tmp 154) (.tmp 158) (by with_reducible rfl) (by rfl) (by rfl) (by rfl) (by rfl) (by rfl) ?_) | (refine app_eqz r7 (.tmp 154) (.tmp 158) (by with_reducible rfl) (by rfl) (by rfl) (by rfl) (by rfl) (by rfl) ?_) | (refine app_eqz r2 (.tmp 159) (.tmp 163) (by with_reducible rfl) (by rfl) (by rfl) (by rfl) (by rfl) (by rfl) ?_) | (refine app_eqz r5 (.tmp 159) (.tmp 163) (by with_reducible rfl) (by rfl) (by rfl) (by rfl) (by rfl) (by rfl) ?_) | (refine app_eqz r8 (.tmp 159) (.tmp 163) (by with_reducible rfl) (by rfl) (by rfl) (by rfl) (by rfl) (by rfl) ?_) | (refine app_eqz r3 (.tmp 164) (.tmp 168) (by with_reducible rfl) (by rfl) (by rfl) (by rfl) (by rfl) (by rfl) ?_) | (refine app_eqz r6 (.tmp 164) (.tmp 168) (by with_reducible rfl) (by rfl) (by rfl) (by rfl) (by rfl) (by rfl) ?_) | (refine app_eqz r9 (.tmp 164) (.tmp 168) (by with_reducible rfl) (by rfl) (by rfl) (by rfl) (by rfl) (by rfl) ?_))
                        all_goals go_wp2_with fail
                        all_goals go_meet
                        all_goals first | with_reducible exact F0 | with_reducible exact F1 | with_reducible exact F2
                  case rest =>
                    obtain ⟨wf, A16, n16, C16, hv16, hRG, hwx⟩ := hcut.out
                    obtain ⟨w16, hw16⟩ : ∃ y, y = wc := ⟨wc, rfl⟩
                    rw [← hw16] at hwx ⊢
                    subst hv16
                    have hQTz : QT < wz.heap.size := RowC.lt HTz.out
                    have hN8 := HP8.out.size
                    have hofw : Off (fun q => q = QT) wf w16 := by
                      rw [hwx]
                      exact off_set wf ⟨QT, 6, none⟩ _
                    have hof16 : Off (fun q => q = QT) wz w16 := (Off.of_below hRG.bel).trans hofw
                    have VT16 := (HTz.out.below hRG.bel).set 6 (.slice A16 n16 C16) (show 6 < 9 by decide)
                    rw [← hwx] at VT16
                    have B16 : Below w8.heap.size w8 w16 := HBz.out.trans (hof16.below HBz.out.size fun q hq => by
                      have hq : q = QT := hq
                      omega)
                    have PJ16 := HPz.out.off hof16 (fun q hq => by
                      have hq : q = QT := hq
                      omega)
                    have VV16 := HVV.out.below B16
                    have hVQ : QV ≠ QT := VV16.ty.ne VT16.ty (by decide)
                    have v0 := VV16.cell (i := 0) rfl
                    have v1 := VV16.cell (i := 1) rfl
                    have t7 := VT16.cell (i := 7) rfl
                    have t8 := VT16.cell (i := 8) rfl
                    have f7 := VT16.frozen 7
                    have f8 := VT16.frozen 8
                    have HT16 : Hid (VarN w16 QT 32 (stL c (.slice (some ⟨D, 0, none⟩) n9 C) (G : Int) (.slice A9 n8 C9) (.slice A16 n16 C16) s.u (.slice Aa na Ca))) := VT16
                    have HP16 : Hid (PJ w w16 (stL c (.slice Ad nd Cd) (s.segs : Int) (.slice At nt Ct) (.slice As k Cs) s.u (.slice Aa na Ca)) (doCells d (.slice Ae ne Ce) t)) := PJ16
                    have HV16 : Hid (VarN w16 QV 30 [.int .i64 u4, .slice Av nv Cv]) := VV16
                    have HB16 : Hid (Below w8.heap.size w8 w16) := B16
                    have HO16 : Hid (Off (fun q => q = QT) wz w16 ∧ Off (fun q => q = QT) wf w16 ∧ RG wz wf 3 1 (.slice A16 n16 C16) (k + 1) ((s.seen.take at9 ++ d.bat.cmd :: s.seen.drop at9).flatMap inCells)) := ⟨hof16, hofw, hRG⟩
                    clear hcut hRG hwx hof16 hofw VT16 PJ16 VV16 B16 hw16
                    go_upto_region 32 with fail
                    obtain ⟨w17, hw17⟩ : ∃ q, q = (w16.setCell ⟨QT, 7, none⟩ (.int .i64 u4)).setCell ⟨QT, 8, none⟩ (.slice Av nv Cv) := ⟨_, rfl⟩
                    rw [← hw17]
                    have hof17 : Off (fun q => q = QT) w16 w17 := by
                      rw [hw17]
                      exact (off_set w16 ⟨QT, 7, none⟩ _).trans (off_set _ ⟨QT, 8, none⟩ _)
                    have VT17 := (HT16.out.set 7 (.int .i64 u4) (show 7 < 9 by decide)).set 8 (.slice Av nv Cv) (show 8 < 9 by decide)
                    rw [← hw17] at VT17
                    have PJ17 := HP16.out.off hof17 (fun q hq => by
                      have hq : q = QT := hq
                      omega)
                    have VV17 := HV16.out.off hof17 hVQ
                    have B17 : Below w8.heap.size w8 w17 := HB16.out.trans (hof17.below HB16.out.size fun q hq => by
                      have hq : q = QT := hq
                      omega)
                    have HFZ : Hid (∀ wE, Off (fun q => q = w.heap.size + 1 + 1 ∨ q = w.heap.size + 1 + 1 + 1) w17 wE → StepO (.returned (.tuple #[stA (c.d : Int) (c.s : Int) (c.b : Int) (.slice (some ⟨D, 0, none⟩) n9 C) (G : Int) (.slice A9 n8 C9) (.slice A16 n16 C16) u4 (.slice Av nv Cv), .agg #[.int .i64 0, .int .i64 u4, .slice none 0 0, .int .i64 0, .slice none 0 0]])) T w wE c r) := fun wE hoE => by
                      obtain ⟨o1, o2, hRG⟩ := HO16.out
                      have o3 : Off (fun q => q = w.heap.size + 1 + 1 ∨ q = w.heap.size + 1 + 1 + 1 ∨ T q = true) w17 (blank T wE) := (hoE.wider fun _ z => z.imp id Or.inl).trans ((off_blank T wE).wider fun _ z => Or.inr (Or.inr z))
                      have oz := ((o1.wider fun _ z => Or.inl z).trans (hof17.wider fun _ z => Or.inl z)).trans (o3.wider fun _ z => Or.inr (a := _ = QT) z)
                      have of_ := ((o2.wider fun _ z => Or.inl z).trans (hof17.wider fun _ z => Or.inl z)).trans (o3.wider fun _ z => Or.inr (a := _ = QT) z)
                      obtain ⟨d1, d2⟩ := HSTz.out _ oz
                      have hown : (blank T wE).ownsRow wz.heap.size 3 1 (.slice A16 n16 C16) (k + 1) ((s.seen.take at9 ++ d.bat.cmd :: s.seen.drop at9).flatMap inCells) := owns_off hRG.own of_ fun g hg z => by
                        have := (hRG.own.lt g hg).1
                        have := HBz.out.size
                        rcases z with z | z | z | z
                        · omega
                        · omega
                        · omega
                        · have := HT.out g z
                          omega
                      have hsl : (s.seen.take at9 ++ d.bat.cmd :: s.seen.drop at9).length = k + 1 := by
                        rw [List.length_append, List.length_cons, List.length_take, List.length_drop, ← HM.out]
                        omega
                      have hsn : Nms (blank T wE) (.slice A16 n16 C16) (s.seen.take at9 ++ d.bat.cmd :: s.seen.drop at9) := nms_own (N := wz.heap.size) (by rw [hsl]; exact hown)
                      have hac : Accs (blank T wE) (.slice Av nv Cv) l4 := by
                        rcases HPA.out with z | ⟨z1, z2⟩
                        · refine (HAC8.out.below B17).off o3 fun g hg q => ?_
                          have := z g hg
                          rcases q with q | q | q
                          · omega
                          · omega
                          · have := HT.out g q
                            omega
                        · rw [z1, z2]
                          refine HS0.out.ac.sub (sub_off (Off.down PJ17.bel o3 fun q hq z => ?_))
                          rcases z with z | z | z
                          · omega
                          · omega
                          · exact z
                      rw [HRZ.out]
                      rw [HAT.out] at hsn
                      refine ⟨_, _, _, _, _, _, rfl, ⟨d1, d2, hsn, hac⟩, evs_none8 _, Accs.nil _, plainV_own hown, PJ17.bel.trans (hoE.below PJ17.bel.size fun q hq => by omega)⟩
                    obtain ⟨a0, a1, a2, a3, a4, a5, a6, a7, a8⟩ := VT17.c9
                    obtain ⟨x0, x1, x2, x3, x4, x5, x6, x7, x8, p0, p1, p2, p3, p4, p5, p6, p7, p8, y0, y1, y2, y3, y4, q0, q1, q2, q3, q4⟩ := PJ17.res
                    have b0 := VV17.cell (i := 0) rfl
                    have hV2 : ¬ QV = w.heap.size + 1 + 1 := VV17.ty.ne PJ17.x2.var.ty (by decide)
                    have hV3 : ¬ QV = w.heap.size + 1 + 1 + 1 := VV17.ty.ne PJ17.x3.var.ty (by decide)
                    have hV4 : ¬ w.heap.size + 1 + 1 = QV := fun z => hV2 z.symm
                    have hV5 : ¬ w.heap.size + 1 + 1 + 1 = QV := fun z => hV3 z.symm
                    clear hw17 hof17 VT17 PJ17 VV17 B17 HT16 HP16 HV16 HB16 HO16 v0 v1 t7 t8 f7 f8
                    go_region
                    go_wp2_with fail
                    refine bodyPost_ret (v := .tuple #[stA (c.d : Int) (c.s : Int) (c.b : Int) (.slice (some ⟨D, 0, none⟩) n9 C) (G : Int) (.slice A9 n8 C9) (.slice A16 n16 C16) u4 (.slice Av nv Cv), .agg #[.int .i64 0, .int .i64 u4, .slice none 0 0, .int .i64 0, .slice none 0 0]]) (by simp [results, Tryz.results32, go_sem, x0, x1, x2, x3, x4, x5, x6, x7, x8, y0, y1, y2, y3, y4]) rfl ?_
                    exact HFZ.out _ (off14 _ _ _ _ _ _ _ _ _ _ _ _ _ _ _ _ _)

end Go.Proofs.YtmcaejooaaahdaaGreat
