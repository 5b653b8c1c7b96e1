/-
  Texts of the proof, joined: JStepC, JStepV.
-/
import Derived.Test.YtmcaejooaaahdaaGreatZ69
import Derived.Test.YtmcaejooaaahdaaGreatZ46
namespace Go.Proofs.YtmcaejooaaahdaaGreat
open Go.RowKit

section
variable {X : Sto.Six} {c : Sto.Cfg} {s : Sto.St} {d : Sto.Do} {T : Nat → Bool} {w : World} {Ad At As Aa Ae : Option Addr} {nd Cd nt Ct ns Cs na Ca ne Ce : Nat} {t : ByteArray}
set_option maxHeartbeats 2000000 in
set_option maxRecDepth 100000 in
theorem refStep_swap (H : SJ X c s d T w Ad nd Cd At nt Ct As ns Cs Aa na Ca Ae ne Ce t) (hk : d.kind = 6) :
    Calls Tryz.prog 11 #[.agg #[.int .i64 (c.d : Int), .int .i64 (c.s : Int), .int .i64 (c.b : Int), .slice Ad nd Cd, .int .i64 (s.segs : Int), .slice At nt Ct, .slice As ns Cs, .int .i64 s.u, .slice Aa na Ca], .agg #[.int .i64 6, .int .i64 d.n, .int .i64 d.seg, .int .i64 d.pos, .int .u8 (d.turn : Int), .int .i64 d.bat.cmd, .slice Ae ne Ce, .string t, .int .i64 d.ver]] w fun e w' => StepO e T w w' c (Sto.step X c s d) := by
  have HJ : Hid (SJ X c s d T w Ad nd Cd At nt Ct As ns Cs Aa na Ca Ae ne Ce t) := H
  obtain ⟨r, hr⟩ : ∃ r, r = Sto.step X c s d := ⟨_, rfl⟩
  have HRR : Hid (Sto.step X c s d = r) := hr.symm
  rw [← hr]
  obtain ⟨w1, hw1, PJ0⟩ := pj_ex w #[.int .i64 (c.d : Int), .int .i64 (c.s : Int), .int .i64 (c.b : Int), .slice Ad nd Cd, .int .i64 (s.segs : Int), .slice At nt Ct, .slice As ns Cs, .int .i64 s.u, .slice Aa na Ca] #[.int .i64 6, .int .i64 d.n, .int .i64 d.seg, .int .i64 d.pos, .int .u8 (d.turn : Int), .int .i64 d.bat.cmd, .slice Ae ne Ce, .string t, .int .i64 d.ver]
  have eg := Tryz.enters_noS
  clear H hr
  go_enter Tryz.func11, Tryz.ntmps11
  go_upto_region 1 with fail
  rw [← hw1]
  clear hw1
  have HP1 : Hid (PJ w w1 (stL c (.slice Ad nd Cd) (s.segs : Int) (.slice At nt Ct) (.slice As ns Cs) s.u (.slice Aa na Ca)) (doL 6 d (.slice Ae ne Ce) t)) := PJ0
  have d0 := PJ0.dc.cell (i := 0) rfl
  clear PJ0
  have hnd : nd = s.disks.length := by
    obtain ⟨A, C, q, _⟩ := HJ.out.st.dk
    cases q
    rfl
  have HND : Hid (nd = s.disks.length) := hnd
  have hn12 : nd ≤ 12 := by
    rw [hnd]
    exact HJ.out.wf.n12
  have HSH : Hid (Sto.step X c s d = Sto.harm s d) := step_harm (by omega)
  obtain ⟨a0, a1, a2, a3, a4, a5, a6, a7, a8⟩ := HP1.out.st.c9
  have d1 := HP1.out.dc.cell (i := 1) rfl
  clear hnd
  by_cases hb : d.n < 0 ∨ (nd : Int) ≤ d.n
  case pos =>
    have HRX : Hid (Sto.step X c s d = (s, ⟨6, 0, [], 0, []⟩)) := by
      show Sto.step X c s d = _
      rw [HSH.out]
      exact harm_none (by rw [← HND.out]; exact hb)
    have PJ1 := HP1.out
    by_cases h0 : d.n < 0
    · clear hb
      have HNO := noS_any w.heap.size 6 (c.d : Int) (c.s : Int) (c.b : Int) (s.segs : Int) s.u Ad nd Cd At nt Ct As ns Cs Aa na Ca _ (PJ1).st
      have HPJ : Hid (PJ w w1 (stL c (.slice Ad nd Cd) (s.segs : Int) (.slice At nt Ct) (.slice As ns Cs) s.u (.slice Aa na Ca)) (doL 6 d (.slice Ae ne Ce) t)) := PJ1
      have HRE : Hid (r = (s, ⟨6, 0, [], 0, []⟩)) := by
        rw [← HRR.out]
        exact HRX.out
      clear PJ1 HP1 hk
      go_wp2_with fail
      refine HNO.mono ?_
      rintro e wn ⟨rfl, bn⟩
      have PJn := HPJ.out.below bn
      obtain ⟨x0, x1, x2, x3, x4, x5, x6, x7, x8, p0, p1, p2, p3, p4, p5, p6, p7, p8, y0, y1, y2, y3, y4, q0, q1, q2, q3, q4⟩ := PJn.res
      have HBN := PJn.bel
      clear HNO HPJ PJn bn
      go_wp2_with fail
      refine bodyPost_ret (v := .tuple #[stA (c.d : Int) (c.s : Int) (c.b : Int) (.slice Ad nd Cd) (s.segs : Int) (.slice At nt Ct) (.slice As ns Cs) s.u (.slice Aa na Ca), .agg #[.int .i64 (6 : Nat), .int .i64 0, .slice none 0 0, .int .i64 0, .slice none 0 0]]) (by simp [results, Tryz.results11, go_sem, x0, x1, x2, x3, x4, x5, x6, x7, x8, y0, y1, y2, y3, y4]) rfl ?_
      rw [HRE.out]
      exact HJ.out.no (noB HBN (by omega) (by omega) _ _ _ _ _ _ _ _ _ _ _ _ _ _) 6 0
    · have h1 : (nd : Int) ≤ d.n := by omega
      clear hb
      have HNO := noS_any w.heap.size 6 (c.d : Int) (c.s : Int) (c.b : Int) (s.segs : Int) s.u Ad nd Cd At nt Ct As ns Cs Aa na Ca _ (PJ1).st
      have HPJ : Hid (PJ w w1 (stL c (.slice Ad nd Cd) (s.segs : Int) (.slice At nt Ct) (.slice As ns Cs) s.u (.slice Aa na Ca)) (doL 6 d (.slice Ae ne Ce) t)) := PJ1
      have HRE : Hid (r = (s, ⟨6, 0, [], 0, []⟩)) := by
        rw [← HRR.out]
        exact HRX.out
      clear PJ1 HP1 hk
      go_wp2_with fail
      refine HNO.mono ?_
      rintro e wn ⟨rfl, bn⟩
      have PJn := HPJ.out.below bn
      obtain ⟨x0, x1, x2, x3, x4, x5, x6, x7, x8, p0, p1, p2, p3, p4, p5, p6, p7, p8, y0, y1, y2, y3, y4, q0, q1, q2, q3, q4⟩ := PJn.res
      have HBN := PJn.bel
      clear HNO HPJ PJn bn
      go_wp2_with fail
      refine bodyPost_ret (v := .tuple #[stA (c.d : Int) (c.s : Int) (c.b : Int) (.slice Ad nd Cd) (s.segs : Int) (.slice At nt Ct) (.slice As ns Cs) s.u (.slice Aa na Ca), .agg #[.int .i64 (6 : Nat), .int .i64 0, .slice none 0 0, .int .i64 0, .slice none 0 0]]) (by simp [results, Tryz.results11, go_sem, x0, x1, x2, x3, x4, x5, x6, x7, x8, y0, y1, y2, y3, y4]) rfl ?_
      rw [HRE.out]
      exact HJ.out.no (noB HBN (by omega) (by omega) _ _ _ _ _ _ _ _ _ _ _ _ _ _) 6 0
  case neg =>
    obtain ⟨m, hm⟩ : ∃ m : Nat, d.n = (m : Int) := ⟨d.n.toNat, by omega⟩
    have HM : Hid (d.n = (m : Int)) := hm
    rw [hm] at d1
    have h0 : ¬ (m : Int) < 0 := by omega
    have h1 : ¬ (nd : Int) ≤ (m : Int) := by omega
    have h2 : (m : Int) < (nd : Int) := by omega
    have h3 : m < nd := by omega
    obtain ⟨x, hx⟩ : ∃ x, s.disks[m]? = some x := ⟨s.disks[m]'(by rw [← HND.out]; exact h3), List.getElem?_eq_getElem _⟩
    have HXX : Hid (s.disks[m]? = some x) := hx
    obtain ⟨b, o, rfl, hcg⟩ : ∃ b o, Ad = some ⟨b, o, none⟩ ∧ w.cell? ⟨b, o + m * 2, none⟩ = some (.bool x.gone) := by
      obtain ⟨A, C, q, _, _, q3⟩ := HJ.out.st.dk
      cases q
      obtain ⟨b, o, e, v, c0, _⟩ := q3 m x hx
      exact ⟨b, o, e, c0⟩
    have HOW := refOwn_any (c.d : Int) (c.s : Int) (c.b : Int) (s.segs : Int) s.u (.slice (some ⟨b, o, none⟩) nd Cd) (.slice At nt Ct) (.slice As ns Cs) (.slice Aa na Ca) s.disks w1 (HJ.out.st.dk.below HP1.out.bel) HJ.out.wf.n1 HJ.out.wf.n12 (fun i d hd => HJ.out.wf.bl hd) HJ.out.wf.len ⟨_, _, _, rfl⟩ ⟨_, _, _, rfl⟩ ⟨_, _, _, rfl⟩
    clear hb hm hx
    go_wp2_with fail
    refine HOW.mono ?_
    rintro e w9 ⟨D, C, V, U, rfl, hC1, hC2, hDk, b9⟩
    rw [← HND.out] at hC1 ⊢
    have bT : Below w9.heap.size w9 (w9.alloc (.cells #[.int .i64 (c.d : Int), .int .i64 (c.s : Int), .int .i64 (c.b : Int), .slice (some ⟨D, 0, none⟩) nd C, .int .i64 (s.segs : Int), .slice At nt Ct, .slice As ns Cs, .int .i64 s.u, .slice Aa na Ca] 32)) := (Below.refl _ _).alloc (Nat.le_refl _) _
    have VT := varN_new w9 #[.int .i64 (c.d : Int), .int .i64 (c.s : Int), .int .i64 (c.b : Int), .slice (some ⟨D, 0, none⟩) nd C, .int .i64 (s.segs : Int), .slice At nt Ct, .slice As ns Cs, .int .i64 s.u, .slice Aa na Ca] 32
    have hDk10 := hDk.below bT
    have b110 := bt b9 bT
    have h19 : w1.heap.size ≤ w9.heap.size := b9.size
    have hC2' : C ≤ 9223372036854775807 := by unfold maxLen at hC2; exact hC2
    clear HOW hDk b9 bT a0 a1 a2 a3 a4 a5 a6 a7 a8 d1
    go_upto_region 34 with fail
    obtain ⟨w10, hw10⟩ : ∃ q, q = w9.alloc (.cells #[.int .i64 (c.d : Int), .int .i64 (c.s : Int), .int .i64 (c.b : Int), .slice (some ⟨D, 0, none⟩) nd C, .int .i64 (s.segs : Int), .slice At nt Ct, .slice As ns Cs, .int .i64 s.u, .slice Aa na Ca] 32) := ⟨_, rfl⟩
    rw [← hw10] at VT hDk10 b110 ⊢
    obtain ⟨QT, hQT⟩ : ∃ q, q = w9.heap.size := ⟨_, rfl⟩
    rw [← hQT] at VT ⊢
    have hQ1 : w1.heap.size ≤ QT := by rw [hQT]; exact h19
    have HP10 : Hid (PJ w w10 (stL c (.slice (some ⟨b, o, none⟩) nd Cd) (s.segs : Int) (.slice At nt Ct) (.slice As ns Cs) s.u (.slice Aa na Ca)) (doL 6 d (.slice Ae ne Ce) t)) := HP1.out.below b110
    have HN1 : Hid (w.heap.size + 1 + 1 + 1 < w1.heap.size) := HP1.out.size
    have HDK : Hid (DkAt w10 w1.heap.size D V U s.disks) := hDk10
    have HVT : Hid (VarN w10 QT 32 (stL c (.slice (some ⟨D, 0, none⟩) nd C) (s.segs : Int) (.slice At nt Ct) (.slice As ns Cs) s.u (.slice Aa na Ca))) := VT
    have hDQ : QT ≠ D := VT.ty.ne hDk10.row.ty (by decide)
    have hDQ' : D ≠ QT := fun e => hDQ e.symm
    have d0 := HP10.out.dc.cell (i := 0) rfl
    have d1 := HP10.out.dc.cell (i := 1) rfl
    have a3 := HP10.out.st.cell (i := 3) rfl
    rw [HM.out] at d1
    have cg := CSub.of_below HP10.out.bel _ _ hcg
    have t3 := VT.cell (i := 3) rfl
    clear VT hDk10 b110 h19 hw10 hQT HP1 hcg
    have g0 := HDK.out.gone HXX.out
    have g1 := HDK.out.held (i := m) (by rw [← HND.out]; exact h3)
    have f0 := HDK.out.row.frozen (m * 2)
    have f1 := HDK.out.row.frozen (m * 2 + 1)
    go_upto_region 38 with fail
    obtain ⟨w11, hw11⟩ : ∃ q, q = ((w10.setCell ⟨D, m * 2, none⟩ (.bool false)).setCell ⟨D, m * 2 + 1, none⟩ (.slice none 0 0)) := ⟨_, rfl⟩
    rw [← hw11]
    have hD11 := HDK.out.swap HXX.out false
    rw [← hw11] at hD11
    have o11 : Off (fun q => q = D) w10 w11 := by
      rw [hw11]
      exact (off_set w10 ⟨D, m * 2, none⟩ _).trans (off_set _ ⟨D, m * 2 + 1, none⟩ _)
    have hDge := HDK.out.ge
    have PJ11 := HP10.out.off o11 (fun q hq => by
      have hq : q = D := hq
      have := HN1.out
      omega)
    have VT11 := HVT.out.off o11 hDQ
    have HFZ : Hid (∀ wE, Off (fun q => q = w.heap.size + 1 + 1 ∨ q = w.heap.size + 1 + 1 + 1) w11 wE → StepO (.returned (.tuple #[stA (c.d : Int) (c.s : Int) (c.b : Int) (.slice (some ⟨D, 0, none⟩) nd C) (s.segs : Int) (.slice At nt Ct) (.slice As ns Cs) s.u (.slice Aa na Ca), .agg #[.int .i64 0, .int .i64 0, .slice none 0 0, .int .i64 0, .slice none 0 0]])) T w wE c r) := fun wE ho => by
      rw [← HRR.out, HSH.out, harm_swap hk HM.out HXX.out]
      exact HJ.out.disks PJ11.bel hD11 ho HN1.out (by rw [List.length_set]; exact HND.out) hC1 hC2 0 0
    obtain ⟨a0, a1, a2, a3, a4, a5, a6, a7, a8⟩ := VT11.c9
    obtain ⟨x0, x1, x2, x3, x4, x5, x6, x7, x8, p0, p1, p2, p3, p4, p5, p6, p7, p8, y0, y1, y2, y3, y4, q0, q1, q2, q3, q4⟩ := PJ11.res
    have hne2 : ¬ QT = w.heap.size + 1 + 1 := by
      have := HN1.out
      omega
    have hne3 : ¬ w.heap.size + 1 + 1 = QT := fun e => hne2 e.symm
    clear hw11 hD11 o11 PJ11 VT11 g0 g1 f0 f1 HDK HVT HP10 HRR d0 d1 cg t3
    go_wp2_with fail
    refine bodyPost_ret (v := .tuple #[stA (c.d : Int) (c.s : Int) (c.b : Int) (.slice (some ⟨D, 0, none⟩) nd C) (s.segs : Int) (.slice At nt Ct) (.slice As ns Cs) s.u (.slice Aa na Ca), .agg #[.int .i64 0, .int .i64 0, .slice none 0 0, .int .i64 0, .slice none 0 0]]) (by simp [results, Tryz.results11, go_sem, x0, x1, x2, x3, x4, x5, x6, x7, x8, y0, y1, y2, y3, y4]) rfl ?_
    exact HFZ.out _ (off14n _ _ _ _ _ _ _ _ _ _ _ _ _ _ _ _ _)
set_option maxHeartbeats 2000000 in
set_option maxRecDepth 100000 in
theorem refStep_lose (H : SJ X c s d T w Ad nd Cd At nt Ct As ns Cs Aa na Ca Ae ne Ce t) (hk : d.kind = 5) :
    Calls Tryz.prog 11 #[.agg #[.int .i64 (c.d : Int), .int .i64 (c.s : Int), .int .i64 (c.b : Int), .slice Ad nd Cd, .int .i64 (s.segs : Int), .slice At nt Ct, .slice As ns Cs, .int .i64 s.u, .slice Aa na Ca], .agg #[.int .i64 5, .int .i64 d.n, .int .i64 d.seg, .int .i64 d.pos, .int .u8 (d.turn : Int), .int .i64 d.bat.cmd, .slice Ae ne Ce, .string t, .int .i64 d.ver]] w fun e w' => StepO e T w w' c (Sto.step X c s d) := by
  have HJ : Hid (SJ X c s d T w Ad nd Cd At nt Ct As ns Cs Aa na Ca Ae ne Ce t) := H
  obtain ⟨r, hr⟩ : ∃ r, r = Sto.step X c s d := ⟨_, rfl⟩
  have HRR : Hid (Sto.step X c s d = r) := hr.symm
  rw [← hr]
  obtain ⟨w1, hw1, PJ0⟩ := pj_ex w #[.int .i64 (c.d : Int), .int .i64 (c.s : Int), .int .i64 (c.b : Int), .slice Ad nd Cd, .int .i64 (s.segs : Int), .slice At nt Ct, .slice As ns Cs, .int .i64 s.u, .slice Aa na Ca] #[.int .i64 5, .int .i64 d.n, .int .i64 d.seg, .int .i64 d.pos, .int .u8 (d.turn : Int), .int .i64 d.bat.cmd, .slice Ae ne Ce, .string t, .int .i64 d.ver]
  have eg := Tryz.enters_noS
  clear H hr
  go_enter Tryz.func11, Tryz.ntmps11
  go_upto_region 1 with fail
  rw [← hw1]
  clear hw1
  have HP1 : Hid (PJ w w1 (stL c (.slice Ad nd Cd) (s.segs : Int) (.slice At nt Ct) (.slice As ns Cs) s.u (.slice Aa na Ca)) (doL 5 d (.slice Ae ne Ce) t)) := PJ0
  have d0 := PJ0.dc.cell (i := 0) rfl
  clear PJ0
  have hnd : nd = s.disks.length := by
    obtain ⟨A, C, q, _⟩ := HJ.out.st.dk
    cases q
    rfl
  have HND : Hid (nd = s.disks.length) := hnd
  have hn12 : nd ≤ 12 := by
    rw [hnd]
    exact HJ.out.wf.n12
  have HSH : Hid (Sto.step X c s d = Sto.harm s d) := step_harm (by omega)
  obtain ⟨a0, a1, a2, a3, a4, a5, a6, a7, a8⟩ := HP1.out.st.c9
  have d1 := HP1.out.dc.cell (i := 1) rfl
  clear hnd
  by_cases hb : d.n < 0 ∨ (nd : Int) ≤ d.n
  case pos =>
    have HRX : Hid (Sto.step X c s d = (s, ⟨6, 0, [], 0, []⟩)) := by
      show Sto.step X c s d = _
      rw [HSH.out]
      exact harm_none (by rw [← HND.out]; exact hb)
    have PJ1 := HP1.out
    by_cases h0 : d.n < 0
    · clear hb
      have HNO := noS_any w.heap.size 6 (c.d : Int) (c.s : Int) (c.b : Int) (s.segs : Int) s.u Ad nd Cd At nt Ct As ns Cs Aa na Ca _ (PJ1).st
      have HPJ : Hid (PJ w w1 (stL c (.slice Ad nd Cd) (s.segs : Int) (.slice At nt Ct) (.slice As ns Cs) s.u (.slice Aa na Ca)) (doL 5 d (.slice Ae ne Ce) t)) := PJ1
      have HRE : Hid (r = (s, ⟨6, 0, [], 0, []⟩)) := by
        rw [← HRR.out]
        exact HRX.out
      clear PJ1 HP1 hk
      go_wp2_with fail
      refine HNO.mono ?_
      rintro e wn ⟨rfl, bn⟩
      have PJn := HPJ.out.below bn
      obtain ⟨x0, x1, x2, x3, x4, x5, x6, x7, x8, p0, p1, p2, p3, p4, p5, p6, p7, p8, y0, y1, y2, y3, y4, q0, q1, q2, q3, q4⟩ := PJn.res
      have HBN := PJn.bel
      clear HNO HPJ PJn bn
      go_wp2_with fail
      refine bodyPost_ret (v := .tuple #[stA (c.d : Int) (c.s : Int) (c.b : Int) (.slice Ad nd Cd) (s.segs : Int) (.slice At nt Ct) (.slice As ns Cs) s.u (.slice Aa na Ca), .agg #[.int .i64 (6 : Nat), .int .i64 0, .slice none 0 0, .int .i64 0, .slice none 0 0]]) (by simp [results, Tryz.results11, go_sem, x0, x1, x2, x3, x4, x5, x6, x7, x8, y0, y1, y2, y3, y4]) rfl ?_
      rw [HRE.out]
      exact HJ.out.no (noB HBN (by omega) (by omega) _ _ _ _ _ _ _ _ _ _ _ _ _ _) 6 0
    · have h1 : (nd : Int) ≤ d.n := by omega
      clear hb
      have HNO := noS_any w.heap.size 6 (c.d : Int) (c.s : Int) (c.b : Int) (s.segs : Int) s.u Ad nd Cd At nt Ct As ns Cs Aa na Ca _ (PJ1).st
      have HPJ : Hid (PJ w w1 (stL c (.slice Ad nd Cd) (s.segs : Int) (.slice At nt Ct) (.slice As ns Cs) s.u (.slice Aa na Ca)) (doL 5 d (.slice Ae ne Ce) t)) := PJ1
      have HRE : Hid (r = (s, ⟨6, 0, [], 0, []⟩)) := by
        rw [← HRR.out]
        exact HRX.out
      clear PJ1 HP1 hk
      go_wp2_with fail
      refine HNO.mono ?_
      rintro e wn ⟨rfl, bn⟩
      have PJn := HPJ.out.below bn
      obtain ⟨x0, x1, x2, x3, x4, x5, x6, x7, x8, p0, p1, p2, p3, p4, p5, p6, p7, p8, y0, y1, y2, y3, y4, q0, q1, q2, q3, q4⟩ := PJn.res
      have HBN := PJn.bel
      clear HNO HPJ PJn bn
      go_wp2_with fail
      refine bodyPost_ret (v := .tuple #[stA (c.d : Int) (c.s : Int) (c.b : Int) (.slice Ad nd Cd) (s.segs : Int) (.slice At nt Ct) (.slice As ns Cs) s.u (.slice Aa na Ca), .agg #[.int .i64 (6 : Nat), .int .i64 0, .slice none 0 0, .int .i64 0, .slice none 0 0]]) (by simp [results, Tryz.results11, go_sem, x0, x1, x2, x3, x4, x5, x6, x7, x8, y0, y1, y2, y3, y4]) rfl ?_
      rw [HRE.out]
      exact HJ.out.no (noB HBN (by omega) (by omega) _ _ _ _ _ _ _ _ _ _ _ _ _ _) 6 0
  case neg =>
    obtain ⟨m, hm⟩ : ∃ m : Nat, d.n = (m : Int) := ⟨d.n.toNat, by omega⟩
    have HM : Hid (d.n = (m : Int)) := hm
    rw [hm] at d1
    have h0 : ¬ (m : Int) < 0 := by omega
    have h1 : ¬ (nd : Int) ≤ (m : Int) := by omega
    have h2 : (m : Int) < (nd : Int) := by omega
    have h3 : m < nd := by omega
    obtain ⟨x, hx⟩ : ∃ x, s.disks[m]? = some x := ⟨s.disks[m]'(by rw [← HND.out]; exact h3), List.getElem?_eq_getElem _⟩
    have HXX : Hid (s.disks[m]? = some x) := hx
    obtain ⟨b, o, rfl, hcg⟩ : ∃ b o, Ad = some ⟨b, o, none⟩ ∧ w.cell? ⟨b, o + m * 2, none⟩ = some (.bool x.gone) := by
      obtain ⟨A, C, q, _, _, q3⟩ := HJ.out.st.dk
      cases q
      obtain ⟨b, o, e, v, c0, _⟩ := q3 m x hx
      exact ⟨b, o, e, c0⟩
    have HOW := refOwn_any (c.d : Int) (c.s : Int) (c.b : Int) (s.segs : Int) s.u (.slice (some ⟨b, o, none⟩) nd Cd) (.slice At nt Ct) (.slice As ns Cs) (.slice Aa na Ca) s.disks w1 (HJ.out.st.dk.below HP1.out.bel) HJ.out.wf.n1 HJ.out.wf.n12 (fun i d hd => HJ.out.wf.bl hd) HJ.out.wf.len ⟨_, _, _, rfl⟩ ⟨_, _, _, rfl⟩ ⟨_, _, _, rfl⟩
    clear hb hm hx
    go_wp2_with fail
    refine HOW.mono ?_
    rintro e w9 ⟨D, C, V, U, rfl, hC1, hC2, hDk, b9⟩
    rw [← HND.out] at hC1 ⊢
    have bT : Below w9.heap.size w9 (w9.alloc (.cells #[.int .i64 (c.d : Int), .int .i64 (c.s : Int), .int .i64 (c.b : Int), .slice (some ⟨D, 0, none⟩) nd C, .int .i64 (s.segs : Int), .slice At nt Ct, .slice As ns Cs, .int .i64 s.u, .slice Aa na Ca] 32)) := (Below.refl _ _).alloc (Nat.le_refl _) _
    have VT := varN_new w9 #[.int .i64 (c.d : Int), .int .i64 (c.s : Int), .int .i64 (c.b : Int), .slice (some ⟨D, 0, none⟩) nd C, .int .i64 (s.segs : Int), .slice At nt Ct, .slice As ns Cs, .int .i64 s.u, .slice Aa na Ca] 32
    have hDk10 := hDk.below bT
    have b110 := bt b9 bT
    have h19 : w1.heap.size ≤ w9.heap.size := b9.size
    have hC2' : C ≤ 9223372036854775807 := by unfold maxLen at hC2; exact hC2
    clear HOW hDk b9 bT a0 a1 a2 a3 a4 a5 a6 a7 a8 d1
    go_upto_region 34 with fail
    obtain ⟨w10, hw10⟩ : ∃ q, q = w9.alloc (.cells #[.int .i64 (c.d : Int), .int .i64 (c.s : Int), .int .i64 (c.b : Int), .slice (some ⟨D, 0, none⟩) nd C, .int .i64 (s.segs : Int), .slice At nt Ct, .slice As ns Cs, .int .i64 s.u, .slice Aa na Ca] 32) := ⟨_, rfl⟩
    rw [← hw10] at VT hDk10 b110 ⊢
    obtain ⟨QT, hQT⟩ : ∃ q, q = w9.heap.size := ⟨_, rfl⟩
    rw [← hQT] at VT ⊢
    have hQ1 : w1.heap.size ≤ QT := by rw [hQT]; exact h19
    have HP10 : Hid (PJ w w10 (stL c (.slice (some ⟨b, o, none⟩) nd Cd) (s.segs : Int) (.slice At nt Ct) (.slice As ns Cs) s.u (.slice Aa na Ca)) (doL 5 d (.slice Ae ne Ce) t)) := HP1.out.below b110
    have HN1 : Hid (w.heap.size + 1 + 1 + 1 < w1.heap.size) := HP1.out.size
    have HDK : Hid (DkAt w10 w1.heap.size D V U s.disks) := hDk10
    have HVT : Hid (VarN w10 QT 32 (stL c (.slice (some ⟨D, 0, none⟩) nd C) (s.segs : Int) (.slice At nt Ct) (.slice As ns Cs) s.u (.slice Aa na Ca))) := VT
    have hDQ : QT ≠ D := VT.ty.ne hDk10.row.ty (by decide)
    have hDQ' : D ≠ QT := fun e => hDQ e.symm
    have d0 := HP10.out.dc.cell (i := 0) rfl
    have d1 := HP10.out.dc.cell (i := 1) rfl
    have a3 := HP10.out.st.cell (i := 3) rfl
    rw [HM.out] at d1
    have cg := CSub.of_below HP10.out.bel _ _ hcg
    have t3 := VT.cell (i := 3) rfl
    clear VT hDk10 b110 h19 hw10 hQT HP1 hcg
    obtain ⟨gn, hgn⟩ : ∃ gn, gn = x.gone := ⟨_, rfl⟩
    rw [← hgn] at cg
    cases gn with
    | true =>
      have HRX : Hid (Sto.step X c s d = (s, ⟨8, 0, [], 0, []⟩)) := by
        show Sto.step X c s d = _
        rw [HSH.out, harm_lose hk HM.out HXX.out, if_pos hgn.symm, if_pos hgn.symm]
      have PJ10 := HP10.out
      have HNO := noS_any w.heap.size 8 (c.d : Int) (c.s : Int) (c.b : Int) (s.segs : Int) s.u (some ⟨b, o, none⟩) nd Cd At nt Ct As ns Cs Aa na Ca _ (PJ10).st
      have HPJ : Hid (PJ w w10 (stL c (.slice (some ⟨b, o, none⟩) nd Cd) (s.segs : Int) (.slice At nt Ct) (.slice As ns Cs) s.u (.slice Aa na Ca)) (doL 5 d (.slice Ae ne Ce) t)) := PJ10
      have HRE : Hid (r = (s, ⟨8, 0, [], 0, []⟩)) := by
        rw [← HRR.out]
        exact HRX.out
      clear PJ10 HP10 hk hgn HDK HVT
      go_wp2_with fail
      refine HNO.mono ?_
      rintro e wn ⟨rfl, bn⟩
      have PJn := HPJ.out.below bn
      obtain ⟨x0, x1, x2, x3, x4, x5, x6, x7, x8, p0, p1, p2, p3, p4, p5, p6, p7, p8, y0, y1, y2, y3, y4, q0, q1, q2, q3, q4⟩ := PJn.res
      have HBN := PJn.bel
      clear HNO HPJ PJn bn
      go_wp2_with fail
      refine bodyPost_ret (v := .tuple #[stA (c.d : Int) (c.s : Int) (c.b : Int) (.slice (some ⟨b, o, none⟩) nd Cd) (s.segs : Int) (.slice At nt Ct) (.slice As ns Cs) s.u (.slice Aa na Ca), .agg #[.int .i64 (8 : Nat), .int .i64 0, .slice none 0 0, .int .i64 0, .slice none 0 0]]) (by simp [results, Tryz.results11, go_sem, x0, x1, x2, x3, x4, x5, x6, x7, x8, y0, y1, y2, y3, y4]) rfl ?_
      rw [HRE.out]
      exact HJ.out.no (noB HBN (by omega) (by omega) _ _ _ _ _ _ _ _ _ _ _ _ _ _) 8 0
    | false =>
      have HGN : Hid (x.gone = false) := hgn.symm
      clear hgn
      have g0 := HDK.out.gone HXX.out
      have g1 := HDK.out.held (i := m) (by rw [← HND.out]; exact h3)
      have f0 := HDK.out.row.frozen (m * 2)
      have f1 := HDK.out.row.frozen (m * 2 + 1)
      go_upto_region 38 with fail
      obtain ⟨w11, hw11⟩ : ∃ q, q = ((w10.setCell ⟨D, m * 2, none⟩ (.bool true)).setCell ⟨D, m * 2 + 1, none⟩ (.slice none 0 0)) := ⟨_, rfl⟩
      rw [← hw11]
      have hD11 := HDK.out.swap HXX.out true
      rw [← hw11] at hD11
      have o11 : Off (fun q => q = D) w10 w11 := by
        rw [hw11]
        exact (off_set w10 ⟨D, m * 2, none⟩ _).trans (off_set _ ⟨D, m * 2 + 1, none⟩ _)
      have hDge := HDK.out.ge
      have PJ11 := HP10.out.off o11 (fun q hq => by
        have hq : q = D := hq
        have := HN1.out
        omega)
      have VT11 := HVT.out.off o11 hDQ
      have HFZ : Hid (∀ wE, Off (fun q => q = w.heap.size + 1 + 1 ∨ q = w.heap.size + 1 + 1 + 1) w11 wE → StepO (.returned (.tuple #[stA (c.d : Int) (c.s : Int) (c.b : Int) (.slice (some ⟨D, 0, none⟩) nd C) (s.segs : Int) (.slice At nt Ct) (.slice As ns Cs) s.u (.slice Aa na Ca), .agg #[.int .i64 0, .int .i64 0, .slice none 0 0, .int .i64 0, .slice none 0 0]])) T w wE c r) := fun wE ho => by
        rw [← HRR.out, HSH.out, harm_lose hk HM.out HXX.out, if_neg (by rw [HGN.out]; decide), if_neg (by rw [HGN.out]; decide)]
        exact HJ.out.disks PJ11.bel hD11 ho HN1.out (by rw [List.length_set]; exact HND.out) hC1 hC2 0 0
      obtain ⟨a0, a1, a2, a3, a4, a5, a6, a7, a8⟩ := VT11.c9
      obtain ⟨x0, x1, x2, x3, x4, x5, x6, x7, x8, p0, p1, p2, p3, p4, p5, p6, p7, p8, y0, y1, y2, y3, y4, q0, q1, q2, q3, q4⟩ := PJ11.res
      have hne2 : ¬ QT = w.heap.size + 1 + 1 := by
        have := HN1.out
        omega
      have hne3 : ¬ w.heap.size + 1 + 1 = QT := fun e => hne2 e.symm
      clear hw11 hD11 o11 PJ11 VT11 g0 g1 f0 f1 HDK HVT HP10 HRR d0 d1 cg t3
      go_wp2_with fail
      refine bodyPost_ret (v := .tuple #[stA (c.d : Int) (c.s : Int) (c.b : Int) (.slice (some ⟨D, 0, none⟩) nd C) (s.segs : Int) (.slice At nt Ct) (.slice As ns Cs) s.u (.slice Aa na Ca), .agg #[.int .i64 0, .int .i64 0, .slice none 0 0, .int .i64 0, .slice none 0 0]]) (by simp [results, Tryz.results11, go_sem, x0, x1, x2, x3, x4, x5, x6, x7, x8, y0, y1, y2, y3, y4]) rfl ?_
      exact HFZ.out _ (off14n _ _ _ _ _ _ _ _ _ _ _ _ _ _ _ _ _)
end

end Go.Proofs.YtmcaejooaaahdaaGreat

namespace Go.Proofs.YtmcaejooaaahdaaGreat
open Go.RowKit

section
variable {X : Sto.Six} {c : Sto.Cfg} {s : Sto.St} {d : Sto.Do} {T : Nat → Bool} {w : World} {Ad At As Aa Ae : Option Addr} {nd Cd nt Ct ns Cs na Ca ne Ce : Nat} {t : ByteArray}
set_option maxHeartbeats 2000000 in
set_option maxRecDepth 100000 in
theorem refStep_view (H : SJ X c s d T w Ad nd Cd At nt Ct As ns Cs Aa na Ca Ae ne Ce t) (hk : d.kind = 4) :
    Calls Tryz.prog 11 #[.agg #[.int .i64 (c.d : Int), .int .i64 (c.s : Int), .int .i64 (c.b : Int), .slice Ad nd Cd, .int .i64 (s.segs : Int), .slice At nt Ct, .slice As ns Cs, .int .i64 s.u, .slice Aa na Ca], .agg #[.int .i64 4, .int .i64 d.n, .int .i64 d.seg, .int .i64 d.pos, .int .u8 (d.turn : Int), .int .i64 d.bat.cmd, .slice Ae ne Ce, .string t, .int .i64 d.ver]] w fun e w' => StepO e T w w' c (Sto.step X c s d) := by
  have HJ : Hid (SJ X c s d T w Ad nd Cd At nt Ct As ns Cs Aa na Ca Ae ne Ce t) := H
  obtain ⟨r, hr⟩ : ∃ r, r = Sto.step X c s d := ⟨_, rfl⟩
  have HRR : Hid (Sto.step X c s d = r) := hr.symm
  rw [← hr]
  obtain ⟨w1, hw1, PJ0⟩ := pj_ex w #[.int .i64 (c.d : Int), .int .i64 (c.s : Int), .int .i64 (c.b : Int), .slice Ad nd Cd, .int .i64 (s.segs : Int), .slice At nt Ct, .slice As ns Cs, .int .i64 s.u, .slice Aa na Ca] #[.int .i64 4, .int .i64 d.n, .int .i64 d.seg, .int .i64 d.pos, .int .u8 (d.turn : Int), .int .i64 d.bat.cmd, .slice Ae ne Ce, .string t, .int .i64 d.ver]
  have eg := Tryz.enters_noS
  clear H hr
  go_enter Tryz.func11, Tryz.ntmps11
  go_upto_region 1 with fail
  rw [← hw1]
  clear hw1
  have HP1 : Hid (PJ w w1 (stL c (.slice Ad nd Cd) (s.segs : Int) (.slice At nt Ct) (.slice As ns Cs) s.u (.slice Aa na Ca)) (doL 4 d (.slice Ae ne Ce) t)) := PJ0
  have d0 := PJ0.dc.cell (i := 0) rfl
  clear PJ0
  have HAL := refAll_any HJ.out.x c s (.slice Ad nd Cd) (.slice At nt Ct) (.slice As ns Cs) (.slice Aa na Ca) w1 (HJ.out.st.sub (CSub.of_below HP1.out.bel)) HJ.out.wf
  obtain ⟨x, l, hxl⟩ : ∃ x l, Sto.all X c s = (x, l) := ⟨_, _, rfl⟩
  have HST : Hid (Sto.step X c s d = (s, askA (x, l) (viewA l))) := by
    show Sto.step X c s d = _
    rw [step_view hk, hxl]
  rw [hxl] at HAL
  obtain ⟨a0, a1, a2, a3, a4, a5, a6, a7, a8⟩ := HP1.out.st.c9
  clear hxl
  go_wp2_with fail
  refine HAL.mono ?_
  rintro e w2 ⟨hA, b2⟩
  obtain ⟨v, es, he, hes, hB, hle⟩ : ∃ (v : Value) (es : List EvC), e = Ending.returned (.tuple #[v, .int .i64 (x : Nat)]) ∧ es.map evOf = l ∧ EBuf w2 w1.heap.size v es ∧ es.length ≤ 200000 := hA
  subst he
  have HP2 : Hid (PJ w w2 (stL c (.slice Ad nd Cd) (s.segs : Int) (.slice At nt Ct) (.slice As ns Cs) s.u (.slice Aa na Ca)) (doL 4 d (.slice Ae ne Ce) t)) := HP1.out.below b2
  have HN1 : Hid (w.heap.size + 1 + 1 + 1 < w1.heap.size) := HP1.out.size
  have HT1 : Hid (∀ k, T k = true → k < w1.heap.size) := fun k z => by
    have := HJ.out.low k z
    have := HN1.out
    omega
  have HEV : Hid (EBuf w2 w1.heap.size v es) := hB
  have HEM : Hid (es.map evOf = l) := hes
  have h12 : w1.heap.size ≤ w2.heap.size := b2.size
  clear HAL a0 a1 a2 a3 a4 a5 a6 a7 a8 hB hes HP1 d0 b2
  by_cases hx : x = 0
  case neg =>
    have hx' : ((x : Int) == 0) = false := by rw [beq_eq_false_iff_ne]; omega
    have hxn : ((x : Int) != 0) = true := by rw [bne, hx']; rfl
    have HRX : Hid (Sto.step X c s d = (s, ⟨x, 0, [], 0, []⟩)) := by
      show Sto.step X c s d = _
      rw [HST.out]
      unfold askA
      rw [if_pos hx]
      rfl
    have PJ2 := HP2.out
    obtain ⟨A, C, hv⟩ := HEV.out.shape
    subst hv
    have HNO := noS_any w.heap.size x (c.d : Int) (c.s : Int) (c.b : Int) (s.segs : Int) s.u Ad nd Cd At nt Ct As ns Cs Aa na Ca _ (PJ2).st
    have HPJ : Hid (PJ w w2 (stL c (.slice Ad nd Cd) (s.segs : Int) (.slice At nt Ct) (.slice As ns Cs) s.u (.slice Aa na Ca)) (doL 4 d (.slice Ae ne Ce) t)) := PJ2
    have HRE : Hid (r = (s, ⟨x, 0, [], 0, []⟩)) := by
      rw [← HRR.out]
      exact HRX.out
    clear PJ2 HP2 hk hx HEV HST
    go_wp2_with fail
    refine HNO.mono ?_
    rintro e wn ⟨rfl, bn⟩
    have PJn := HPJ.out.below bn
    obtain ⟨x0, x1, x2, x3, x4, x5, x6, x7, x8, p0, p1, p2, p3, p4, p5, p6, p7, p8, y0, y1, y2, y3, y4, q0, q1, q2, q3, q4⟩ := PJn.res
    have HBN := PJn.bel
    clear HNO HPJ PJn bn
    go_wp2_with fail
    refine bodyPost_ret (v := .tuple #[stA (c.d : Int) (c.s : Int) (c.b : Int) (.slice Ad nd Cd) (s.segs : Int) (.slice At nt Ct) (.slice As ns Cs) s.u (.slice Aa na Ca), .agg #[.int .i64 (x : Nat), .int .i64 0, .slice none 0 0, .int .i64 0, .slice none 0 0]]) (by simp [results, Tryz.results11, go_sem, x0, x1, x2, x3, x4, x5, x6, x7, x8, y0, y1, y2, y3, y4]) rfl ?_
    rw [HRE.out]
    exact HJ.out.no (noB HBN (by omega) (by omega) _ _ _ _ _ _ _ _ _ _ _ _ _ _) x 0
  case pos =>
    have hx' : ((x : Int) == 0) = true := by rw [hx]; rfl
    have hxn : ((x : Int) != 0) = false := by rw [bne, hx']; rfl
    have HRX : Hid (Sto.step X c s d = (s, viewA l)) := by
      show Sto.step X c s d = _
      rw [HST.out]
      unfold askA
      rw [if_neg (fun z => z hx)]
    clear HST hx hk
    obtain ⟨A, C, hv⟩ := HEV.out.shape
    subst hv
    have d0 := HP2.out.dc.cell (i := 0) rfl
    have HFO := refFold_any 0 (.slice none 0 0) _ [] l w2 (Accs.nil _) (by rw [← HEM.out]; exact HEV.out.evs)
    have HVA : Hid (viewA l = ⟨(Vw.fold 0 [] l).1.1, (Vw.fold 0 [] l).2.1, [], (Vw.fold 0 [] l).2.1, (Vw.fold 0 [] l).2.2⟩) := rfl
    obtain ⟨fo, hfo⟩ : ∃ q, q = Vw.fold 0 [] l := ⟨_, rfl⟩
    rw [← hfo] at HFO HVA
    obtain ⟨⟨E4, i4⟩, u4, l4⟩ := fo
    unfold FoR faultV at HFO
    have HR4 : Hid (r = (s, ⟨E4, u4, [], u4, l4⟩)) := by
      show r = _
      rw [← HRR.out, HRX.out, HVA.out]
    clear HRX HVA hfo HRR
    go_wp2_with fail
    refine HFO.mono ?_
    rintro e w7 ⟨⟨v7, rfl, hA7, hP7⟩, b7⟩
    obtain ⟨Av, nv, Cv, rfl⟩ := accs_shape hA7
    have HPA : Hid (Past w1.heap.size (.slice Av nv Cv) ∨ (Value.slice Av nv Cv = .slice none 0 0 ∧ l4 = [])) := hP7.imp (fun z => z.mono h12) id
    have bV : Below w7.heap.size w7 (w7.alloc (.cells #[.int .i64 u4, .slice Av nv Cv] 30)) := (Below.refl _ _).alloc (Nat.le_refl _) _
    have bW : Below (w7.alloc (.cells #[.int .i64 u4, .slice Av nv Cv] 30)).heap.size (w7.alloc (.cells #[.int .i64 u4, .slice Av nv Cv] 30)) ((w7.alloc (.cells #[.int .i64 u4, .slice Av nv Cv] 30)).alloc (.cells #[.int .i64 (E4 : Nat), .int .i64 (i4 : Nat)] 78)) := (Below.refl _ _).alloc (Nat.le_refl _) _
    have VV := (varN_new w7 #[.int .i64 u4, .slice Av nv Cv] 30).below bW
    have VF := varN_new (w7.alloc (.cells #[.int .i64 u4, .slice Av nv Cv] 30)) #[.int .i64 (E4 : Nat), .int .i64 (i4 : Nat)] 78
    have hsz : (w7.alloc (.cells #[.int .i64 u4, .slice Av nv Cv] 30)).heap.size = w7.heap.size + 1 := Array.size_push _
    rw [hsz] at VF
    have HAC := (hA7.below bV).below bW
    have PJ8 := ((HP2.out.below b7).below bV).below bW
    have h27 : w2.heap.size ≤ w7.heap.size := b7.size
    clear HFO HP2 b7 bV bW hsz hA7 hP7 d0
    go_upto_region 13 with fail
    obtain ⟨w8, hw8⟩ : ∃ q, q = (w7.alloc (.cells #[.int .i64 u4, .slice Av nv Cv] 30)).alloc (.cells #[.int .i64 (E4 : Nat), .int .i64 (i4 : Nat)] 78) := ⟨_, rfl⟩
    rw [← hw8] at VV VF HAC PJ8 ⊢
    obtain ⟨QV, hQV⟩ : ∃ q, q = w7.heap.size := ⟨_, rfl⟩
    rw [← hQV] at VV VF ⊢
    have v0 := VV.cell (i := 0) rfl
    have v1 := VV.cell (i := 1) rfl
    have f0 := VF.cell (i := 0) rfl
    obtain ⟨a0, a1, a2, a3, a4, a5, a6, a7, a8⟩ := PJ8.st.c9
    obtain ⟨x0, x1, x2, x3, x4, x5, x6, x7, x8, p0, p1, p2, p3, p4, p5, p6, p7, p8, y0, y1, y2, y3, y4, q0, q1, q2, q3, q4⟩ := PJ8.res
    have HFZ : Hid (∀ wE, Off (fun q => q = w.heap.size + 1 + 1 ∨ q = w.heap.size + 1 + 1 + 1) w8 wE → StepO (.returned (.tuple #[stA (c.d : Int) (c.s : Int) (c.b : Int) (.slice Ad nd Cd) (s.segs : Int) (.slice At nt Ct) (.slice As ns Cs) s.u (.slice Aa na Ca), .agg #[.int .i64 (E4 : Nat), .int .i64 u4, .slice none 0 0, .int .i64 u4, .slice Av nv Cv]])) T w wE c r) := fun wE ho => by
      rw [HR4.out]
      refine HJ.out.same (a := ⟨E4, u4, [], u4, l4⟩) (PJ8.bel.trans (ho.below PJ8.bel.size fun q z => by omega)) (evs_none8 _) ?_
      rcases HPA.out with z | ⟨z, z'⟩
      · refine HAC.off ((ho.wider fun _ z => Or.inl z).trans ((off_blank T wE).wider fun _ z => Or.inr z)) fun g hg y => ?_
        have h1 := z g hg
        have h2 := HN1.out
        rcases y with (y | y) | y
        · omega
        · omega
        · have := HT1.out g y
          omega
      · rw [z]
        show Accs (blank T wE) _ l4
        rw [z']
        exact Accs.nil _
    have q1 : ¬ QV = w.heap.size + 1 + 1 := by have := HN1.out; omega
    have q2 : ¬ QV = w.heap.size + 1 + 1 + 1 := by have := HN1.out; omega
    have q3 : ¬ QV + 1 = w.heap.size + 1 + 1 := by have := HN1.out; omega
    have q4 : ¬ QV + 1 = w.heap.size + 1 + 1 + 1 := by have := HN1.out; omega
    clear hw8 hQV HAC PJ8 VV VF HPA HEV h27 h12
    go_region
    go_wp2_with fail
    refine bodyPost_ret (v := .tuple #[stA (c.d : Int) (c.s : Int) (c.b : Int) (.slice Ad nd Cd) (s.segs : Int) (.slice At nt Ct) (.slice As ns Cs) s.u (.slice Aa na Ca), .agg #[.int .i64 (E4 : Nat), .int .i64 u4, .slice none 0 0, .int .i64 u4, .slice Av nv Cv]]) (by simp [results, Tryz.results11, go_sem, x0, x1, x2, x3, x4, x5, x6, x7, x8, y0, y1, y2, y3, y4]) rfl ?_
    exact HFZ.out _ (off14 _ _ _ _ _ _ _ _ _ _ _ _ _ _ _ _ _)
end

end Go.Proofs.YtmcaejooaaahdaaGreat
