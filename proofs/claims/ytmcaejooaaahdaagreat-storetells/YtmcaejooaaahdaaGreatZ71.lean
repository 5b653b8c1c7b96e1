/-
  Texts of the proof, joined: JStepA.
-/
import Derived.Test.YtmcaejooaaahdaaGreatZ69
import Derived.Test.YtmcaejooaaahdaaGreatZ46
import Derived.Test.YtmcaejooaaahdaaGreatZ70
namespace Go.Proofs.YtmcaejooaaahdaaGreat
open Go.RowKit

section
variable {X : Sto.Six} {c : Sto.Cfg} {s : Sto.St} {d : Sto.Do} {T : Nat → Bool} {w : World} {Ad At As Aa Ae : Option Addr} {nd Cd nt Ct ns Cs na Ca ne Ce : Nat} {t : ByteArray}
set_option maxHeartbeats 2000000 in
set_option maxRecDepth 100000 in
theorem refStep_put (H : SJ X c s d T w Ad nd Cd At nt Ct As ns Cs Aa na Ca Ae ne Ce t) (hk : d.kind = 1) :
    Calls Tryz.prog 11 #[.agg #[.int .i64 (c.d : Int), .int .i64 (c.s : Int), .int .i64 (c.b : Int), .slice Ad nd Cd, .int .i64 (s.segs : Int), .slice At nt Ct, .slice As ns Cs, .int .i64 s.u, .slice Aa na Ca], .agg #[.int .i64 1, .int .i64 d.n, .int .i64 d.seg, .int .i64 d.pos, .int .u8 (d.turn : Int), .int .i64 d.bat.cmd, .slice Ae ne Ce, .string t, .int .i64 d.ver]] w fun e w' => StepO e T w w' c (Sto.step X c s d) := by
  have HJ : Hid (SJ X c s d T w Ad nd Cd At nt Ct As ns Cs Aa na Ca Ae ne Ce t) := H
  obtain ⟨r, hr⟩ : ∃ r, r = Sto.step X c s d := ⟨_, rfl⟩
  have HRR : Hid (Sto.step X c s d = r) := hr.symm
  rw [← hr]
  obtain ⟨w1, hw1, PJ0⟩ := pj_ex w #[.int .i64 (c.d : Int), .int .i64 (c.s : Int), .int .i64 (c.b : Int), .slice Ad nd Cd, .int .i64 (s.segs : Int), .slice At nt Ct, .slice As ns Cs, .int .i64 s.u, .slice Aa na Ca] #[.int .i64 1, .int .i64 d.n, .int .i64 d.seg, .int .i64 d.pos, .int .u8 (d.turn : Int), .int .i64 d.bat.cmd, .slice Ae ne Ce, .string t, .int .i64 d.ver]
  have eg := Tryz.enters_noS
  clear H hr
  go_enter Tryz.func11, Tryz.ntmps11
  go_upto_region 1 with fail
  rw [← hw1]
  clear hw1
  have HP1 : Hid (PJ w w1 (stL c (.slice Ad nd Cd) (s.segs : Int) (.slice At nt Ct) (.slice As ns Cs) s.u (.slice Aa na Ca)) (doL 1 d (.slice Ae ne Ce) t)) := PJ0
  have d0 := PJ0.dc.cell (i := 0) rfl
  clear PJ0
  have HPU := refPut_any HJ.out.x c s (.slice Ad nd Cd) (.slice At nt Ct) (.slice As ns Cs) (.slice Aa na Ca) d (.slice Ae ne Ce) t (resT T w.heap.size) w1 (HJ.out.st0.sub (blank_down HP1.out.bel fun k hk z => (resT_iff.1 z).resolve_right (by omega))) HJ.out.wf (HJ.out.do0.sub (blank_down HP1.out.bel fun k hk z => (resT_iff.1 z).resolve_right (by omega))) HJ.out.pv (fun k hk => by
    have h1 := HP1.out.size
    rcases resT_iff.1 hk with z | z | z
    · have := HJ.out.low k z
      omega
    · omega
    · omega)
  rw [doL_of hk] at HPU
  have HRE : Hid (r = Sto.put X c s d) := by
    show r = _
    rw [← HRR.out]
    unfold Sto.step
    rw [if_pos hk]
  obtain ⟨p, hp⟩ : ∃ p, p = Sto.put X c s d := ⟨_, rfl⟩
  rw [← hp] at HPU HRE
  obtain ⟨a0, a1, a2, a3, a4, a5, a6, a7, a8⟩ := HP1.out.st.c9
  obtain ⟨-, d1, d2, d3, d4, d5, d6, d7, d8⟩ := HP1.out.dc.c9
  clear hp
  go_wp2_with fail
  refine HPU.mono ?_
  rintro e w2 ⟨vd, vt, vs, va, ve, vl, rfl, hst, hev, hac, hpl, b2⟩
  obtain ⟨B1, m1, K1, rfl⟩ := dks_shape hst.dk
  obtain ⟨B2, m2, K2, rfl⟩ := bats_shape hst.tl
  obtain ⟨B3, m3, K3, rfl⟩ := nms_shape hst.sn
  obtain ⟨B4, m4, K4, rfl⟩ := accs_shape hst.ac
  obtain ⟨B5, m5, K5, rfl⟩ : ∃ A n C, ve = .slice A n C := by
    obtain ⟨A, C, h⟩ := hev.shape
    exact ⟨A, _, C, h⟩
  obtain ⟨B6, m6, K6, rfl⟩ := accs_shape hac
  have PJn := HP1.out.below b2
  obtain ⟨x0, x1, x2, x3, x4, x5, x6, x7, x8, p0, p1, p2, p3, p4, p5, p6, p7, p8, y0, y1, y2, y3, y4, q0, q1, q2, q3, q4⟩ := PJn.res
  have HFZ : Hid (∀ wE, Off (fun q => q = w.heap.size + 1 + 1 ∨ q = w.heap.size + 1 + 1 + 1) w2 wE → StepO (.returned (.tuple #[stC c (.slice B1 m1 K1) p.1 (.slice B2 m2 K2) (.slice B3 m3 K3) (.slice B4 m4 K4), ansA p.2 (.slice B5 m5 K5) (.slice B6 m6 K6)])) T w wE c r) := fun wE ho => by
    have hs : CSub (blank (resT T w.heap.size) w2) (blank T wE) := blank_up ho (fun k z => resT_iff.2 (Or.inr z)) (fun k z => resT_iff.2 (Or.inl z))
    rw [HRE.out]
    exact ⟨_, _, _, _, _, _, rfl, hst.sub hs, hev.sub hs, hac.sub hs, hpl, PJn.bel.trans (ho.below PJn.bel.size fun q z => by omega)⟩
  clear HPU hst hev hac hpl b2 PJn
  go_wp2_with fail
  refine bodyPost_ret (v := .tuple #[stC c (.slice B1 m1 K1) p.1 (.slice B2 m2 K2) (.slice B3 m3 K3) (.slice B4 m4 K4), ansA p.2 (.slice B5 m5 K5) (.slice B6 m6 K6)]) (by simp [results, Tryz.results11, go_sem, x0, x1, x2, x3, x4, x5, x6, x7, x8, y0, y1, y2, y3, y4]) rfl ?_
  exact HFZ.out _ (off14n _ _ _ _ _ _ _ _ _ _ _ _ _ _ _ _ _)
set_option maxHeartbeats 2000000 in
set_option maxRecDepth 100000 in
theorem refStep_none (H : SJ X c s d T w Ad nd Cd At nt Ct As ns Cs Aa na Ca Ae ne Ce t) (hk : ∀ k : Int, 1 ≤ k → k ≤ 9 → d.kind ≠ k) :
    Calls Tryz.prog 11 #[.agg #[.int .i64 (c.d : Int), .int .i64 (c.s : Int), .int .i64 (c.b : Int), .slice Ad nd Cd, .int .i64 (s.segs : Int), .slice At nt Ct, .slice As ns Cs, .int .i64 s.u, .slice Aa na Ca], .agg #[.int .i64 d.kind, .int .i64 d.n, .int .i64 d.seg, .int .i64 d.pos, .int .u8 (d.turn : Int), .int .i64 d.bat.cmd, .slice Ae ne Ce, .string t, .int .i64 d.ver]] w fun e w' => StepO e T w w' c (Sto.step X c s d) := by
  have HJ : Hid (SJ X c s d T w Ad nd Cd At nt Ct As ns Cs Aa na Ca Ae ne Ce t) := H
  obtain ⟨r, hr⟩ : ∃ r, r = Sto.step X c s d := ⟨_, rfl⟩
  have HRR : Hid (Sto.step X c s d = r) := hr.symm
  rw [← hr]
  obtain ⟨w1, hw1, PJ0⟩ := pj_ex w #[.int .i64 (c.d : Int), .int .i64 (c.s : Int), .int .i64 (c.b : Int), .slice Ad nd Cd, .int .i64 (s.segs : Int), .slice At nt Ct, .slice As ns Cs, .int .i64 s.u, .slice Aa na Ca] #[.int .i64 d.kind, .int .i64 d.n, .int .i64 d.seg, .int .i64 d.pos, .int .u8 (d.turn : Int), .int .i64 d.bat.cmd, .slice Ae ne Ce, .string t, .int .i64 d.ver]
  have eg := Tryz.enters_noS
  clear H hr
  go_enter Tryz.func11, Tryz.ntmps11
  go_upto_region 1 with fail
  rw [← hw1]
  clear hw1
  have HP1 : Hid (PJ w w1 (stL c (.slice Ad nd Cd) (s.segs : Int) (.slice At nt Ct) (.slice As ns Cs) s.u (.slice Aa na Ca)) (doL d.kind d (.slice Ae ne Ce) t)) := PJ0
  have d0 := PJ0.dc.cell (i := 0) rfl
  clear PJ0
  have hn : ∀ k : Int, 1 ≤ k → k ≤ 9 → (d.kind == k) = false := fun k h1 h2 => by
    rw [beq_eq_false_iff_ne]
    exact hk k h1 h2
  have h1 := hn 1 (by omega) (by omega)
  have h2 := hn 2 (by omega) (by omega)
  have h3 := hn 3 (by omega) (by omega)
  have h4 := hn 4 (by omega) (by omega)
  have h5 := hn 5 (by omega) (by omega)
  have h6 := hn 6 (by omega) (by omega)
  have h7 := hn 7 (by omega) (by omega)
  have h8 := hn 8 (by omega) (by omega)
  have h9 := hn 9 (by omega) (by omega)
  have PJ1 := HP1.out
  have HNO := noS_any w.heap.size 1 (c.d : Int) (c.s : Int) (c.b : Int) (s.segs : Int) s.u Ad nd Cd At nt Ct As ns Cs Aa na Ca _ (PJ1).st
  have HPJ : Hid (PJ w w1 (stL c (.slice Ad nd Cd) (s.segs : Int) (.slice At nt Ct) (.slice As ns Cs) s.u (.slice Aa na Ca)) (doL d.kind d (.slice Ae ne Ce) t)) := PJ1
  have HRE : Hid (r = (s, ⟨1, 0, [], 0, []⟩)) := by
    rw [← HRR.out]
    exact step_none hk
  clear hn hk PJ1 HP1
  go_wp2_with fail
  refine HNO.mono ?_
  rintro e wn ⟨rfl, bn⟩
  have PJn := HPJ.out.below bn
  obtain ⟨x0, x1, x2, x3, x4, x5, x6, x7, x8, p0, p1, p2, p3, p4, p5, p6, p7, p8, y0, y1, y2, y3, y4, q0, q1, q2, q3, q4⟩ := PJn.res
  have HBN := PJn.bel
  clear HNO HPJ PJn bn
  go_wp2_with fail
  refine bodyPost_ret (v := .tuple #[stA (c.d : Int) (c.s : Int) (c.b : Int) (.slice Ad nd Cd) (s.segs : Int) (.slice At nt Ct) (.slice As ns Cs) s.u (.slice Aa na Ca), .agg #[.int .i64 (1 : Nat), .int .i64 0, .slice none 0 0, .int .i64 0, .slice none 0 0]]) (by simp [results, Tryz.results11, go_sem, x0, x1, x2, x3, x4, x5, x6, x7, x8, y0, y1, y2, y3, y4]) rfl ?_
  rw [HRE.out]
  exact HJ.out.no (noB HBN (by omega) (by omega) _ _ _ _ _ _ _ _ _ _ _ _ _ _) 1 0
set_option maxHeartbeats 2000000 in
set_option maxRecDepth 100000 in
theorem refStep_health (H : SJ X c s d T w Ad nd Cd At nt Ct As ns Cs Aa na Ca Ae ne Ce t) (hk : d.kind = 9) :
    Calls Tryz.prog 11 #[.agg #[.int .i64 (c.d : Int), .int .i64 (c.s : Int), .int .i64 (c.b : Int), .slice Ad nd Cd, .int .i64 (s.segs : Int), .slice At nt Ct, .slice As ns Cs, .int .i64 s.u, .slice Aa na Ca], .agg #[.int .i64 9, .int .i64 d.n, .int .i64 d.seg, .int .i64 d.pos, .int .u8 (d.turn : Int), .int .i64 d.bat.cmd, .slice Ae ne Ce, .string t, .int .i64 d.ver]] w fun e w' => StepO e T w w' c (Sto.step X c s d) := by
  have HJ : Hid (SJ X c s d T w Ad nd Cd At nt Ct As ns Cs Aa na Ca Ae ne Ce t) := H
  obtain ⟨r, hr⟩ : ∃ r, r = Sto.step X c s d := ⟨_, rfl⟩
  have HRR : Hid (Sto.step X c s d = r) := hr.symm
  rw [← hr]
  obtain ⟨w1, hw1, PJ0⟩ := pj_ex w #[.int .i64 (c.d : Int), .int .i64 (c.s : Int), .int .i64 (c.b : Int), .slice Ad nd Cd, .int .i64 (s.segs : Int), .slice At nt Ct, .slice As ns Cs, .int .i64 s.u, .slice Aa na Ca] #[.int .i64 9, .int .i64 d.n, .int .i64 d.seg, .int .i64 d.pos, .int .u8 (d.turn : Int), .int .i64 d.bat.cmd, .slice Ae ne Ce, .string t, .int .i64 d.ver]
  have eg := Tryz.enters_noS
  clear H hr
  go_enter Tryz.func11, Tryz.ntmps11
  go_upto_region 1 with fail
  rw [← hw1]
  clear hw1
  have HP1 : Hid (PJ w w1 (stL c (.slice Ad nd Cd) (s.segs : Int) (.slice At nt Ct) (.slice As ns Cs) s.u (.slice Aa na Ca)) (doL 9 d (.slice Ae ne Ce) t)) := PJ0
  have d0 := PJ0.dc.cell (i := 0) rfl
  clear PJ0
  have hn40 : s.segs ≤ 40 := HJ.out.wf.segs
  have HRE : Hid (r = (s, ⟨0, (Sto.health X s.disks s.segs 0 0 : Nat), [], 0, []⟩)) := by
    show r = _
    rw [← HRR.out]
    exact step_health hk
  clear hk HRR
  go_wp2_with fail
  go_loopw [25, 26] (fun v25 v26 wr => ∃ (k m : Nat), k ≤ s.segs ∧ m ≤ k * 12 ∧ v26 = .int .i64 k ∧ v25 = .int .i64 m ∧ Hid (Sto.health X s.disks s.segs 0 0 = Sto.health X s.disks (s.segs - k) k m) ∧ Hid (PJ w wr (stL c (.slice Ad nd Cd) (s.segs : Int) (.slice At nt Ct) (.slice As ns Cs) s.u (.slice Aa na Ca)) (doL 9 d (.slice Ae ne Ce) t))) (fun _ x _ => s.segs - (intOf x).toNat)
  case atStart => exact ⟨0, 0, Nat.zero_le _, Nat.le_refl _, rfl, rfl, rfl, HP1⟩
  case round =>
    obtain ⟨k, m, hk, hm, rfl, rfl, HE, HP⟩ := hrel
    obtain ⟨a0, a1, a2, a3, a4, a5, a6, a7, a8⟩ := HP.out.st.c9
    by_cases hlt : k < s.segs
    · have hlt' : (k : Int) < (s.segs : Int) := by omega
      obtain ⟨q, hq⟩ : ∃ q, s.segs - k = q + 1 := ⟨s.segs - k - 1, by omega⟩
      have HBK := refBlk_any (c.d : Int) (c.s : Int) (c.b : Int) (s.segs : Int) s.u (.slice Ad nd Cd) (.slice At nt Ct) (.slice As ns Cs) (.slice Aa na Ca) s.disks (k : Int) wr (HJ.out.st.dk.below HP.out.bel) HJ.out.wf.n12 ⟨_, _, _, rfl⟩ ⟨_, _, _, rfl⟩ ⟨_, _, _, rfl⟩
      have hl12 : (Sto.blocks s.disks (k : Int)).length ≤ 12 := by
        unfold Sto.blocks
        rw [List.length_map]
        exact HJ.out.wf.n12
      have HBD : Hid (∀ v' w', BlL w' v' (Sto.blocks s.disks (k : Int)) → Calls Tryz.prog 37 #[v', .int .i64 (k : Int)] w' fun e w2 => ∃ v2, e = .returned v2 ∧ Nums w2 w'.heap.size v2 (X.bad (Sto.blocks s.disks (k : Int)) k) ∧ Below w'.heap.size w' w2) := fun v' w' hB => badR_any HJ.out.x v' _ k w' hB hl12
      have hbl := Nat.le_trans (bad_len HJ.out.x (Sto.blocks s.disks (k : Int)) k) hl12
      have HNX : Hid (Sto.health X s.disks s.segs 0 0 = Sto.health X s.disks (s.segs - (k + 1)) (k + 1) (m + (X.bad (Sto.blocks s.disks (k : Int)) k).length)) := by
        have e : s.segs - (k + 1) = q := by omega
        show Sto.health X s.disks s.segs 0 0 = _
        rw [HE.out, hq, e, Sto.health]
      generalize X.bad (Sto.blocks s.disks (k : Int)) k = bl at HBD hbl HNX
      obtain ⟨z, hz⟩ : ∃ z, z = bl.length := ⟨_, rfl⟩
      rw [← hz] at hbl HNX
      have HZ : Hid (z = bl.length) := hz
      clear hq HE hl12 hz
      go_wp2_with fail
      refine HBK.mono ?_
      rintro e w2 ⟨v2, rfl, hL2, b2⟩
      have HB2 := HBD.out v2 w2 hL2
      clear HBK HBD hL2
      go_wp2_with fail
      refine HB2.mono ?_
      rintro e w3 ⟨v3, rfl, hN3, b3⟩
      obtain ⟨A3, C3, e3, _⟩ := row_shape hN3
      rw [← HZ.out] at e3
      subst e3
      have HP3 : Hid (PJ w w3 (stL c (.slice Ad nd Cd) (s.segs : Int) (.slice At nt Ct) (.slice As ns Cs) s.u (.slice Aa na Ca)) (doL 9 d (.slice Ae ne Ce) t)) := (HP.out.below b2).below b3
      have hm3 : m + z ≤ (k + 1) * 12 := by
        rw [Nat.succ_mul]
        omega
      have hm9 : (k + 1) * 12 ≤ 40 * 12 := Nat.mul_le_mul_right _ (by omega)
      clear HB2 HP b2 b3 hN3 a0 a1 a2 a3 a4 a5 a6 a7 a8
      go_wp2_with fail
      exact ⟨⟨k + 1, m + z, by omega, hm3, by go_num, by go_num, HNX, HP3⟩, by simp [intOf]; omega⟩
    · have hkk : k = s.segs := by omega
      have hnl : ¬ (k : Int) < (s.segs : Int) := by omega
      have HR9 : Hid (r = (s, ⟨0, (m : Int), [], 0, []⟩)) := by
        show r = _
        rw [HRE.out, HE.out, hkk, Nat.sub_self]
        rfl
      obtain ⟨x0, x1, x2, x3, x4, x5, x6, x7, x8, p0, p1, p2, p3, p4, p5, p6, p7, p8, y0, y1, y2, y3, y4, q0, q1, q2, q3, q4⟩ := HP.out.res
      have HBN := HP.out.bel
      clear HP HE HRE hkk
      go_wp2_with fail
      refine bodyPost_ret (v := .tuple #[stA (c.d : Int) (c.s : Int) (c.b : Int) (.slice Ad nd Cd) (s.segs : Int) (.slice At nt Ct) (.slice As ns Cs) s.u (.slice Aa na Ca), .agg #[.int .i64 0, .int .i64 (m : Int), .slice none 0 0, .int .i64 0, .slice none 0 0]]) (by simp [results, Tryz.results11, go_sem, x0, x1, x2, x3, x4, x5, x6, x7, x8, y0, y1, y2, y3, y4]) rfl ?_
      rw [HR9.out]
      exact HJ.out.no (noB HBN (by omega) (by omega) _ _ _ _ _ _ _ _ _ _ _ _ _ _) 0 m
end

end Go.Proofs.YtmcaejooaaahdaaGreat
