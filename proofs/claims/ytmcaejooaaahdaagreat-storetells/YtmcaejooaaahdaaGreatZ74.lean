/-
  Texts of the proof, joined: JStepS.
-/
import Derived.Test.YtmcaejooaaahdaaGreatZ69
import Derived.Test.YtmcaejooaaahdaaGreatZ46
namespace Go.Proofs.YtmcaejooaaahdaaGreat
open Go.RowKit

section
variable {X : Sto.Six} {c : Sto.Cfg} {s : Sto.St} {d : Sto.Do} {T : Nat → Bool} {w : World} {Ad At As Aa Ae : Option Addr} {nd Cd nt Ct ns Cs na Ca ne Ce : Nat} {t : ByteArray}
set_option maxHeartbeats 4000000 in
set_option maxRecDepth 100000 in
theorem refStep_spoil (H : SJ X c s d T w Ad nd Cd At nt Ct As ns Cs Aa na Ca Ae ne Ce t) (hk : d.kind = 7) :
    Calls Tryz.prog 11 #[.agg #[.int .i64 (c.d : Int), .int .i64 (c.s : Int), .int .i64 (c.b : Int), .slice Ad nd Cd, .int .i64 (s.segs : Int), .slice At nt Ct, .slice As ns Cs, .int .i64 s.u, .slice Aa na Ca], .agg #[.int .i64 7, .int .i64 d.n, .int .i64 d.seg, .int .i64 d.pos, .int .u8 (d.turn : Int), .int .i64 d.bat.cmd, .slice Ae ne Ce, .string t, .int .i64 d.ver]] w fun e w' => StepO e T w w' c (Sto.step X c s d) := by
  have HJ : Hid (SJ X c s d T w Ad nd Cd At nt Ct As ns Cs Aa na Ca Ae ne Ce t) := H
  obtain ⟨r, hr⟩ : ∃ r, r = Sto.step X c s d := ⟨_, rfl⟩
  have HRR : Hid (Sto.step X c s d = r) := hr.symm
  rw [← hr]
  obtain ⟨w1, hw1, PJ0⟩ := pj_ex w #[.int .i64 (c.d : Int), .int .i64 (c.s : Int), .int .i64 (c.b : Int), .slice Ad nd Cd, .int .i64 (s.segs : Int), .slice At nt Ct, .slice As ns Cs, .int .i64 s.u, .slice Aa na Ca] #[.int .i64 7, .int .i64 d.n, .int .i64 d.seg, .int .i64 d.pos, .int .u8 (d.turn : Int), .int .i64 d.bat.cmd, .slice Ae ne Ce, .string t, .int .i64 d.ver]
  have eg := Tryz.enters_noS
  clear H hr
  go_enter Tryz.func11, Tryz.ntmps11
  go_upto_region 1 with fail
  rw [← hw1]
  clear hw1
  have HP1 : Hid (PJ w w1 (stL c (.slice Ad nd Cd) (s.segs : Int) (.slice At nt Ct) (.slice As ns Cs) s.u (.slice Aa na Ca)) (doL 7 d (.slice Ae ne Ce) t)) := PJ0
  have d0 := PJ0.dc.cell (i := 0) rfl
  clear PJ0
  have hnd : nd = s.disks.length := by
    obtain ⟨A, C, q, _⟩ := HJ.out.st.dk
    cases q
    rfl
  have HND : Hid (nd = s.disks.length) := hnd
  have hn12 : nd ≤ 12 := by
    rw [hnd]
    exact HJ.out.wf.n12
  have HSH : Hid (Sto.step X c s d = Sto.harm s d) := step_harm (by omega)
  obtain ⟨a0, a1, a2, a3, a4, a5, a6, a7, a8⟩ := HP1.out.st.c9
  have d1 := HP1.out.dc.cell (i := 1) rfl
  clear hnd
  by_cases hb : d.n < 0 ∨ (nd : Int) ≤ d.n
  case pos =>
    have HRX : Hid (Sto.step X c s d = (s, ⟨6, 0, [], 0, []⟩)) := by
      show Sto.step X c s d = _
      rw [HSH.out]
      exact harm_none (by rw [← HND.out]; exact hb)
    have PJ1 := HP1.out
    by_cases h0 : d.n < 0
    · clear hb
      have HNO := noS_any w.heap.size 6 (c.d : Int) (c.s : Int) (c.b : Int) (s.segs : Int) s.u Ad nd Cd At nt Ct As ns Cs Aa na Ca _ (PJ1).st
      have HPJ : Hid (PJ w w1 (stL c (.slice Ad nd Cd) (s.segs : Int) (.slice At nt Ct) (.slice As ns Cs) s.u (.slice Aa na Ca)) (doL 7 d (.slice Ae ne Ce) t)) := PJ1
      have HRE : Hid (r = (s, ⟨6, 0, [], 0, []⟩)) := by
        rw [← HRR.out]
        exact HRX.out
      clear PJ1 HP1 hk
      go_wp2_with fail
      refine HNO.mono ?_
      rintro e wn ⟨rfl, bn⟩
      have PJn := HPJ.out.below bn
      obtain ⟨x0, x1, x2, x3, x4, x5, x6, x7, x8, p0, p1, p2, p3, p4, p5, p6, p7, p8, y0, y1, y2, y3, y4, q0, q1, q2, q3, q4⟩ := PJn.res
      have HBN := PJn.bel
      clear HNO HPJ PJn bn
      go_wp2_with fail
      refine bodyPost_ret (v := .tuple #[stA (c.d : Int) (c.s : Int) (c.b : Int) (.slice Ad nd Cd) (s.segs : Int) (.slice At nt Ct) (.slice As ns Cs) s.u (.slice Aa na Ca), .agg #[.int .i64 (6 : Nat), .int .i64 0, .slice none 0 0, .int .i64 0, .slice none 0 0]]) (by simp [results, Tryz.results11, go_sem, x0, x1, x2, x3, x4, x5, x6, x7, x8, y0, y1, y2, y3, y4]) rfl ?_
      rw [HRE.out]
      exact HJ.out.no (noB HBN (by omega) (by omega) _ _ _ _ _ _ _ _ _ _ _ _ _ _) 6 0
    · have h1 : (nd : Int) ≤ d.n := by omega
      clear hb
      have HNO := noS_any w.heap.size 6 (c.d : Int) (c.s : Int) (c.b : Int) (s.segs : Int) s.u Ad nd Cd At nt Ct As ns Cs Aa na Ca _ (PJ1).st
      have HPJ : Hid (PJ w w1 (stL c (.slice Ad nd Cd) (s.segs : Int) (.slice At nt Ct) (.slice As ns Cs) s.u (.slice Aa na Ca)) (doL 7 d (.slice Ae ne Ce) t)) := PJ1
      have HRE : Hid (r = (s, ⟨6, 0, [], 0, []⟩)) := by
        rw [← HRR.out]
        exact HRX.out
      clear PJ1 HP1 hk
      go_wp2_with fail
      refine HNO.mono ?_
      rintro e wn ⟨rfl, bn⟩
      have PJn := HPJ.out.below bn
      obtain ⟨x0, x1, x2, x3, x4, x5, x6, x7, x8, p0, p1, p2, p3, p4, p5, p6, p7, p8, y0, y1, y2, y3, y4, q0, q1, q2, q3, q4⟩ := PJn.res
      have HBN := PJn.bel
      clear HNO HPJ PJn bn
      go_wp2_with fail
      refine bodyPost_ret (v := .tuple #[stA (c.d : Int) (c.s : Int) (c.b : Int) (.slice Ad nd Cd) (s.segs : Int) (.slice At nt Ct) (.slice As ns Cs) s.u (.slice Aa na Ca), .agg #[.int .i64 (6 : Nat), .int .i64 0, .slice none 0 0, .int .i64 0, .slice none 0 0]]) (by simp [results, Tryz.results11, go_sem, x0, x1, x2, x3, x4, x5, x6, x7, x8, y0, y1, y2, y3, y4]) rfl ?_
      rw [HRE.out]
      exact HJ.out.no (noB HBN (by omega) (by omega) _ _ _ _ _ _ _ _ _ _ _ _ _ _) 6 0
  case neg =>
    obtain ⟨m, hm⟩ : ∃ m : Nat, d.n = (m : Int) := ⟨d.n.toNat, by omega⟩
    have HM : Hid (d.n = (m : Int)) := hm
    rw [hm] at d1
    have h0 : ¬ (m : Int) < 0 := by omega
    have h1 : ¬ (nd : Int) ≤ (m : Int) := by omega
    have h2 : (m : Int) < (nd : Int) := by omega
    have h3 : m < nd := by omega
    obtain ⟨x, hx⟩ : ∃ x, s.disks[m]? = some x := ⟨s.disks[m]'(by rw [← HND.out]; exact h3), List.getElem?_eq_getElem _⟩
    have HXX : Hid (s.disks[m]? = some x) := hx
    obtain ⟨b, o, rfl, hcg⟩ : ∃ b o, Ad = some ⟨b, o, none⟩ ∧ w.cell? ⟨b, o + m * 2, none⟩ = some (.bool x.gone) := by
      obtain ⟨A, C, q, _, _, q3⟩ := HJ.out.st.dk
      cases q
      obtain ⟨b, o, e, v, c0, _⟩ := q3 m x hx
      exact ⟨b, o, e, c0⟩
    have HOW := refOwn_any (c.d : Int) (c.s : Int) (c.b : Int) (s.segs : Int) s.u (.slice (some ⟨b, o, none⟩) nd Cd) (.slice At nt Ct) (.slice As ns Cs) (.slice Aa na Ca) s.disks w1 (HJ.out.st.dk.below HP1.out.bel) HJ.out.wf.n1 HJ.out.wf.n12 (fun i d hd => HJ.out.wf.bl hd) HJ.out.wf.len ⟨_, _, _, rfl⟩ ⟨_, _, _, rfl⟩ ⟨_, _, _, rfl⟩
    clear hb hm hx
    go_wp2_with fail
    refine HOW.mono ?_
    rintro e w9 ⟨D, C, V, U, rfl, hC1, hC2, hDk, b9⟩
    rw [← HND.out] at hC1 ⊢
    have bT : Below w9.heap.size w9 (w9.alloc (.cells #[.int .i64 (c.d : Int), .int .i64 (c.s : Int), .int .i64 (c.b : Int), .slice (some ⟨D, 0, none⟩) nd C, .int .i64 (s.segs : Int), .slice At nt Ct, .slice As ns Cs, .int .i64 s.u, .slice Aa na Ca] 32)) := (Below.refl _ _).alloc (Nat.le_refl _) _
    have VT := varN_new w9 #[.int .i64 (c.d : Int), .int .i64 (c.s : Int), .int .i64 (c.b : Int), .slice (some ⟨D, 0, none⟩) nd C, .int .i64 (s.segs : Int), .slice At nt Ct, .slice As ns Cs, .int .i64 s.u, .slice Aa na Ca] 32
    have hDk10 := hDk.below bT
    have b110 := bt b9 bT
    have h19 : w1.heap.size ≤ w9.heap.size := b9.size
    have hC2' : C ≤ 9223372036854775807 := by unfold maxLen at hC2; exact hC2
    clear HOW hDk b9 bT a0 a1 a2 a3 a4 a5 a6 a7 a8 d1
    go_upto_region 34 with fail
    obtain ⟨w10, hw10⟩ : ∃ q, q = w9.alloc (.cells #[.int .i64 (c.d : Int), .int .i64 (c.s : Int), .int .i64 (c.b : Int), .slice (some ⟨D, 0, none⟩) nd C, .int .i64 (s.segs : Int), .slice At nt Ct, .slice As ns Cs, .int .i64 s.u, .slice Aa na Ca] 32) := ⟨_, rfl⟩
    rw [← hw10] at VT hDk10 b110 ⊢
    obtain ⟨QT, hQT⟩ : ∃ q, q = w9.heap.size := ⟨_, rfl⟩
    rw [← hQT] at VT ⊢
    have hQ1 : w1.heap.size ≤ QT := by rw [hQT]; exact h19
    have HP10 : Hid (PJ w w10 (stL c (.slice (some ⟨b, o, none⟩) nd Cd) (s.segs : Int) (.slice At nt Ct) (.slice As ns Cs) s.u (.slice Aa na Ca)) (doL 7 d (.slice Ae ne Ce) t)) := HP1.out.below b110
    have HN1 : Hid (w.heap.size + 1 + 1 + 1 < w1.heap.size) := HP1.out.size
    have HDK : Hid (DkAt w10 w1.heap.size D V U s.disks) := hDk10
    have HVT : Hid (VarN w10 QT 32 (stL c (.slice (some ⟨D, 0, none⟩) nd C) (s.segs : Int) (.slice At nt Ct) (.slice As ns Cs) s.u (.slice Aa na Ca))) := VT
    have hDQ : QT ≠ D := VT.ty.ne hDk10.row.ty (by decide)
    have hDQ' : D ≠ QT := fun e => hDQ e.symm
    have d0 := HP10.out.dc.cell (i := 0) rfl
    have d1 := HP10.out.dc.cell (i := 1) rfl
    have a3 := HP10.out.st.cell (i := 3) rfl
    rw [HM.out] at d1
    have cg := CSub.of_below HP10.out.bel _ _ hcg
    have t3 := VT.cell (i := 3) rfl
    clear VT hDk10 b110 h19 hw10 hQT HP1 hcg
    have hml : m < s.disks.length := by rw [← HND.out]; exact h3
    have g1 := HDK.out.held (i := m) hml
    have HU : Hid (Sto.Up x.bl) := (HJ.out.wf.si.up m x HXX.out).1
    have HBL : Hid (x.bl = (U m).map heOf) := HDK.out.bl m x HXX.out
    obtain ⟨AV, CV, hV, hV1, hV2, hV3⟩ := HDK.out.heIn hml
    have HCE : Hid (∀ (i : Nat) (y : HeC), (U m)[i]? = some y → ∃ b o, AV = some ⟨b, o, none⟩ ∧ w10.cell? ⟨b, o + i * 2, none⟩ = some (.int .i64 y.1) ∧ w10.cell? ⟨b, o + i * 2 + 1, none⟩ = some (slV y.2.1)) := hV3
    have HML : Hid (m < s.disks.length) := hml
    have hV2' : CV ≤ 9223372036854775807 := by unfold maxLen at hV2; exact hV2
    obtain ⟨nu, hnu⟩ : ∃ nu, nu = (U m).length := ⟨_, rfl⟩
    have HNU : Hid (nu = (U m).length) := hnu
    rw [hV, ← hnu] at g1
    rw [← hnu] at hV1
    clear hV hV2 hV3 hnu hml cg a3
    go_wp2_with fail
    go_loopw [182] (fun xv wr => ∃ (k : Nat), k ≤ nu ∧ xv = .int .i64 k ∧ Hid (∀ (i : Nat) (y : HeC), i < k → (U m)[i]? = some y → y.1 ≠ d.seg) ∧ Below w10.heap.size w10 wr) (fun xv _ => nu - (intOf xv).toNat)
    case atStart => exact ⟨0, Nat.zero_le _, rfl, fun i y hi => absurd hi (Nat.not_lt_zero _), Below.refl _ _⟩
    case round =>
      obtain ⟨k, hkn, rfl, HNO1, hbr⟩ := hrel
      by_cases hlt : k < nu
      · have hlt' : (k : Int) < (nu : Int) := by omega
        obtain ⟨y, hy⟩ : ∃ y, (U m)[k]? = some y := ⟨(U m)[k]'(by rw [← HNU.out]; exact hlt), List.getElem?_eq_getElem _⟩
        obtain ⟨b7, o7, rfl, e0, e1⟩ := HCE.out k y hy
        have e0 := (hbr.cell (p := ⟨b7, o7 + k * 2, none⟩) (World.block_lt_of_cell? _ _ e0)).trans e0
        have e1 := (hbr.cell (p := ⟨b7, o7 + k * 2 + 1, none⟩) (World.block_lt_of_cell? _ _ e1)).trans e1
        have hB := (HDK.out.below hbr).byt m y HML.out (List.mem_of_getElem? hy)
        obtain ⟨gx, cx, hvx, hgx, hcx1, hcx2, hrx⟩ := hB.at
        have hcx2' : cx ≤ 9223372036854775807 := by unfold maxLen at hcx2; exact hcx2
        obtain ⟨nx, hnx⟩ : ∃ nx, nx = y.2.2.length := ⟨_, rfl⟩
        rw [hvx, ← hnx] at e1
        have HNX : Hid (nx = y.2.2.length) := hnx
        clear hnx
        have bA : Below wr.heap.size wr (wr.alloc (.cells #[.int .i64 y.1, .slice (some ⟨gx, 0, none⟩) nx cx] 61)) := (Below.refl _ _).alloc (Nat.le_refl _) _
        have VH := varN_new wr #[.int .i64 y.1, .slice (some ⟨gx, 0, none⟩) nx cx] 61
        have HPQ0 := (HP10.out.below hbr).below bA
        have HVQ0 := (HVT.out.below hbr).below bA
        have HDQ0 := (HDK.out.below hbr).below bA
        have hBq := hB.below bA
        have hrq := hrx.below bA
        have hb2 := bt hbr bA
        clear hB hrx bA hbr
        go_upto_region 42 with fail
        obtain ⟨wq, hwq⟩ : ∃ q, q = wr.alloc (.cells #[.int .i64 y.1, .slice (some ⟨gx, 0, none⟩) nx cx] 61) := ⟨_, rfl⟩
        rw [← hwq] at VH HPQ0 HVQ0 HDQ0 hBq hrq hb2 ⊢
        obtain ⟨QH, hQH⟩ : ∃ q, q = wr.heap.size := ⟨_, rfl⟩
        rw [← hQH] at VH ⊢
        have HPQ : Hid (PJ w wq (stL c (.slice (some ⟨b, o, none⟩) nd Cd) (s.segs : Int) (.slice At nt Ct) (.slice As ns Cs) s.u (.slice Aa na Ca)) (doL 7 d (.slice Ae ne Ce) t)) := HPQ0
        have HVQ : Hid (VarN wq QT 32 (stL c (.slice (some ⟨D, 0, none⟩) nd C) (s.segs : Int) (.slice At nt Ct) (.slice As ns Cs) s.u (.slice Aa na Ca))) := HVQ0
        have HDQ : Hid (DkAt wq w1.heap.size D V U s.disks) := HDQ0
        have HY : Hid ((U m)[k]? = some y) := hy
        have HVX : Hid (slV y.2.1 = .slice (some ⟨gx, 0, none⟩) y.2.2.length cx) := hvx
        have hgQ : ¬ QT = gx := HVQ0.ty.ne hrq.ty (by decide)
        have hq0 := VH.cell (i := 0) rfl
        have hq1 := VH.cell (i := 1) rfl
        have d2 := HPQ0.dc.cell (i := 2) rfl
        have d3 := HPQ0.dc.cell (i := 3) rfl
        have d4 := HPQ0.dc.cell (i := 4) rfl
        have hdx : x.bl[k]? = some (heOf y) := by
          rw [HBL.out, List.getElem?_map, hy]
          rfl
        have HDX : Hid (x.bl[k]? = some (heOf y)) := hdx
        clear HPQ0 HVQ0 HDQ0 VH hwq hQH hy hvx hdx e0 e1 HP10 HDK HVT d0 d1 t3 g1
        by_cases hs : y.1 = d.seg
        case neg =>
          have hsn : (y.1 != d.seg) = true := by rw [bne_iff_ne]; exact hs
          have HNO2 : Hid (∀ (i : Nat) (z : HeC), i < k + 1 → (U m)[i]? = some z → z.1 ≠ d.seg) := fun i z hi hz => by
            rcases Nat.lt_succ_iff_lt_or_eq.1 hi with q | q
            · exact HNO1.out i z q hz
            · subst q
              rw [HY.out] at hz
              cases hz
              exact hs
          clear hs
          go_wp2_with fail
          exact ⟨⟨k + 1, by omega, by go_num, HNO2, hb2⟩, by simp [intOf]; omega⟩
        case pos =>
          have hsn : (y.1 != d.seg) = false := by rw [hs, bne_self_eq_false]
          have hfind := find_up HU.out HDX.out (show (heOf y).1 = d.seg from hs)
          by_cases hp : d.pos < 0 ∨ (y.2.2.length : Int) ≤ d.pos
          case pos =>
            have HSP : Hid (spoilR s.disks m x d.seg d.pos d.turn = (3, s.disks)) := by
              show spoilR s.disks m x d.seg d.pos d.turn = (3, s.disks)
              unfold spoilR
              rw [hfind]
              exact if_pos hp
            have HRX : Hid (Sto.step X c s d = (s, ⟨3, 0, [], 0, []⟩)) := by
              show Sto.step X c s d = _
              rw [HSH.out, harm_spoil hk HM.out HXX.out, HSP.out]
            have PJQ := HPQ.out
            rw [← HNX.out] at hp hcx1
            clear hs hfind HSP HDX HY HVX HDQ HVQ hBq hrq
            by_cases hp0 : d.pos < 0
            · clear hp
              have HNO := noS_any w.heap.size 3 (c.d : Int) (c.s : Int) (c.b : Int) (s.segs : Int) s.u (some ⟨b, o, none⟩) nd Cd At nt Ct As ns Cs Aa na Ca _ (PJQ).st
              have HPJ : Hid (PJ w wq (stL c (.slice (some ⟨b, o, none⟩) nd Cd) (s.segs : Int) (.slice At nt Ct) (.slice As ns Cs) s.u (.slice Aa na Ca)) (doL 7 d (.slice Ae ne Ce) t)) := PJQ
              have HRE : Hid (r = (s, ⟨3, 0, [], 0, []⟩)) := by
                rw [← HRR.out]
                exact HRX.out
              clear PJQ HPQ hk
              go_wp2_with fail
              refine HNO.mono ?_
              rintro e wn ⟨rfl, bn⟩
              have PJn := HPJ.out.below bn
              obtain ⟨x0, x1, x2, x3, x4, x5, x6, x7, x8, p0, p1, p2, p3, p4, p5, p6, p7, p8, y0, y1, y2, y3, y4, q0, q1, q2, q3, q4⟩ := PJn.res
              have HBN := PJn.bel
              clear HNO HPJ PJn bn
              go_wp2_with fail
              refine bodyPost_ret (v := .tuple #[stA (c.d : Int) (c.s : Int) (c.b : Int) (.slice (some ⟨b, o, none⟩) nd Cd) (s.segs : Int) (.slice At nt Ct) (.slice As ns Cs) s.u (.slice Aa na Ca), .agg #[.int .i64 (3 : Nat), .int .i64 0, .slice none 0 0, .int .i64 0, .slice none 0 0]]) (by simp [results, Tryz.results11, go_sem, x0, x1, x2, x3, x4, x5, x6, x7, x8, y0, y1, y2, y3, y4]) rfl ?_
              rw [HRE.out]
              exact HJ.out.no (noB HBN (by omega) (by omega) _ _ _ _ _ _ _ _ _ _ _ _ _ _) 3 0
            · have hp1 : (nx : Int) ≤ d.pos := by omega
              clear hp
              have HNO := noS_any w.heap.size 3 (c.d : Int) (c.s : Int) (c.b : Int) (s.segs : Int) s.u (some ⟨b, o, none⟩) nd Cd At nt Ct As ns Cs Aa na Ca _ (PJQ).st
              have HPJ : Hid (PJ w wq (stL c (.slice (some ⟨b, o, none⟩) nd Cd) (s.segs : Int) (.slice At nt Ct) (.slice As ns Cs) s.u (.slice Aa na Ca)) (doL 7 d (.slice Ae ne Ce) t)) := PJQ
              have HRE : Hid (r = (s, ⟨3, 0, [], 0, []⟩)) := by
                rw [← HRR.out]
                exact HRX.out
              clear PJQ HPQ hk
              go_wp2_with fail
              refine HNO.mono ?_
              rintro e wn ⟨rfl, bn⟩
              have PJn := HPJ.out.below bn
              obtain ⟨x0, x1, x2, x3, x4, x5, x6, x7, x8, p0, p1, p2, p3, p4, p5, p6, p7, p8, y0, y1, y2, y3, y4, q0, q1, q2, q3, q4⟩ := PJn.res
              have HBN := PJn.bel
              clear HNO HPJ PJn bn
              go_wp2_with fail
              refine bodyPost_ret (v := .tuple #[stA (c.d : Int) (c.s : Int) (c.b : Int) (.slice (some ⟨b, o, none⟩) nd Cd) (s.segs : Int) (.slice At nt Ct) (.slice As ns Cs) s.u (.slice Aa na Ca), .agg #[.int .i64 (3 : Nat), .int .i64 0, .slice none 0 0, .int .i64 0, .slice none 0 0]]) (by simp [results, Tryz.results11, go_sem, x0, x1, x2, x3, x4, x5, x6, x7, x8, y0, y1, y2, y3, y4]) rfl ?_
              rw [HRE.out]
              exact HJ.out.no (noB HBN (by omega) (by omega) _ _ _ _ _ _ _ _ _ _ _ _ _ _) 3 0
          case neg =>
            obtain ⟨p', hp'⟩ : ∃ p' : Nat, d.pos = (p' : Int) := ⟨d.pos.toNat, by omega⟩
            have hpl : p' < y.2.2.length := by omega
            have hbp := Sto.getD_bytes hBq.1 p'
            have dx : wq.cell? ⟨gx, p', none⟩ = some (.int .u8 ((y.2.2.getD p' 0 : Nat) : Int)) := hrq.cell hpl
            have fx := hrq.frozen p'
            obtain ⟨bx, hbx⟩ : ∃ bx, bx = y.2.2.getD p' 0 := ⟨_, rfl⟩
            rw [← hbx] at dx hbp
            have hyb : d.turn < 256 := HJ.out.do0.byte
            have hxr : bx ^^^ d.turn < 256 := Nat.xor_lt_two_pow (n := 8) hbp hyb
            have HSP : Hid (spoilR s.disks m x d.seg d.pos d.turn = (0, s.disks.set m ⟨x.gone, x.bl.set k (y.1, y.2.2.set p' (bx ^^^ d.turn))⟩)) := by
              show spoilR s.disks m x d.seg d.pos d.turn = _
              unfold spoilR
              rw [hfind]
              show (if d.pos < 0 ∨ (y.2.2.length : Int) ≤ d.pos then _ else _) = _
              rw [if_neg hp, hp', Int.toNat_natCast, Sto.spoil_there HU.out HDX.out (show (heOf y).1 = d.seg from hs), hbx, hs]
              rfl
            have hX : bits .xor .u8 (bx : Int) (d.turn : Int) = ((bx ^^^ d.turn : Nat) : Int) := u8_xor_nat bx d.turn hbp hyb
            rw [hp'] at d3
            have hnx := HNX.out
            have hp2 : (p' : Int) < (nx : Int) := by omega
            have hp3 : p' < nx := by omega
            have hp4 : ¬ (p' : Int) < 0 := by omega
            have hp5 : ¬ (nx : Int) ≤ (p' : Int) := by omega
            clear hnx
            rw [← HNX.out] at hcx1
            clear hs hfind HDX hBq hrq hp hbx hp' hb2
            go_upto_region 45 with fail
            go_region
            go_upto_region 46 with fail
            clear d2 d3 d4 dx fx hq0 hq1
            obtain ⟨w11, hw11⟩ : ∃ q, q = (wq.setCell ⟨gx, p', none⟩ (.int .u8 ((bx ^^^ d.turn : Nat) : Int))).drew := ⟨_, rfl⟩
            rw [← hw11]
            have hD11 := (HDQ.out.spoilt HXX.out HY.out HVX.out hpl hxr).below (Below.refl _ _).drew
            rw [← hw11] at hD11
            have o11 : Off (fun q => q = gx) wq w11 := by
              rw [hw11]
              exact (off_set wq ⟨gx, p', none⟩ _).trans (Off.of_below (Below.refl _ _).drew)
            have PJ11 := HPQ.out.off o11 (fun q hq => by
              have hq : q = gx := hq
              have := HN1.out
              omega)
            have VT11 := HVQ.out.off o11 hgQ
            have HFZ : Hid (∀ wE, Off (fun q => q = w.heap.size + 1 + 1 ∨ q = w.heap.size + 1 + 1 + 1) w11 wE → StepO (.returned (.tuple #[stA (c.d : Int) (c.s : Int) (c.b : Int) (.slice (some ⟨D, 0, none⟩) nd C) (s.segs : Int) (.slice At nt Ct) (.slice As ns Cs) s.u (.slice Aa na Ca), .agg #[.int .i64 0, .int .i64 0, .slice none 0 0, .int .i64 0, .slice none 0 0]])) T w wE c r) := fun wE ho => by
              rw [← HRR.out, HSH.out, harm_spoil hk HM.out HXX.out, HSP.out]
              exact HJ.out.disks PJ11.bel hD11 ho HN1.out (by rw [List.length_set]; exact HND.out) hC1 hC2 0 0
            obtain ⟨a0, a1, a2, a3, a4, a5, a6, a7, a8⟩ := VT11.c9
            obtain ⟨x0, x1, x2, x3, x4, x5, x6, x7, x8, p0, p1, p2, p3, p4, p5, p6, p7, p8, y0, y1, y2, y3, y4, q0, q1, q2, q3, q4⟩ := PJ11.res
            have hne2 : ¬ QT = w.heap.size + 1 + 1 := by
              have := HN1.out
              omega
            have hne3 : ¬ w.heap.size + 1 + 1 = QT := fun e => hne2 e.symm
            clear hw11 hD11 o11 PJ11 VT11 HDQ HVQ HPQ HRR HY HVX
            go_wp2_with fail
            refine bodyPost_ret (v := .tuple #[stA (c.d : Int) (c.s : Int) (c.b : Int) (.slice (some ⟨D, 0, none⟩) nd C) (s.segs : Int) (.slice At nt Ct) (.slice As ns Cs) s.u (.slice Aa na Ca), .agg #[.int .i64 0, .int .i64 0, .slice none 0 0, .int .i64 0, .slice none 0 0]]) (by simp [results, Tryz.results11, go_sem, x0, x1, x2, x3, x4, x5, x6, x7, x8, y0, y1, y2, y3, y4]) rfl ?_
            exact HFZ.out _ (off14n _ _ _ _ _ _ _ _ _ _ _ _ _ _ _ _ _)
      · obtain rfl : k = nu := by omega
        have HSP : Hid (spoilR s.disks m x d.seg d.pos d.turn = (6, s.disks)) := by
          show spoilR s.disks m x d.seg d.pos d.turn = (6, s.disks)
          unfold spoilR
          rw [List.find?_eq_none.2 (fun z hz => by
            rw [HBL.out] at hz
            obtain ⟨y, hy, rfl⟩ := List.mem_map.1 hz
            obtain ⟨i, hi, hiy⟩ := List.getElem_of_mem hy
            have := HNO1.out i y (by rw [HNU.out]; exact hi) (by rw [List.getElem?_eq_getElem hi, hiy])
            exact fun z => this (of_decide_eq_true z))]
        have HRX : Hid (Sto.step X c s d = (s, ⟨6, 0, [], 0, []⟩)) := by
          show Sto.step X c s d = _
          rw [HSH.out, harm_spoil hk HM.out HXX.out, HSP.out]
        have PJR := HP10.out.below hbr
        clear HSP HDK HVT HCE d0 d1 t3 g1 hbr
        have HNO := noS_any w.heap.size 6 (c.d : Int) (c.s : Int) (c.b : Int) (s.segs : Int) s.u (some ⟨b, o, none⟩) nd Cd At nt Ct As ns Cs Aa na Ca _ (PJR).st
        have HPJ : Hid (PJ w wr (stL c (.slice (some ⟨b, o, none⟩) nd Cd) (s.segs : Int) (.slice At nt Ct) (.slice As ns Cs) s.u (.slice Aa na Ca)) (doL 7 d (.slice Ae ne Ce) t)) := PJR
        have HRE : Hid (r = (s, ⟨6, 0, [], 0, []⟩)) := by
          rw [← HRR.out]
          exact HRX.out
        clear PJR HP10 hk
        go_wp2_with fail
        refine HNO.mono ?_
        rintro e wn ⟨rfl, bn⟩
        have PJn := HPJ.out.below bn
        obtain ⟨x0, x1, x2, x3, x4, x5, x6, x7, x8, p0, p1, p2, p3, p4, p5, p6, p7, p8, y0, y1, y2, y3, y4, q0, q1, q2, q3, q4⟩ := PJn.res
        have HBN := PJn.bel
        clear HNO HPJ PJn bn
        go_wp2_with fail
        refine bodyPost_ret (v := .tuple #[stA (c.d : Int) (c.s : Int) (c.b : Int) (.slice (some ⟨b, o, none⟩) nd Cd) (s.segs : Int) (.slice At nt Ct) (.slice As ns Cs) s.u (.slice Aa na Ca), .agg #[.int .i64 (6 : Nat), .int .i64 0, .slice none 0 0, .int .i64 0, .slice none 0 0]]) (by simp [results, Tryz.results11, go_sem, x0, x1, x2, x3, x4, x5, x6, x7, x8, y0, y1, y2, y3, y4]) rfl ?_
        rw [HRE.out]
        exact HJ.out.no (noB HBN (by omega) (by omega) _ _ _ _ _ _ _ _ _ _ _ _ _ _) 6 0
end

end Go.Proofs.YtmcaejooaaahdaaGreat
