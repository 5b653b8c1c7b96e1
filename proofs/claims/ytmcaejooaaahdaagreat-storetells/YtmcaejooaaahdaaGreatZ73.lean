/-
  Texts of the proof, joined: JStepL, JStepR.
-/
import Derived.Test.YtmcaejooaaahdaaGreatZ69
import Derived.Test.YtmcaejooaaahdaaGreatZ46
namespace Go.Proofs.YtmcaejooaaahdaaGreat
open Go.RowKit

section
variable {X : Sto.Six} {c : Sto.Cfg} {s : Sto.St} {d : Sto.Do} {T : Nat → Bool} {w : World} {Ad At As Aa Ae : Option Addr} {nd Cd nt Ct ns Cs na Ca ne Ce : Nat} {t : ByteArray}
set_option maxHeartbeats 2000000 in
set_option maxRecDepth 100000 in
theorem refStep_all (H : SJ X c s d T w Ad nd Cd At nt Ct As ns Cs Aa na Ca Ae ne Ce t) (hk : d.kind = 3) :
    Calls Tryz.prog 11 #[.agg #[.int .i64 (c.d : Int), .int .i64 (c.s : Int), .int .i64 (c.b : Int), .slice Ad nd Cd, .int .i64 (s.segs : Int), .slice At nt Ct, .slice As ns Cs, .int .i64 s.u, .slice Aa na Ca], .agg #[.int .i64 3, .int .i64 d.n, .int .i64 d.seg, .int .i64 d.pos, .int .u8 (d.turn : Int), .int .i64 d.bat.cmd, .slice Ae ne Ce, .string t, .int .i64 d.ver]] w fun e w' => StepO e T w w' c (Sto.step X c s d) := by
  have HJ : Hid (SJ X c s d T w Ad nd Cd At nt Ct As ns Cs Aa na Ca Ae ne Ce t) := H
  obtain ⟨r, hr⟩ : ∃ r, r = Sto.step X c s d := ⟨_, rfl⟩
  have HRR : Hid (Sto.step X c s d = r) := hr.symm
  rw [← hr]
  obtain ⟨w1, hw1, PJ0⟩ := pj_ex w #[.int .i64 (c.d : Int), .int .i64 (c.s : Int), .int .i64 (c.b : Int), .slice Ad nd Cd, .int .i64 (s.segs : Int), .slice At nt Ct, .slice As ns Cs, .int .i64 s.u, .slice Aa na Ca] #[.int .i64 3, .int .i64 d.n, .int .i64 d.seg, .int .i64 d.pos, .int .u8 (d.turn : Int), .int .i64 d.bat.cmd, .slice Ae ne Ce, .string t, .int .i64 d.ver]
  have eg := Tryz.enters_noS
  clear H hr
  go_enter Tryz.func11, Tryz.ntmps11
  go_upto_region 1 with fail
  rw [← hw1]
  clear hw1
  have HP1 : Hid (PJ w w1 (stL c (.slice Ad nd Cd) (s.segs : Int) (.slice At nt Ct) (.slice As ns Cs) s.u (.slice Aa na Ca)) (doL 3 d (.slice Ae ne Ce) t)) := PJ0
  have d0 := PJ0.dc.cell (i := 0) rfl
  clear PJ0
  have HAL := refAll_any HJ.out.x c s (.slice Ad nd Cd) (.slice At nt Ct) (.slice As ns Cs) (.slice Aa na Ca) w1 (HJ.out.st.sub (CSub.of_below HP1.out.bel)) HJ.out.wf
  obtain ⟨x, l, hxl⟩ : ∃ x l, Sto.all X c s = (x, l) := ⟨_, _, rfl⟩
  have HST : Hid (Sto.step X c s d = (s, askA (x, l) (fromA l d.n))) := by
    show Sto.step X c s d = _
    rw [step_all hk, hxl]
  rw [hxl] at HAL
  obtain ⟨a0, a1, a2, a3, a4, a5, a6, a7, a8⟩ := HP1.out.st.c9
  clear hxl
  go_wp2_with fail
  refine HAL.mono ?_
  rintro e w2 ⟨hA, b2⟩
  obtain ⟨v, es, he, hes, hB, hle⟩ : ∃ (v : Value) (es : List EvC), e = Ending.returned (.tuple #[v, .int .i64 (x : Nat)]) ∧ es.map evOf = l ∧ EBuf w2 w1.heap.size v es ∧ es.length ≤ 200000 := hA
  subst he
  have HP2 : Hid (PJ w w2 (stL c (.slice Ad nd Cd) (s.segs : Int) (.slice At nt Ct) (.slice As ns Cs) s.u (.slice Aa na Ca)) (doL 3 d (.slice Ae ne Ce) t)) := HP1.out.below b2
  have HN1 : Hid (w.heap.size + 1 + 1 + 1 < w1.heap.size) := HP1.out.size
  have HT1 : Hid (∀ k, T k = true → k < w1.heap.size) := fun k z => by
    have := HJ.out.low k z
    have := HN1.out
    omega
  have HEV : Hid (EBuf w2 w1.heap.size v es) := hB
  have HEM : Hid (es.map evOf = l) := hes
  have h12 : w1.heap.size ≤ w2.heap.size := b2.size
  clear HAL a0 a1 a2 a3 a4 a5 a6 a7 a8 hB hes HP1 d0 b2
  by_cases hx : x = 0
  case neg =>
    have hx' : ((x : Int) == 0) = false := by rw [beq_eq_false_iff_ne]; omega
    have hxn : ((x : Int) != 0) = true := by rw [bne, hx']; rfl
    have HRX : Hid (Sto.step X c s d = (s, ⟨x, 0, [], 0, []⟩)) := by
      show Sto.step X c s d = _
      rw [HST.out]
      unfold askA
      rw [if_pos hx]
      rfl
    have PJ2 := HP2.out
    obtain ⟨A, C, hv⟩ := HEV.out.shape
    subst hv
    have HNO := noS_any w.heap.size x (c.d : Int) (c.s : Int) (c.b : Int) (s.segs : Int) s.u Ad nd Cd At nt Ct As ns Cs Aa na Ca _ (PJ2).st
    have HPJ : Hid (PJ w w2 (stL c (.slice Ad nd Cd) (s.segs : Int) (.slice At nt Ct) (.slice As ns Cs) s.u (.slice Aa na Ca)) (doL 3 d (.slice Ae ne Ce) t)) := PJ2
    have HRE : Hid (r = (s, ⟨x, 0, [], 0, []⟩)) := by
      rw [← HRR.out]
      exact HRX.out
    clear PJ2 HP2 hk hx HEV HST
    go_wp2_with fail
    refine HNO.mono ?_
    rintro e wn ⟨rfl, bn⟩
    have PJn := HPJ.out.below bn
    obtain ⟨x0, x1, x2, x3, x4, x5, x6, x7, x8, p0, p1, p2, p3, p4, p5, p6, p7, p8, y0, y1, y2, y3, y4, q0, q1, q2, q3, q4⟩ := PJn.res
    have HBN := PJn.bel
    clear HNO HPJ PJn bn
    go_wp2_with fail
    refine bodyPost_ret (v := .tuple #[stA (c.d : Int) (c.s : Int) (c.b : Int) (.slice Ad nd Cd) (s.segs : Int) (.slice At nt Ct) (.slice As ns Cs) s.u (.slice Aa na Ca), .agg #[.int .i64 (x : Nat), .int .i64 0, .slice none 0 0, .int .i64 0, .slice none 0 0]]) (by simp [results, Tryz.results11, go_sem, x0, x1, x2, x3, x4, x5, x6, x7, x8, y0, y1, y2, y3, y4]) rfl ?_
    rw [HRE.out]
    exact HJ.out.no (noB HBN (by omega) (by omega) _ _ _ _ _ _ _ _ _ _ _ _ _ _) x 0
  case pos =>
    have hx' : ((x : Int) == 0) = true := by rw [hx]; rfl
    have hxn : ((x : Int) != 0) = false := by rw [bne, hx']; rfl
    have HRX : Hid (Sto.step X c s d = (s, fromA l d.n)) := by
      show Sto.step X c s d = _
      rw [HST.out]
      unfold askA
      rw [if_neg (fun z => z hx)]
    clear HST hx hk
    have d0 := HP2.out.dc.cell (i := 0) rfl
    have d1 := HP2.out.dc.cell (i := 1) rfl
    obtain ⟨L, hL⟩ : ∃ L, L = es.length := ⟨_, rfl⟩
    have hml : l.length = L := by rw [← HEM.out, List.length_map, hL]
    by_cases q : d.n < 0 ∨ (L : Int) < d.n
    case pos =>
      have HRX : Hid (Sto.step X c s d = (s, ⟨3, 0, [], 0, []⟩)) := by
        show Sto.step X c s d = _
        rw [HRX.out]
        unfold fromA
        rw [hml, if_pos q]
        rfl
      have PJ2 := HP2.out
      obtain ⟨A, C, hv⟩ := HEV.out.shape
      rw [← hL] at hv
      subst hv
      by_cases q0 : d.n < 0
      · clear q
        have HNO := noS_any w.heap.size 3 (c.d : Int) (c.s : Int) (c.b : Int) (s.segs : Int) s.u Ad nd Cd At nt Ct As ns Cs Aa na Ca _ (PJ2).st
        have HPJ : Hid (PJ w w2 (stL c (.slice Ad nd Cd) (s.segs : Int) (.slice At nt Ct) (.slice As ns Cs) s.u (.slice Aa na Ca)) (doL 3 d (.slice Ae ne Ce) t)) := PJ2
        have HRE : Hid (r = (s, ⟨3, 0, [], 0, []⟩)) := by
          rw [← HRR.out]
          exact HRX.out
        clear PJ2 HP2 HEV hL hml
        go_wp2_with fail
        refine HNO.mono ?_
        rintro e wn ⟨rfl, bn⟩
        have PJn := HPJ.out.below bn
        obtain ⟨x0, x1, x2, x3, x4, x5, x6, x7, x8, p0, p1, p2, p3, p4, p5, p6, p7, p8, y0, y1, y2, y3, y4, q0, q1, q2, q3, q4⟩ := PJn.res
        have HBN := PJn.bel
        clear HNO HPJ PJn bn
        go_wp2_with fail
        refine bodyPost_ret (v := .tuple #[stA (c.d : Int) (c.s : Int) (c.b : Int) (.slice Ad nd Cd) (s.segs : Int) (.slice At nt Ct) (.slice As ns Cs) s.u (.slice Aa na Ca), .agg #[.int .i64 (3 : Nat), .int .i64 0, .slice none 0 0, .int .i64 0, .slice none 0 0]]) (by simp [results, Tryz.results11, go_sem, x0, x1, x2, x3, x4, x5, x6, x7, x8, y0, y1, y2, y3, y4]) rfl ?_
        rw [HRE.out]
        exact HJ.out.no (noB HBN (by omega) (by omega) _ _ _ _ _ _ _ _ _ _ _ _ _ _) 3 0
      · have q1 : (L : Int) < d.n := by omega
        clear q
        have HNO := noS_any w.heap.size 3 (c.d : Int) (c.s : Int) (c.b : Int) (s.segs : Int) s.u Ad nd Cd At nt Ct As ns Cs Aa na Ca _ (PJ2).st
        have HPJ : Hid (PJ w w2 (stL c (.slice Ad nd Cd) (s.segs : Int) (.slice At nt Ct) (.slice As ns Cs) s.u (.slice Aa na Ca)) (doL 3 d (.slice Ae ne Ce) t)) := PJ2
        have HRE : Hid (r = (s, ⟨3, 0, [], 0, []⟩)) := by
          rw [← HRR.out]
          exact HRX.out
        clear PJ2 HP2 HEV hL hml
        go_wp2_with fail
        refine HNO.mono ?_
        rintro e wn ⟨rfl, bn⟩
        have PJn := HPJ.out.below bn
        obtain ⟨x0, x1, x2, x3, x4, x5, x6, x7, x8, p0, p1, p2, p3, p4, p5, p6, p7, p8, y0, y1, y2, y3, y4, q0, q1, q2, q3, q4⟩ := PJn.res
        have HBN := PJn.bel
        clear HNO HPJ PJn bn
        go_wp2_with fail
        refine bodyPost_ret (v := .tuple #[stA (c.d : Int) (c.s : Int) (c.b : Int) (.slice Ad nd Cd) (s.segs : Int) (.slice At nt Ct) (.slice As ns Cs) s.u (.slice Aa na Ca), .agg #[.int .i64 (3 : Nat), .int .i64 0, .slice none 0 0, .int .i64 0, .slice none 0 0]]) (by simp [results, Tryz.results11, go_sem, x0, x1, x2, x3, x4, x5, x6, x7, x8, y0, y1, y2, y3, y4]) rfl ?_
        rw [HRE.out]
        exact HJ.out.no (noB HBN (by omega) (by omega) _ _ _ _ _ _ _ _ _ _ _ _ _ _) 3 0
    case neg =>
      obtain ⟨m, hm⟩ : ∃ m : Nat, d.n = (m : Int) := ⟨d.n.toNat, by omega⟩
      have hmL : m ≤ L := by omega
      have HR4 : Hid (r = (s, ⟨0, (L : Int), l.drop m, 0, []⟩)) := by
        show r = _
        rw [← HRR.out, HRX.out]
        unfold fromA
        rw [hml, if_neg q, hm, Int.toNat_natCast]
      rw [hm] at d1
      have q1 : ¬ (m : Int) < 0 := by omega
      have q2 : ¬ (L : Int) < (m : Int) := by omega
      rcases HEV.out.1.2 with ⟨rfl, h0⟩ | ⟨g, cap, cur, hv, hNg, _, hc, hmx, _⟩
      · obtain rfl : L = 0 := by omega
        obtain rfl : m = 0 := by omega
        have he : l.drop 0 = [] := List.eq_nil_of_length_eq_zero (by rw [List.drop_zero]; exact hml)
        rw [he] at HR4
        clear q q1 q2 hL h0 hmL hm HEV hml
        have PJ2 := HP2.out
        have HFZ : Hid (∀ wE, Off (fun q => q = w.heap.size + 1 + 1 ∨ q = w.heap.size + 1 + 1 + 1) w2 wE → StepO (.returned (.tuple #[stA (c.d : Int) (c.s : Int) (c.b : Int) (.slice Ad nd Cd) (s.segs : Int) (.slice At nt Ct) (.slice As ns Cs) s.u (.slice Aa na Ca), .agg #[.int .i64 0, .int .i64 0, .slice none 0 0, .int .i64 0, .slice none 0 0]])) T w wE c r) := fun wE ho => by
          rw [HR4.out]
          exact HJ.out.same (a := ⟨0, 0, [], 0, []⟩) (PJ2.bel.trans (ho.below PJ2.bel.size fun q z => by omega)) (evs_none8 _) (Accs.nil _)
        obtain ⟨a0, a1, a2, a3, a4, a5, a6, a7, a8⟩ := PJ2.st.c9
        obtain ⟨x0, x1, x2, x3, x4, x5, x6, x7, x8, p0, p1, p2, p3, p4, p5, p6, p7, p8, y0, y1, y2, y3, y4, q0, q1, q2, q3, q4⟩ := PJ2.res
        clear he HP2 PJ2 HR4 HRR HRX
        go_upto_region 17 with fail
        go_region
        go_wp2_with fail
        refine bodyPost_ret (v := .tuple #[stA (c.d : Int) (c.s : Int) (c.b : Int) (.slice Ad nd Cd) (s.segs : Int) (.slice At nt Ct) (.slice As ns Cs) s.u (.slice Aa na Ca), .agg #[.int .i64 0, .int .i64 0, .slice none 0 0, .int .i64 0, .slice none 0 0]]) (by simp [results, Tryz.results11, go_sem, x0, x1, x2, x3, x4, x5, x6, x7, x8, y0, y1, y2, y3, y4]) rfl ?_
        exact HFZ.out _ (off14 _ _ _ _ _ _ _ _ _ _ _ _ _ _ _ _ _)
      · subst hv
        have hm' : cap ≤ 9223372036854775807 := by unfold maxLen at hmx; exact hmx
        rw [← hL] at HEV hc
        have HEB : Hid (∀ wE, Off (fun q => q = w.heap.size + 1 + 1 ∨ q = w.heap.size + 1 + 1 + 1) w2 wE → Evs (blank T wE) (.slice (some ⟨g, m * 3, none⟩) (L - m) (cap - m)) (l.drop m)) := fun wE ho => by
          have h9 := HEV.out.blankT ho HN1.out HT1.out
          rw [hL] at h9 ⊢
          rw [← HEM.out]
          exact h9.rest (by omega)
        have hcm : m ≤ cap := by omega
        have hmL' : (m : Int) ≤ (L : Int) := by omega
        have hcm' : (m : Int) ≤ (cap : Int) := by omega
        have hcL : (L : Int) ≤ (cap : Int) := by omega
        rw [← hL]
        by_cases hcc : cap = m
        · obtain rfl : L = m := by omega
          subst hcc
          have he : l.drop cap = [] := List.eq_nil_of_length_eq_zero (by rw [List.length_drop, hml, Nat.sub_self])
          rw [he] at HR4
          clear q hL hm HEV HEB hml hle
          have PJ2 := HP2.out
          have HFZ : Hid (∀ wE, Off (fun q => q = w.heap.size + 1 + 1 ∨ q = w.heap.size + 1 + 1 + 1) w2 wE → StepO (.returned (.tuple #[stA (c.d : Int) (c.s : Int) (c.b : Int) (.slice Ad nd Cd) (s.segs : Int) (.slice At nt Ct) (.slice As ns Cs) s.u (.slice Aa na Ca), .agg #[.int .i64 0, .int .i64 (cap : Int), .slice (some ⟨g, 0, none⟩) 0 0, .int .i64 0, .slice none 0 0]])) T w wE c r) := fun wE ho => by
            rw [HR4.out]
            exact HJ.out.same (a := ⟨0, (cap : Int), [], 0, []⟩) (PJ2.bel.trans (ho.below PJ2.bel.size fun q z => by omega)) (evs_empty _ _ _ (Nat.zero_le _)) (Accs.nil _)
          obtain ⟨a0, a1, a2, a3, a4, a5, a6, a7, a8⟩ := PJ2.st.c9
          obtain ⟨x0, x1, x2, x3, x4, x5, x6, x7, x8, p0, p1, p2, p3, p4, p5, p6, p7, p8, y0, y1, y2, y3, y4, q0, q1, q2, q3, q4⟩ := PJ2.res
          clear he HP2 PJ2 HR4 HRR HRX
          go_upto_region 17 with fail
          go_region
          go_wp2_with fail
          refine bodyPost_ret (v := .tuple #[stA (c.d : Int) (c.s : Int) (c.b : Int) (.slice Ad nd Cd) (s.segs : Int) (.slice At nt Ct) (.slice As ns Cs) s.u (.slice Aa na Ca), .agg #[.int .i64 0, .int .i64 (cap : Int), .slice (some ⟨g, 0, none⟩) 0 0, .int .i64 0, .slice none 0 0]]) (by simp [results, Tryz.results11, go_sem, x0, x1, x2, x3, x4, x5, x6, x7, x8, y0, y1, y2, y3, y4]) rfl ?_
          exact HFZ.out _ (off14 _ _ _ _ _ _ _ _ _ _ _ _ _ _ _ _ _)
        · clear q hL hm HEV hml hle
          have PJ2 := HP2.out
          have HFZ : Hid (∀ wE, Off (fun q => q = w.heap.size + 1 + 1 ∨ q = w.heap.size + 1 + 1 + 1) w2 wE → StepO (.returned (.tuple #[stA (c.d : Int) (c.s : Int) (c.b : Int) (.slice Ad nd Cd) (s.segs : Int) (.slice At nt Ct) (.slice As ns Cs) s.u (.slice Aa na Ca), .agg #[.int .i64 0, .int .i64 (L : Int), .slice (some ⟨g, m * 3, none⟩) (L - m) (cap - m), .int .i64 0, .slice none 0 0]])) T w wE c r) := fun wE ho => by
            rw [HR4.out]
            exact HJ.out.same (a := ⟨0, (L : Int), l.drop m, 0, []⟩) (PJ2.bel.trans (ho.below PJ2.bel.size fun q z => by omega)) (HEB.out wE ho) (Accs.nil _)
          obtain ⟨a0, a1, a2, a3, a4, a5, a6, a7, a8⟩ := PJ2.st.c9
          obtain ⟨x0, x1, x2, x3, x4, x5, x6, x7, x8, p0, p1, p2, p3, p4, p5, p6, p7, p8, y0, y1, y2, y3, y4, q0, q1, q2, q3, q4⟩ := PJ2.res
          clear  HP2 PJ2 HR4 HRR HRX
          go_upto_region 17 with fail
          go_region
          go_wp2_with fail
          refine bodyPost_ret (v := .tuple #[stA (c.d : Int) (c.s : Int) (c.b : Int) (.slice Ad nd Cd) (s.segs : Int) (.slice At nt Ct) (.slice As ns Cs) s.u (.slice Aa na Ca), .agg #[.int .i64 0, .int .i64 (L : Int), .slice (some ⟨g, m * 3, none⟩) (L - m) (cap - m), .int .i64 0, .slice none 0 0]]) (by simp [results, Tryz.results11, go_sem, x0, x1, x2, x3, x4, x5, x6, x7, x8, y0, y1, y2, y3, y4]) rfl ?_
          exact HFZ.out _ (off14 _ _ _ _ _ _ _ _ _ _ _ _ _ _ _ _ _)
end

end Go.Proofs.YtmcaejooaaahdaaGreat

namespace Go.Proofs.YtmcaejooaaahdaaGreat
open Go.RowKit

section
variable {X : Sto.Six} {c : Sto.Cfg} {s : Sto.St} {d : Sto.Do} {T : Nat → Bool} {w : World} {Ad At As Aa Ae : Option Addr} {nd Cd nt Ct ns Cs na Ca ne Ce : Nat} {t : ByteArray}
theorem own_nextJ {es : List Evt.Ev} {k : Nat} {e : Evt.Ev} (h : es[k]? = some e) (p : Evt.Ev → Bool) : (es.take (k + 1)).filter p = (es.take k).filter p ++ (if p e = true then [e] else []) := by
  obtain ⟨hk, rfl⟩ := List.getElem?_eq_some_iff.1 h
  rw [List.take_succ_eq_append_getElem hk, List.filter_append]
  congr 1
  by_cases q : p es[k] = true
  · rw [if_pos q]
    simp [q]
  · rw [if_neg q]
    simp [q]
theorem ev_oneJ (es : List EvC) : ∀ u ∈ es.flatMap evCells, u.oneCell' = true := fun u hu => by
  obtain ⟨x, _, hx⟩ := List.mem_flatMap.1 hu
  simp only [evCells, List.mem_cons, List.not_mem_nil, or_false] at hx
  rcases hx with rfl | rfl | rfl <;> rfl
/-- An event is appended to events of the call's own. -/
theorem app_evJ (w : World) (N : Nat) (v : Value) (es : List EvC) (x : EvC) (h0 : EBuf w N v es) (hN : N ≤ w.heap.size) (hz : x.1.size ≤ 9223372036854775807) (hsz : es.length ≤ 200000) :
    ∃ v' w', (Builtin.append_ #[40, 40] 40 #[v, .slice (some ⟨w.heap.size, 0, none⟩) 1 1]).run Tryz.prog (w.alloc (.cells #[.string x.1, .int .i64 x.2.1, .int .i64 x.2.2] 83)) = .ok v' w' ∧ EBuf w' N v' (es ++ [x]) ∧ Below N w w' := by
  obtain ⟨i3, hi3, hh3⟩ := Option.map_eq_some_iff.1 Tryz.infoEvent
  simp only [Prod.mk.injEq] at hh3
  obtain ⟨hy0, hy1, hy2⟩ := hh3
  have bA : Below w.heap.size w (w.alloc (.cells #[.string x.1, .int .i64 x.2.1, .int .i64 x.2.2] 83)) := (Below.refl _ _).alloc (Nat.le_refl _) _
  have h1 := h0.below bA
  obtain ⟨v', w', hrun, ho, hg, _⟩ := run_append_own (P := Tryz.prog) (w.alloc (.cells #[.string x.1, .int .i64 x.2.1, .int .i64 x.2.2] 83)) N 40 40 83 i3 _ 3 32 Tryz.underlying40 hi3 hy0 hy1 hy2 rfl (by decide) v es.length _ h1.1 ⟨w.heap.size, 0, none⟩ 1 1 ([x].flatMap evCells) rfl (cells_new w _ 83) (ev_oneJ [x]) (by unfold maxLen; omega) (by omega) (Nat.le_trans hN bA.size)
  refine ⟨v', w', hrun, ⟨?_, fun e he => ?_⟩, (bA.mono hN).trans ((Below.refl N _).grown hg (Nat.le_trans hN bA.size) (fun y hy => (h1.1.lt y hy).1))⟩
  · rw [List.length_append, List.flatMap_append]
    exact ho
  · rcases List.mem_append.1 he with q | q
    · exact h0.2 e q
    · rw [List.mem_singleton.1 q]
      exact hz
set_option maxHeartbeats 2000000 in
set_option maxRecDepth 100000 in
theorem refStep_read (H : SJ X c s d T w Ad nd Cd At nt Ct As ns Cs Aa na Ca Ae ne Ce t) (hk : d.kind = 2) :
    Calls Tryz.prog 11 #[.agg #[.int .i64 (c.d : Int), .int .i64 (c.s : Int), .int .i64 (c.b : Int), .slice Ad nd Cd, .int .i64 (s.segs : Int), .slice At nt Ct, .slice As ns Cs, .int .i64 s.u, .slice Aa na Ca], .agg #[.int .i64 2, .int .i64 d.n, .int .i64 d.seg, .int .i64 d.pos, .int .u8 (d.turn : Int), .int .i64 d.bat.cmd, .slice Ae ne Ce, .string t, .int .i64 d.ver]] w fun e w' => StepO e T w w' c (Sto.step X c s d) := by
  have HJ : Hid (SJ X c s d T w Ad nd Cd At nt Ct As ns Cs Aa na Ca Ae ne Ce t) := H
  obtain ⟨r, hr⟩ : ∃ r, r = Sto.step X c s d := ⟨_, rfl⟩
  have HRR : Hid (Sto.step X c s d = r) := hr.symm
  rw [← hr]
  obtain ⟨w1, hw1, PJ0⟩ := pj_ex w #[.int .i64 (c.d : Int), .int .i64 (c.s : Int), .int .i64 (c.b : Int), .slice Ad nd Cd, .int .i64 (s.segs : Int), .slice At nt Ct, .slice As ns Cs, .int .i64 s.u, .slice Aa na Ca] #[.int .i64 2, .int .i64 d.n, .int .i64 d.seg, .int .i64 d.pos, .int .u8 (d.turn : Int), .int .i64 d.bat.cmd, .slice Ae ne Ce, .string t, .int .i64 d.ver]
  have eg := Tryz.enters_noS
  clear H hr
  go_enter Tryz.func11, Tryz.ntmps11
  go_upto_region 1 with fail
  rw [← hw1]
  clear hw1
  have HP1 : Hid (PJ w w1 (stL c (.slice Ad nd Cd) (s.segs : Int) (.slice At nt Ct) (.slice As ns Cs) s.u (.slice Aa na Ca)) (doL 2 d (.slice Ae ne Ce) t)) := PJ0
  have d0 := PJ0.dc.cell (i := 0) rfl
  clear PJ0
  have HAL := refAll_any HJ.out.x c s (.slice Ad nd Cd) (.slice At nt Ct) (.slice As ns Cs) (.slice Aa na Ca) w1 (HJ.out.st.sub (CSub.of_below HP1.out.bel)) HJ.out.wf
  obtain ⟨x, l, hxl⟩ : ∃ x l, Sto.all X c s = (x, l) := ⟨_, _, rfl⟩
  have HST : Hid (Sto.step X c s d = (s, askA (x, l) (ofA l d.name))) := by
    show Sto.step X c s d = _
    rw [step_read hk, hxl]
  rw [hxl] at HAL
  obtain ⟨a0, a1, a2, a3, a4, a5, a6, a7, a8⟩ := HP1.out.st.c9
  clear hxl
  go_wp2_with fail
  refine HAL.mono ?_
  rintro e w2 ⟨hA, b2⟩
  obtain ⟨v, es, he, hes, hB, hle⟩ : ∃ (v : Value) (es : List EvC), e = Ending.returned (.tuple #[v, .int .i64 (x : Nat)]) ∧ es.map evOf = l ∧ EBuf w2 w1.heap.size v es ∧ es.length ≤ 200000 := hA
  subst he
  have HP2 : Hid (PJ w w2 (stL c (.slice Ad nd Cd) (s.segs : Int) (.slice At nt Ct) (.slice As ns Cs) s.u (.slice Aa na Ca)) (doL 2 d (.slice Ae ne Ce) t)) := HP1.out.below b2
  have HN1 : Hid (w.heap.size + 1 + 1 + 1 < w1.heap.size) := HP1.out.size
  have HT1 : Hid (∀ k, T k = true → k < w1.heap.size) := fun k z => by
    have := HJ.out.low k z
    have := HN1.out
    omega
  have HEV : Hid (EBuf w2 w1.heap.size v es) := hB
  have HEM : Hid (es.map evOf = l) := hes
  have h12 : w1.heap.size ≤ w2.heap.size := b2.size
  clear HAL a0 a1 a2 a3 a4 a5 a6 a7 a8 hB hes HP1 d0 b2
  by_cases hx : x = 0
  case neg =>
    have hx' : ((x : Int) == 0) = false := by rw [beq_eq_false_iff_ne]; omega
    have hxn : ((x : Int) != 0) = true := by rw [bne, hx']; rfl
    have HRX : Hid (Sto.step X c s d = (s, ⟨x, 0, [], 0, []⟩)) := by
      show Sto.step X c s d = _
      rw [HST.out]
      unfold askA
      rw [if_pos hx]
      rfl
    have PJ2 := HP2.out
    obtain ⟨A, C, hv⟩ := HEV.out.shape
    subst hv
    have HNO := noS_any w.heap.size x (c.d : Int) (c.s : Int) (c.b : Int) (s.segs : Int) s.u Ad nd Cd At nt Ct As ns Cs Aa na Ca _ (PJ2).st
    have HPJ : Hid (PJ w w2 (stL c (.slice Ad nd Cd) (s.segs : Int) (.slice At nt Ct) (.slice As ns Cs) s.u (.slice Aa na Ca)) (doL 2 d (.slice Ae ne Ce) t)) := PJ2
    have HRE : Hid (r = (s, ⟨x, 0, [], 0, []⟩)) := by
      rw [← HRR.out]
      exact HRX.out
    clear PJ2 HP2 hk hx HEV HST
    go_wp2_with fail
    refine HNO.mono ?_
    rintro e wn ⟨rfl, bn⟩
    have PJn := HPJ.out.below bn
    obtain ⟨x0, x1, x2, x3, x4, x5, x6, x7, x8, p0, p1, p2, p3, p4, p5, p6, p7, p8, y0, y1, y2, y3, y4, q0, q1, q2, q3, q4⟩ := PJn.res
    have HBN := PJn.bel
    clear HNO HPJ PJn bn
    go_wp2_with fail
    refine bodyPost_ret (v := .tuple #[stA (c.d : Int) (c.s : Int) (c.b : Int) (.slice Ad nd Cd) (s.segs : Int) (.slice At nt Ct) (.slice As ns Cs) s.u (.slice Aa na Ca), .agg #[.int .i64 (x : Nat), .int .i64 0, .slice none 0 0, .int .i64 0, .slice none 0 0]]) (by simp [results, Tryz.results11, go_sem, x0, x1, x2, x3, x4, x5, x6, x7, x8, y0, y1, y2, y3, y4]) rfl ?_
    rw [HRE.out]
    exact HJ.out.no (noB HBN (by omega) (by omega) _ _ _ _ _ _ _ _ _ _ _ _ _ _) x 0
  case pos =>
    have hx' : ((x : Int) == 0) = true := by rw [hx]; rfl
    have hxn : ((x : Int) != 0) = false := by rw [bne, hx']; rfl
    have HRX : Hid (Sto.step X c s d = (s, ofA l d.name)) := by
      show Sto.step X c s d = _
      rw [HST.out]
      unfold askA
      rw [if_neg (fun z => z hx)]
    clear HST hx hk
    obtain ⟨A, C, hv, hC1, hC2, hE0⟩ := HEV.out.evs
    rw [HEM.out] at hv hC1 hE0
    have HE0 : Hid (∀ i e, l[i]? = some e → ∃ b o, A = some ⟨b, o, none⟩ ∧ EvIn w2 b (o + i * 3) e) := hE0
    have hC2' : C ≤ 9223372036854775807 := by unfold maxLen at hC2; exact hC2
    subst hv
    have hll : l.length ≤ 200000 := by rw [← HEM.out, List.length_map]; exact hle
    have d0 := HP2.out.dc.cell (i := 0) rfl
    have d7 := HP2.out.dc.cell (i := 7) rfl
    have hnm : nb t = d.name := HJ.out.do0.name
    have hsz := HJ.out.do0.sz
    have hHN := refNamed_any t w2 hsz
    by_cases q : ¬ Evt.named d.name
    case pos =>
      have HNM : Calls Tryz.prog 35 #[.string t] w2 fun e w3 => e = .returned (.bool false) ∧ Below w2.heap.size w2 w3 := hHN.mono fun e w3 z => ⟨by
        obtain ⟨y, rfl, hy⟩ := z.1
        have : y = false := by
          cases y
          · rfl
          · rw [hnm] at hy
            exact absurd (hy.1 rfl) q
        rw [this], z.2⟩
      have HRX : Hid (Sto.step X c s d = (s, ⟨7, 0, [], 0, []⟩)) := by
        show Sto.step X c s d = _
        rw [HRX.out]
        unfold ofA
        rw [if_pos q]
        rfl
      clear hHN q hE0 HE0 hC2 hnm
      go_wp2_with fail
      refine HNM.mono ?_
      rintro e w3 ⟨rfl, b3⟩
      have PJ3 := HP2.out.below b3
      have HNO := noS_any w.heap.size 7 (c.d : Int) (c.s : Int) (c.b : Int) (s.segs : Int) s.u Ad nd Cd At nt Ct As ns Cs Aa na Ca _ (PJ3).st
      have HPJ : Hid (PJ w w3 (stL c (.slice Ad nd Cd) (s.segs : Int) (.slice At nt Ct) (.slice As ns Cs) s.u (.slice Aa na Ca)) (doL 2 d (.slice Ae ne Ce) t)) := PJ3
      have HRE : Hid (r = (s, ⟨7, 0, [], 0, []⟩)) := by
        rw [← HRR.out]
        exact HRX.out
      clear PJ3 HP2 HEV HNM d0 d7
      go_wp2_with fail
      refine HNO.mono ?_
      rintro e wn ⟨rfl, bn⟩
      have PJn := HPJ.out.below bn
      obtain ⟨x0, x1, x2, x3, x4, x5, x6, x7, x8, p0, p1, p2, p3, p4, p5, p6, p7, p8, y0, y1, y2, y3, y4, q0, q1, q2, q3, q4⟩ := PJn.res
      have HBN := PJn.bel
      clear HNO HPJ PJn bn
      go_wp2_with fail
      refine bodyPost_ret (v := .tuple #[stA (c.d : Int) (c.s : Int) (c.b : Int) (.slice Ad nd Cd) (s.segs : Int) (.slice At nt Ct) (.slice As ns Cs) s.u (.slice Aa na Ca), .agg #[.int .i64 (7 : Nat), .int .i64 0, .slice none 0 0, .int .i64 0, .slice none 0 0]]) (by simp [results, Tryz.results11, go_sem, x0, x1, x2, x3, x4, x5, x6, x7, x8, y0, y1, y2, y3, y4]) rfl ?_
      rw [HRE.out]
      exact HJ.out.no (noB HBN (by omega) (by omega) _ _ _ _ _ _ _ _ _ _ _ _ _ _) 7 0
    case neg =>
      have q := Decidable.not_not.1 q
      have HNM : Calls Tryz.prog 35 #[.string t] w2 fun e w3 => e = .returned (.bool true) ∧ Below w2.heap.size w2 w3 := hHN.mono fun e w3 z => ⟨by
        obtain ⟨y, rfl, hy⟩ := z.1
        rw [hnm] at hy
        rw [hy.2 q], z.2⟩
      have HRX : Hid (Sto.step X c s d = (s, ⟨0, ((l.filter fun e => decide (e.name = nb t)).length : Nat), l.filter fun e => decide (e.name = nb t), 0, []⟩)) := by
        show Sto.step X c s d = _
        rw [HRX.out]
        unfold ofA
        rw [if_neg (fun z => z q), hnm]
      clear hHN q hE0 hC2 hnm
      go_wp2_with fail
      refine HNM.mono ?_
      rintro e w3 ⟨rfl, b3⟩
      have h23 : w2.heap.size ≤ w3.heap.size := b3.size
      have HP3 : Hid (PJ w w3 (stL c (.slice Ad nd Cd) (s.segs : Int) (.slice At nt Ct) (.slice As ns Cs) s.u (.slice Aa na Ca)) (doL 2 d (.slice Ae ne Ce) t)) := HP2.out.below b3
      have HBB : Hid (∀ wr, Below w3.heap.size w3 wr → Below w2.heap.size w2 wr) := fun wr z => bt b3 z
      clear HNM d0 d7 HP2
      go_wp2_with fail
      go_loopw [11, 104] (fun yv x wr => ∃ (k : Nat) (os : List EvC), k ≤ l.length ∧ x = .int .i64 k ∧ EBuf wr w3.heap.size yv os ∧ Hid (os.map evOf = (l.take k).filter fun e => decide (e.name = nb t)) ∧ Below w3.heap.size w3 wr) (fun _ x _ => l.length - (intOf x).toNat)
      case atStart => exact ⟨0, [], Nat.zero_le _, rfl, EBuf.nil w3 _, rfl, Below.refl _ _⟩
      case round =>
        obtain ⟨k, os, hk, rfl, BO, HO, hbr⟩ := hrel
        have hos : os.length ≤ 200000 := by
          have h1 := congrArg List.length HO.out
          have h2 := List.length_filter_le (fun e : Evt.Ev => decide (e.name = nb t)) (l.take k)
          rw [List.length_map] at h1
          rw [List.length_take] at h2
          omega
        by_cases hlt : k < l.length
        · have hlt' : (k : Int) < (l.length : Int) := by omega
          obtain ⟨ev, hev⟩ : ∃ ev, l[k]? = some ev := ⟨l[k], List.getElem?_eq_getElem hlt⟩
          obtain ⟨b, o, rfl, hin⟩ := HE0.out k ev hev
          obtain ⟨s1, hs1, hs2, e0, e1, e2⟩ := hin.below (HBB.out _ hbr)
          have HNX := own_nextJ hev (fun e : Evt.Ev => decide (e.name = nb t))
          have HEE : Hid (evOf (s1, ev.kind, ev.num) = ev) := by
            show (⟨nb s1, ev.kind, ev.num⟩ : Evt.Ev) = ev
            rw [hs2]
          have HSE : Hid ((s1.toList == t.toList) = decide (ev.name = nb t)) := by
            show _ = _
            rw [same_nb, hs2]
          have bA : Below wr.heap.size wr (wr.alloc (.cells #[.string s1, .int .i64 ev.kind, .int .i64 ev.num] 83)) := (Below.refl _ _).alloc (Nat.le_refl _) _
          have BO := BO.below bA
          have d7 := ((HP3.out.below hbr).below bA).dc.cell (i := 7) rfl
          have hbr := bt hbr bA
          have VE := varE_new wr (.string s1) (.int .i64 ev.kind) (.int .i64 ev.num)
          obtain ⟨g0, g1, g2⟩ := VE
          clear hev hs2 hin
          by_cases hq : ev.name = nb t
          · have HNX : Hid ((l.take (k + 1)).filter (fun e : Evt.Ev => decide (e.name = nb t)) = (l.take k).filter (fun e : Evt.Ev => decide (e.name = nb t)) ++ [ev]) := by
              show _ = _
              rw [HNX, if_pos (by simpa using hq)]
            have hse : (s1.toList == t.toList) = true := by
              rw [HSE.out]
              simpa using hq
            obtain ⟨v', w', hrun, B', b'⟩ := app_evJ _ w3.heap.size _ os (s1, ev.kind, ev.num) BO hbr.size hs1 (by omega)
            have HB' : Hid (EBuf w' w3.heap.size v' (os ++ [(s1, ev.kind, ev.num)]) ∧ Below w3.heap.size w3 w') := ⟨B', hbr.trans b'⟩
            have HM : Hid ((os ++ [(s1, ev.kind, ev.num)]).map evOf = (l.take (k + 1)).filter (fun e : Evt.Ev => decide (e.name = nb t))) := by
              show _ = _
              rw [List.map_append, HO.out, HNX.out]
              show _ ++ [evOf (s1, ev.kind, ev.num)] = _
              rw [HEE.out]
            rw [show (wr.alloc (.cells #[.string s1, .int .i64 ev.kind, .int .i64 ev.num] 83)).heap.size = wr.heap.size + 1 by simp] at hrun
            clear hq B' b' BO
            go_wp2_with (at_builtin; refine Lib.wpList_append_run _ rfl _ _ _ _ rfl _ _ rfl rfl _ _ hrun ?_)
            exact ⟨⟨k + 1, _, by omega, by go_num, HB'.out.1, HM.out, HB'.out.2⟩, by simp [intOf]; omega⟩
          · have HNX : Hid ((l.take (k + 1)).filter (fun e : Evt.Ev => decide (e.name = nb t)) = (l.take k).filter (fun e : Evt.Ev => decide (e.name = nb t))) := by
              show _ = _
              rw [HNX, if_neg (by simpa using hq), List.append_nil]
            have hse : (s1.toList == t.toList) = false := by
              rw [HSE.out]
              simpa using hq
            have HM : Hid (os.map evOf = (l.take (k + 1)).filter (fun e : Evt.Ev => decide (e.name = nb t))) := by
              show _ = _
              rw [HO.out, HNX.out]
            clear hq
            go_wp2_with fail
            exact ⟨⟨k + 1, os, by omega, by go_num, BO, HM.out, hbr⟩, by simp [intOf]; omega⟩
        · obtain rfl : k = l.length := by omega
          rw [List.take_length] at HO
          have PJ4 := HP3.out.below hbr
          have HBO : Hid (EBuf wr w3.heap.size _ os) := BO
          obtain ⟨A4, C4, h4⟩ := BO.shape
          subst h4
          have HR4 : Hid (r = (s, ⟨0, (os.length : Int), os.map evOf, 0, []⟩)) := by
            show r = _
            rw [← HRR.out, HRX.out, ← HO.out, List.length_map]
          have HFZ : Hid (∀ wE, Off (fun q => q = w.heap.size + 1 + 1 ∨ q = w.heap.size + 1 + 1 + 1) wr wE → StepO (.returned (.tuple #[stA (c.d : Int) (c.s : Int) (c.b : Int) (.slice Ad nd Cd) (s.segs : Int) (.slice At nt Ct) (.slice As ns Cs) s.u (.slice Aa na Ca), .agg #[.int .i64 0, .int .i64 (os.length : Int), .slice A4 os.length C4, .int .i64 0, .slice none 0 0]])) T w wE c r) := fun wE ho => by
            rw [HR4.out]
            refine HJ.out.same (a := ⟨0, (os.length : Int), os.map evOf, 0, []⟩) (PJ4.bel.trans (ho.below PJ4.bel.size fun q z => by omega)) ?_ (Accs.nil _)
            exact (HBO.out.blankT ho (by have := HN1.out; omega) (fun k z => by have := HT1.out k z; omega)).evs
          obtain ⟨a0, a1, a2, a3, a4, a5, a6, a7, a8⟩ := PJ4.st.c9
          obtain ⟨x0, x1, x2, x3, x4, x5, x6, x7, x8, p0, p1, p2, p3, p4, p5, p6, p7, p8, y0, y1, y2, y3, y4, q0, q1, q2, q3, q4⟩ := PJ4.res
          clear BO HBO PJ4 HR4 HRX HRR HO hbr HP3 HBB HE0 HEV HEM
          go_wp2_with fail
          refine bodyPost_ret (v := .tuple #[stA (c.d : Int) (c.s : Int) (c.b : Int) (.slice Ad nd Cd) (s.segs : Int) (.slice At nt Ct) (.slice As ns Cs) s.u (.slice Aa na Ca), .agg #[.int .i64 0, .int .i64 (os.length : Int), .slice A4 os.length C4, .int .i64 0, .slice none 0 0]]) (by simp [results, Tryz.results11, go_sem, x0, x1, x2, x3, x4, x5, x6, x7, x8, y0, y1, y2, y3, y4]) rfl ?_
          exact HFZ.out _ (off14n _ _ _ _ _ _ _ _ _ _ _ _ _ _ _ _ _)
end

end Go.Proofs.YtmcaejooaaahdaaGreat
