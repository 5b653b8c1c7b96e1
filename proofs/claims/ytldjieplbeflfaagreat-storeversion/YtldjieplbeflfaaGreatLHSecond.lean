/-
  StoreVersion, where two say how many events a stream has.
-/
import Derived.Test.YtldjieplbeflfaaGreatZ53
import Derived.Test.YtldjieplbeflfaaGreatZ51
import Derived.Test.YtldjieplbeflfaaGreatZ52
import Derived.Deep.CutRange
namespace Go.Proofs.YtldjieplbeflfaaGreat
open Go.RowKit
set_option linter.unusedVariables false

/-- The second one is told so. -/
theorem second8 {X : Sto.Six} {c : Sto.Cfg} {l : List Sto.Do} {d e : Sto.Do} {ev : Evt.Ev} {r2 : Sto.St × List Sto.Ans} (hr2 : r2 = Sto.steps X c (Sto.start c) (l ++ [d, e])) (kd : d.kind = 1) (ke : e.kind = 1) (hc : d.bat.cmd ∉ (Sto.steps X c (Sto.start c) l).1.seen) (hd : d.bat.evs = [ev]) (hn : ev.name = d.name)
    (he : e.bat.evs = [ev]) (hen : e.name = d.name) (hv : d.ver = (Vw.get (Sto.steps X c (Sto.start c) l).1.acc d.name).cnt) (hev : e.ver = d.ver) (hcmd : e.bat.cmd = d.bat.cmd + 1) (hlt : d.bat.cmd < 1000000) (hc2 : d.bat.cmd + 1 ∉ (Sto.steps X c (Sto.start c) l).1.seen) :
    ∃ a1 a2, r2.2[l.length]? = some a1 ∧ r2.2[l.length + 1]? = some a2 ∧ (a1.err ≠ 0 ∨ a2.err = 11) := by
  have hl : (Sto.steps X c (Sto.start c) l).2.length = l.length := Sto.steps_length X c l (Sto.start c)
  have hr := (Sto.steps_count X c l).2
  generalize hs : Sto.steps X c (Sto.start c) l = r at *
  have e2 : (Sto.steps X c r.1 [d, e]).2 = [(Sto.step X c r.1 d).2, (Sto.step X c (Sto.step X c r.1 d).1 e).2] := rfl
  have hr2' : r2.2 = r.2 ++ [(Sto.step X c r.1 d).2, (Sto.step X c (Sto.step X c r.1 d).1 e).2] := by
    rw [hr2, Sto.steps_append, hs]
    show r.2 ++ (Sto.steps X c r.1 [d, e]).2 = _
    rw [e2]
  refine ⟨_, _, by rw [hr2', List.getElem?_append_right (by omega), hl, Nat.sub_self]; rfl, by rw [hr2', List.getElem?_append_right (by omega), hl, show l.length + 1 - l.length = 1 by omega]; rfl, ?_⟩
  rw [Sto.step_put kd, Sto.step_put ke]
  by_cases q : (Sto.put X c r.1 d).2.err = 0
  · exact Or.inr (by rw [Sto.put_second hr q hc hd hn he hen hv hev hcmd hlt hc2]; rfl)
  · exact Or.inl q
set_option maxHeartbeats 8000000 in
set_option maxRecDepth 100000 in
/-- From the loop on. -/
theorem version_main (w : World) (d s b : Int) (A : Option Addr) (C : Nat) (l : List Sto.Do) (hD : Dos w (.slice A l.length C) l) (c : Sto.Cfg) (ed : d = (c.d : Int)) (es : s = (c.s : Int)) (eb : b = (c.b : Int)) (h1 : 1 ≤ c.d) (h2 : c.d ≤ 8) (h3 : c.s ≤ 4) (h4 : 1 ≤ c.b) (h5 : c.b ≤ 10) (X : Sto.Six) (hX : Sto.SixOk X) (h78 : l.length ≤ 78) (t : ByteArray) (htz : t.size ≤ 9223372036854775807) (m : Int) (hm1 : 1 ≤ m) (hm2 : m < 1000000) :
    Calls Tryz.prog 7 #[.agg #[.int .i64 d, .int .i64 s, .int .i64 b], .slice A l.length C, .string t, .int .i64 m] w fun e w' => e = .returned (.bool true) ∧ Below w.heap.size w w' := by
  have b0 : Below w.heap.size w (w.alloc (.cells #[.int .i64 d, .int .i64 s, .int .i64 b] 23)) := (Below.refl _ _).alloc (Nat.le_refl _) _
  have VS := varN_new w #[.int .i64 d, .int .i64 s, .int .i64 b] 23
  have HA := alive_any (w.alloc (.cells #[.int .i64 d, .int .i64 s, .int .i64 b] 23))
  have HD : Hid (∀ w', Below w.heap.size w w' → Dos w' (.slice A l.length C) l) := fun w' hb => hD.below hb
  have HP : Hid (∀ w', Below w.heap.size w w' → Calls Tryz.prog 10 #[.agg #[.int .i64 d, .int .i64 s, .int .i64 b], .slice A l.length C] w' fun e w2 => PlayR e w' w2 c (Sto.steps X c (Sto.start c) l)) := fun w' hb => playR hX c d s b ed es eb h1 h2 h3 h4 h5 _ l w' (HD.out w' hb) (by omega)
  have HP2 : Hid (∀ w' v d1 d2, Dos w' v (l ++ [d1, d2]) → Calls Tryz.prog 10 #[.agg #[.int .i64 d, .int .i64 s, .int .i64 b], v] w' fun e w2 => PlayR e w' w2 c (Sto.steps X c (Sto.start c) (l ++ [d1, d2]))) := fun w' v d1 d2 hd => playR hX c d s b ed es eb h1 h2 h3 h4 h5 _ _ w' hd (by rw [List.length_append]; show l.length + 2 ≤ 80; omega)
  have HSC : Hid (∀ (d e : Sto.Do) (ev : Evt.Ev) (r2 : Sto.St × List Sto.Ans), r2 = Sto.steps X c (Sto.start c) (l ++ [d, e]) → d.kind = 1 → e.kind = 1 → d.bat.cmd ∉ (Sto.steps X c (Sto.start c) l).1.seen → d.bat.evs = [ev] → ev.name = d.name → e.bat.evs = [ev] → e.name = d.name → d.ver = (Vw.get (Sto.steps X c (Sto.start c) l).1.acc d.name).cnt → e.ver = d.ver → e.bat.cmd = d.bat.cmd + 1 → d.bat.cmd < 1000000 → d.bat.cmd + 1 ∉ (Sto.steps X c (Sto.start c) l).1.seen → ∃ a1 a2, r2.2[l.length]? = some a1 ∧ r2.2[l.length + 1]? = some a2 ∧ (a1.err ≠ 0 ∨ a2.err = 11)) := fun d e ev r2 q1 q2 q3 q4 q5 q6 q7 q8 q9 q10 q11 q12 q13 => second8 q1 q2 q3 q4 q5 q6 q7 q8 q9 q10 q11 q12 q13
  clear h1 h2 h3 h4 h5 ed es eb hX
  obtain ⟨_, _, hv0, hc1, hc2, hdo⟩ := hD
  cases hv0
  have hAn : A = none → l.length = 0 := fun e => by
    by_cases q : l.length = 0
    · exact q
    · obtain ⟨b, o, e2, _⟩ := hdo 0 l[0] (List.getElem?_eq_getElem (by omega))
      rw [e] at e2
      cases e2
  have hc2 : C ≤ 9223372036854775807 := by unfold maxLen at hc2; exact hc2
  obtain ⟨F2, hF2⟩ : ∃ F2 : Sto.Do → Sto.Do → Sto.St × List Sto.Ans, F2 = fun d1 d2 => Sto.steps X c (Sto.start c) (l ++ [d1, d2]) := ⟨_, rfl⟩
  have HP2 : Hid (∀ w' v d1 d2, Dos w' v (l ++ [d1, d2]) → Calls Tryz.prog 10 #[.agg #[.int .i64 d, .int .i64 s, .int .i64 b], v] w' fun e w2 => PlayR e w' w2 c (F2 d1 d2)) := by rw [hF2]; exact HP2
  have HSC : Hid (∀ (d e : Sto.Do) (ev : Evt.Ev), d.kind = 1 → e.kind = 1 → d.bat.cmd ∉ (Sto.steps X c (Sto.start c) l).1.seen → d.bat.evs = [ev] → ev.name = d.name → e.bat.evs = [ev] → e.name = d.name → d.ver = (Vw.get (Sto.steps X c (Sto.start c) l).1.acc d.name).cnt → e.ver = d.ver → e.bat.cmd = d.bat.cmd + 1 → d.bat.cmd < 1000000 → d.bat.cmd + 1 ∉ (Sto.steps X c (Sto.start c) l).1.seen → ∃ a1 a2, (F2 d e).2[l.length]? = some a1 ∧ (F2 d e).2[l.length + 1]? = some a2 ∧ (a1.err ≠ 0 ∨ a2.err = 11)) := by
    rw [hF2]
    exact fun d e ev => HSC.out d e ev _ rfl
  clear hF2
  generalize Sto.steps X c (Sto.start c) l = r at HP HSC
  obtain ⟨n, hn⟩ : ∃ n, n = l.length := ⟨_, rfl⟩
  have HN : Hid (n = l.length) := hn
  rw [← hn] at HP HSC hc1 h78 HD hAn ⊢
  clear hn hdo
  have hwr : IntKind.i64.wrap ((n : Int) + 2) = (n : Int) + 2 := by rw [IntKind.wrap_i64]; omega
  have hwm : IntKind.i64.wrap (m + 1) = m + 1 := by rw [IntKind.wrap_i64]; omega
  have x1 : decide ((80 : Int) < (n : Int) + 2) = false := decide_eq_false (by omega)
  have x2 : decide (m < 1) = false := decide_eq_false (by omega)
  have x3 : decide ((1000000 : Int) ≤ m) = false := decide_eq_false (by omega)
  go_enter Tryz.func7, Tryz.ntmps7
  go_wp2_with fail
  refine HA.mono ?_
  rintro e w1 ⟨rfl, b1⟩
  have HVS : Hid (VarN w1 w.heap.size 23 #[.int .i64 d, .int .i64 s, .int .i64 b].toList) := VS.below b1
  have s0 := HVS.out.cell (i := 0) rfl
  have s1 := HVS.out.cell (i := 1) rfl
  have s2 := HVS.out.cell (i := 2) rfl
  have b1 := bt b0 b1
  have HP1 := HP.out w1 b1
  clear HA HP VS b0
  go_wp2_with fail
  refine HP1.mono ?_
  rintro e w2 ⟨vd, vt, vs, va, vr, rfl, hS, hR, b2, _⟩
  have HVS2 : Hid (VarN w2 w.heap.size 23 #[.int .i64 d, .int .i64 s, .int .i64 b].toList) := HVS.out.below b2
  have b2 := bt b1 b2
  obtain ⟨Ad, nd, Cd, rfl⟩ : ∃ A n C, vd = .slice A n C := by
    obtain ⟨A, C, h, _⟩ := hS.dk
    exact ⟨A, _, C, h⟩
  obtain ⟨At, nt, Ct, rfl⟩ : ∃ A n C, vt = .slice A n C := by
    obtain ⟨A, C, h, _⟩ := hS.tl
    exact ⟨A, _, C, h⟩
  obtain ⟨As, Cs, hvs⟩ := hS.sn.shape
  obtain ⟨ns, hns⟩ : ∃ ns, ns = r.1.seen.length := ⟨_, rfl⟩
  rw [← hns] at hvs
  subst hvs
  obtain ⟨Aa, na, Ca, rfl⟩ : ∃ A n C, va = .slice A n C := by
    obtain ⟨A, C, h⟩ := hS.ac.shape
    exact ⟨A, _, C, h⟩
  obtain ⟨Ar, nr, Cr, rfl⟩ : ∃ A n C, vr = .slice A n C := by
    obtain ⟨A, C, h, _⟩ := hR
    exact ⟨A, _, C, h⟩
  have b3 : Below w2.heap.size w2 (w2.alloc (.cells #[.int .i64 (c.d : Int), .int .i64 (c.s : Int), .int .i64 (c.b : Int), .slice Ad nd Cd, .int .i64 (r.1.segs : Int), .slice At nt Ct, .slice As ns Cs, .int .i64 r.1.u, .slice Aa na Ca] 33)) := (Below.refl _ _).alloc (Nat.le_refl _) _
  have VT := varN_new w2 #[.int .i64 (c.d : Int), .int .i64 (c.s : Int), .int .i64 (c.b : Int), .slice Ad nd Cd, .int .i64 (r.1.segs : Int), .slice At nt Ct, .slice As ns Cs, .int .i64 r.1.u, .slice Aa na Ca] 33
  have HG := get_any r.1.u t (.slice Aa na Ca) r.1.acc _ (hS.below b3).ac htz
  have HNS : Hid (ns = r.1.seen.length) := hns
  clear s0 s1 s2 HP1 hR HVS b1 hns
  go_wp2_with fail
  refine HG.mono ?_
  unfold GetO AcV
  rintro e w4 ⟨⟨v4, rfl, s4, _, _, rfl⟩, b4⟩
  obtain ⟨cn, hcn⟩ : ∃ cn, cn = (Vw.get r.1.acc (nb t)).cnt := ⟨_, rfl⟩
  obtain ⟨op, hop⟩ : ∃ op, op = (Vw.get r.1.acc (nb t)).opn := ⟨_, rfl⟩
  obtain ⟨sm, hsm⟩ : ∃ sm, sm = (Vw.get r.1.acc (nb t)).sum := ⟨_, rfl⟩
  rw [← hcn, ← hop, ← hsm]
  have HCN : Hid (cn = (Vw.get r.1.acc (nb t)).cnt) := hcn
  have b24 := bt b3 b4
  have VT4 := VT.below b4
  have hVS4 := HVS2.out.below b24
  have hS4 := hS.below b24
  have bw4 := bt b2 b24
  clear HG VT hcn hop hsm hS b2 b24 b4 b3 HVS2
  have b5 : Below w4.heap.size w4 (w4.alloc (.cells #[.string s4, .int .i64 sm, .int .i64 cn, .bool op] 56)) := (Below.refl _ _).alloc (Nat.le_refl _) _
  have b6 : Below (w4.alloc (.cells #[.string s4, .int .i64 sm, .int .i64 cn, .bool op] 56)).heap.size (w4.alloc (.cells #[.string s4, .int .i64 sm, .int .i64 cn, .bool op] 56)) ((w4.alloc (.cells #[.string s4, .int .i64 sm, .int .i64 cn, .bool op] 56)).alloc (.cells #[.string t, .int .i64 1, .int .i64 0] 59)) := (Below.refl _ _).alloc (Nat.le_refl _) _
  have VX := (varN_new w4 #[.string s4, .int .i64 sm, .int .i64 cn, .bool op] 56).below b6
  have VE := vn1 w4 (.cells #[.string s4, .int .i64 sm, .int .i64 cn, .bool op] 56) #[.string t, .int .i64 1, .int .i64 0] 59
  have b46 := bt b5 b6
  go_upto_region 8 with fail
  generalize (w4.alloc (.cells #[.string s4, .int .i64 sm, .int .i64 cn, .bool op] 56)).alloc (.cells #[.string t, .int .i64 1, .int .i64 0] 59) = w6 at *
  have x3 := VX.cell (i := 3) rfl
  have HX : Hid (VarN w6 w4.heap.size 56 #[.string s4, .int .i64 sm, .int .i64 cn, .bool op].toList) := VX
  have HE : Hid (VarN w6 (w4.heap.size + 1) 59 #[.string t, .int .i64 1, .int .i64 0].toList) := VE
  have hE1 := VE.cell (i := 1) rfl
  have hEf := VE.frozen 1
  have HB46 : Hid (Below w4.heap.size w4 w6) := b46
  clear VX VE b5 b6 b46
  go_cut [52] from 51 to 52 (fun v52 wx => v52 = .bool op ∧ wx = w6)
  case first =>
    go_wp2_with fail
    go_meet
    exact ⟨rfl, rfl⟩
  obtain ⟨h52, rfl⟩ := hcut
  have H52 : Hid (u52 = .bool op) := h52
  clear h52
  go_wp2_with fail
  go_cut [] from 53 to 53 (fun wx => ∃ kd : Int, VarN wx (w4.heap.size + 1) 59 [.string t, .int .i64 kd, .int .i64 0] ∧ VarN wx w4.heap.size 56 [.string s4, .int .i64 sm, .int .i64 cn, .bool op] ∧ Below w4.heap.size w4 wx)
  case first =>
    have h52 := H52.out
    subst h52
    clear H52
    cases op with
    | true =>
      go_wp2_with fail
      go_meet
      exact ⟨2, HE.out.set 1 (.int .i64 2) (by simp), HX.out.off ((Off.refl (fun k => k = w4.heap.size + 1) _).set (p := ⟨w4.heap.size + 1, 1, none⟩) rfl _) (fun e => by omega), HB46.out.setCell (p := ⟨w4.heap.size + 1, 1, none⟩) (by show w4.heap.size ≤ w4.heap.size + 1; omega) _⟩
    | false =>
      go_wp2_with fail
      go_meet
      exact ⟨1, HE.out, HX.out, HB46.out⟩
  case rest =>
    obtain ⟨kd, VE7, VX7, b47⟩ := hcut
    obtain ⟨w7, hw7⟩ : ∃ y, y = wc := ⟨wc, rfl⟩
    rw [← hw7] at VE7 VX7 b47 ⊢
    have y0 := VE7.cell (i := 0) rfl
    have y1 := VE7.cell (i := 1) rfl
    have y2 := VE7.cell (i := 2) rfl
    have y3 := VX7.cell (i := 2) rfl
    have hl7 : w4.heap.size + 1 < w7.heap.size := World.block_lt_of_cell? _ _ y0
    clear hw7 HX HE hE1 hEf HB46 x3 VE7 VX7
    have bW7 := belA3 w7 (.cells #[.string t, .int .i64 kd, .int .i64 0] 59) (.cells #[.int .i64 1, .int .i64 0, .int .i64 0, .int .i64 0, .int .u8 0, .int .i64 m, .slice (some ⟨w7.heap.size, 0, none⟩) 1 1, .string t, .int .i64 cn] 43) (.cells #[.int .i64 1, .int .i64 0, .int .i64 0, .int .i64 0, .int .u8 0, .int .i64 (m + 1), .slice (some ⟨w7.heap.size, 0, none⟩) 1 1, .string t, .int .i64 cn] 43)
    have VG : VarN _ w7.heap.size 59 #[.string t, .int .i64 kd, .int .i64 0].toList := vn_al (vn_al (varN_new w7 #[.string t, .int .i64 kd, .int .i64 0] 59) (.cells #[.int .i64 1, .int .i64 0, .int .i64 0, .int .i64 0, .int .u8 0, .int .i64 m, .slice (some ⟨w7.heap.size, 0, none⟩) 1 1, .string t, .int .i64 cn] 43)) (.cells #[.int .i64 1, .int .i64 0, .int .i64 0, .int .i64 0, .int .u8 0, .int .i64 (m + 1), .slice (some ⟨w7.heap.size, 0, none⟩) 1 1, .string t, .int .i64 cn] 43)
    have VO : VarN _ (w7.heap.size + 1) 43 #[.int .i64 1, .int .i64 0, .int .i64 0, .int .i64 0, .int .u8 0, .int .i64 m, .slice (some ⟨w7.heap.size, 0, none⟩) 1 1, .string t, .int .i64 cn].toList := vn_al (vn1 w7 (.cells #[.string t, .int .i64 kd, .int .i64 0] 59) #[.int .i64 1, .int .i64 0, .int .i64 0, .int .i64 0, .int .u8 0, .int .i64 m, .slice (some ⟨w7.heap.size, 0, none⟩) 1 1, .string t, .int .i64 cn] 43) (.cells #[.int .i64 1, .int .i64 0, .int .i64 0, .int .i64 0, .int .u8 0, .int .i64 (m + 1), .slice (some ⟨w7.heap.size, 0, none⟩) 1 1, .string t, .int .i64 cn] 43)
    have VT2 := vn2 w7 (.cells #[.string t, .int .i64 kd, .int .i64 0] 59) (.cells #[.int .i64 1, .int .i64 0, .int .i64 0, .int .i64 0, .int .u8 0, .int .i64 m, .slice (some ⟨w7.heap.size, 0, none⟩) 1 1, .string t, .int .i64 cn] 43) #[.int .i64 1, .int .i64 0, .int .i64 0, .int .i64 0, .int .u8 0, .int .i64 (m + 1), .slice (some ⟨w7.heap.size, 0, none⟩) 1 1, .string t, .int .i64 cn] 43
    go_upto_region 13 with fail
    generalize ((w7.alloc (.cells #[.string t, .int .i64 kd, .int .i64 0] 59)).alloc (.cells #[.int .i64 1, .int .i64 0, .int .i64 0, .int .i64 0, .int .u8 0, .int .i64 m, .slice (some ⟨w7.heap.size, 0, none⟩) 1 1, .string t, .int .i64 cn] 43)).alloc (.cells #[.int .i64 1, .int .i64 0, .int .i64 0, .int .i64 0, .int .u8 0, .int .i64 (m + 1), .slice (some ⟨w7.heap.size, 0, none⟩) 1 1, .string t, .int .i64 cn] 43) = W at *
    have b4W := bt b47 bW7
    have VSW := hVS4.below b4W
    have hSW := hS4.below b4W
    have bW := bt bw4 b4W
    have v6 := (VT4.below b4W).cell (i := 6) rfl
    clear y0 y1 y2 y3 hl7 b47 bW7 b4W hVS4 hS4 bw4 VT4
    obtain ⟨As', Cs', hvs', hs1, hs2, hsc⟩ := hSW.sn
    rw [← HNS.out] at hvs' hs1
    cases hvs'
    have hs2 : Cs ≤ 9223372036854775807 := by unfold maxLen at hs2; exact hs2
    have HSN : Hid (∀ i x, r.1.seen[i]? = some x → ∃ b o, As = some ⟨b, o, none⟩ ∧ W.cell? ⟨b, o + i, none⟩ = some (.int .i64 x)) := hsc
    clear hsc
    go_wp2_with fail
    clear v6
    go_loopw [70] (fun x wr => ∃ k : Nat, k ≤ ns ∧ x = .int .i64 k ∧ Hid (wr = W) ∧ Hid (∀ j x, j < k → r.1.seen[j]? = some x → x ≠ m ∧ x ≠ m + 1)) (fun x _ => ns - (intOf x).toNat)
    case atStart => exact ⟨0, Nat.zero_le _, rfl, rfl, fun j x hj => absurd hj (Nat.not_lt_zero j)⟩
    case round =>
      obtain ⟨k, hk, rfl, HWR, HNO⟩ := hrel
      have hwr0 : W = wr := HWR.out.symm
      subst hwr0
      clear HWR
      by_cases hlt : k < ns
      · have hlt' : (k : Int) < (ns : Int) := by omega
        obtain ⟨q, hq⟩ : ∃ q, r.1.seen[k]? = some q := ⟨r.1.seen[k]'(by rw [← HNS.out]; exact hlt), List.getElem?_eq_getElem _⟩
        obtain ⟨bs, os, rfl, e0⟩ := HSN.out k q hq
        have HQ : Hid (r.1.seen[k]? = some q) := hq
        clear hq
        by_cases q1 : q = m
        · have z1 : (q == m) = true := beq_iff_eq.2 q1
          clear q1
          go_wp2_with fail
          go_ret
          exact ⟨rfl, bW⟩
        · have z1 : (q == m) = false := by rw [beq_eq_false_iff_ne]; exact q1
          by_cases q2 : q = m + 1
          · have z2 : (q == m + 1) = true := beq_iff_eq.2 q2
            clear q1 q2
            go_wp2_with fail
            go_ret
            exact ⟨rfl, bW⟩
          · have z2 : (q == m + 1) = false := by rw [beq_eq_false_iff_ne]; exact q2
            have HNX : Hid (∀ j x, j < k + 1 → r.1.seen[j]? = some x → x ≠ m ∧ x ≠ m + 1) := fun j x hj hx => by
              by_cases e : j = k
              · rw [e, HQ.out] at hx
                cases hx
                exact ⟨q1, q2⟩
              · exact HNO.out j x (by omega) hx
            clear q1 q2 HNO
            go_wp2_with fail
            exact ⟨⟨k + 1, by omega, by go_num, by first | exact rfl | exact trivial, HNX⟩, by simp [intOf]; omega⟩
      · obtain rfl : k = ns := by omega
        have HNM : Hid (m ∉ r.1.seen ∧ m + 1 ∉ r.1.seen) := by
          refine ⟨fun q => ?_, fun q => ?_⟩
          · obtain ⟨j, hj⟩ := List.mem_iff_getElem?.1 q
            exact (HNO.out j m (by have := (List.getElem?_eq_some_iff.1 hj).1; have := HNS.out; omega) hj).1 rfl
          · obtain ⟨j, hj⟩ := List.mem_iff_getElem?.1 q
            exact (HNO.out j (m + 1) (by have := (List.getElem?_eq_some_iff.1 hj).1; have := HNS.out; omega) hj).2 rfl
        go_upto_region 19 with fail
        have HEV : Hid (Evs W (.slice (some ⟨w7.heap.size, 0, none⟩) 1 1) [⟨nb t, kd, 0⟩]) := ⟨some ⟨w7.heap.size, 0, none⟩, 1, rfl, Nat.le_refl _, by unfold maxLen; omega, fun i e he => by
          have hi := (List.getElem?_eq_some_iff.1 he).1
          have hi : i < 1 := hi
          obtain rfl : i = 0 := by omega
          cases he
          exact ⟨w7.heap.size, 0, rfl, t, htz, rfl, VG.cell (i := 0) rfl, VG.cell (i := 1) rfl, VG.cell (i := 2) rfl⟩⟩
        have HDI : Hid (∀ q, q ∈ ([((⟨1, 0, 0, 0, 0, ⟨m, [⟨nb t, kd, 0⟩]⟩, nb t, cn⟩ : Sto.Do), .slice (some ⟨w7.heap.size, 0, none⟩) 1 1, t), ((⟨1, 0, 0, 0, 0, ⟨m + 1, [⟨nb t, kd, 0⟩]⟩, nb t, cn⟩ : Sto.Do), .slice (some ⟨w7.heap.size, 0, none⟩) 1 1, t)] : List DoC) → DoIn W q.1 q.2.1 q.2.2) := fun q hq => by
          simp only [List.mem_cons, List.not_mem_nil, or_false] at hq
          rcases hq with rfl | rfl
          · exact ⟨HEV.out, rfl, htz, show (0 : Nat) < 256 by decide⟩
          · exact ⟨HEV.out, rfl, htz, show (0 : Nat) < 256 by decide⟩
        obtain ⟨qs, hqm, hqi, hqc⟩ := dos_cells (HD.out W bW)
        have hql : qs.length = n := by
          have := congrArg List.length hqm
          rw [List.length_map] at this
          rw [this, HN.out]
        have HQC : Hid (∀ wX, Below W.heap.size W wX → ∀ A', A = some A' → ∀ j u, (qs.flatMap doC)[j]? = some u → wX.cell? (A'.add j) = some u) := fun wX hb A' e j u hj => by
          have h1 := hqc A' C (by rw [← e, HN.out]) j u hj
          exact (hb.cell (World.block_lt_of_cell? _ _ h1)).trans h1
        obtain ⟨r2, hr2⟩ : ∃ r2, r2 = F2 ⟨1, 0, 0, 0, 0, ⟨m, [⟨nb t, kd, 0⟩]⟩, nb t, cn⟩ ⟨1, 0, 0, 0, 0, ⟨m + 1, [⟨nb t, kd, 0⟩]⟩, nb t, cn⟩ := ⟨_, rfl⟩
        have HPL : Hid (∀ wX v, RD W wX v (qs ++ [((⟨1, 0, 0, 0, 0, ⟨m, [⟨nb t, kd, 0⟩]⟩, nb t, cn⟩ : Sto.Do), .slice (some ⟨w7.heap.size, 0, none⟩) 1 1, t), ((⟨1, 0, 0, 0, 0, ⟨m + 1, [⟨nb t, kd, 0⟩]⟩, nb t, cn⟩ : Sto.Do), .slice (some ⟨w7.heap.size, 0, none⟩) 1 1, t)]) → Calls Tryz.prog 10 #[.agg #[.int .i64 d, .int .i64 s, .int .i64 b], v] wX fun e w2 => PlayR e wX w2 c r2) := fun wX v hRD => by
          rw [hr2]
          refine HP2.out wX v _ _ ?_
          have := hRD.dos (fun q hq => by
            rcases List.mem_append.1 hq with z | z
            · exact (hqi q z).1
            · exact HDI.out q z)
          rw [List.map_append, hqm] at this
          exact this
        have HQ1 : Hid (∀ q, q ∈ qs → q.2.1.oneCell' = true) := fun q hq => (hqi q hq).2
        have HQ2 : Hid (∀ q, q ∈ ([((⟨1, 0, 0, 0, 0, ⟨m, [⟨nb t, kd, 0⟩]⟩, nb t, cn⟩ : Sto.Do), .slice (some ⟨w7.heap.size, 0, none⟩) 1 1, t), ((⟨1, 0, 0, 0, 0, ⟨m + 1, [⟨nb t, kd, 0⟩]⟩, nb t, cn⟩ : Sto.Do), .slice (some ⟨w7.heap.size, 0, none⟩) 1 1, t)] : List DoC) → q.2.1.oneCell' = true) := fun q hq => by
          simp only [List.mem_cons, List.not_mem_nil, or_false] at hq
          rcases hq with rfl | rfl <;> rfl
        have HFI : Hid (∃ a1 a2, r2.2[n]? = some a1 ∧ r2.2[n + 1]? = some a2 ∧ (a1.err ≠ 0 ∨ a2.err = 11)) := by
          rw [hr2]
          exact HSC.out ⟨1, 0, 0, 0, 0, ⟨m, [⟨nb t, kd, 0⟩]⟩, nb t, cn⟩ ⟨1, 0, 0, 0, 0, ⟨m + 1, [⟨nb t, kd, 0⟩]⟩, nb t, cn⟩ ⟨nb t, kd, 0⟩ rfl rfl HNM.out.1 rfl rfl rfl rfl HCN.out rfl rfl hm2 HNM.out.2
        have HSo : ∀ w', Below W.heap.size W w' → ((w'.cell? ⟨w.heap.size, 0, none⟩ = some (.int .i64 d) ∧ w'.cell? ⟨w.heap.size, 1, none⟩ = some (.int .i64 s) ∧ w'.cell? ⟨w.heap.size, 2, none⟩ = some (.int .i64 b)) ∧ (w'.cell? ⟨w7.heap.size + 1, 0, none⟩ = some (.int .i64 1) ∧ w'.cell? ⟨w7.heap.size + 1, 1, none⟩ = some (.int .i64 0) ∧ w'.cell? ⟨w7.heap.size + 1, 2, none⟩ = some (.int .i64 0) ∧ w'.cell? ⟨w7.heap.size + 1, 3, none⟩ = some (.int .i64 0) ∧ w'.cell? ⟨w7.heap.size + 1, 4, none⟩ = some (.int .u8 0) ∧ w'.cell? ⟨w7.heap.size + 1, 5, none⟩ = some (.int .i64 m) ∧ w'.cell? ⟨w7.heap.size + 1, 6, none⟩ = some (.slice (some ⟨w7.heap.size, 0, none⟩) 1 1) ∧ w'.cell? ⟨w7.heap.size + 1, 7, none⟩ = some (.string t) ∧ w'.cell? ⟨w7.heap.size + 1, 8, none⟩ = some (.int .i64 cn)) ∧ (w'.cell? ⟨w7.heap.size + 1 + 1, 0, none⟩ = some (.int .i64 1) ∧ w'.cell? ⟨w7.heap.size + 1 + 1, 1, none⟩ = some (.int .i64 0) ∧ w'.cell? ⟨w7.heap.size + 1 + 1, 2, none⟩ = some (.int .i64 0) ∧ w'.cell? ⟨w7.heap.size + 1 + 1, 3, none⟩ = some (.int .i64 0) ∧ w'.cell? ⟨w7.heap.size + 1 + 1, 4, none⟩ = some (.int .u8 0) ∧ w'.cell? ⟨w7.heap.size + 1 + 1, 5, none⟩ = some (.int .i64 (m + 1)) ∧ w'.cell? ⟨w7.heap.size + 1 + 1, 6, none⟩ = some (.slice (some ⟨w7.heap.size, 0, none⟩) 1 1) ∧ w'.cell? ⟨w7.heap.size + 1 + 1, 7, none⟩ = some (.string t) ∧ w'.cell? ⟨w7.heap.size + 1 + 1, 8, none⟩ = some (.int .i64 cn))) ∧ Below W.heap.size W w' := fun w' hb => ⟨⟨⟨(VSW.below hb).cell (i := 0) rfl, (VSW.below hb).cell (i := 1) rfl, (VSW.below hb).cell (i := 2) rfl⟩, ⟨(VO.below hb).cell (i := 0) rfl, (VO.below hb).cell (i := 1) rfl, (VO.below hb).cell (i := 2) rfl, (VO.below hb).cell (i := 3) rfl, (VO.below hb).cell (i := 4) rfl, (VO.below hb).cell (i := 5) rfl, (VO.below hb).cell (i := 6) rfl, (VO.below hb).cell (i := 7) rfl, (VO.below hb).cell (i := 8) rfl⟩, (VT2.below hb).cell (i := 0) rfl, (VT2.below hb).cell (i := 1) rfl, (VT2.below hb).cell (i := 2) rfl, (VT2.below hb).cell (i := 3) rfl, (VT2.below hb).cell (i := 4) rfl, (VT2.below hb).cell (i := 5) rfl, (VT2.below hb).cell (i := 6) rfl, (VT2.below hb).cell (i := 7) rfl, (VT2.below hb).cell (i := 8) rfl⟩, hb⟩
        have HPL8 := HPL.out
        have HQC8 := HQC.out
        have hql' : qs.length + 2 ≤ 1000 := by omega
        have TD := HSo W.drew (Below.refl _ _).drew
        have bA1 : ∀ x, Below W.heap.size W (W.alloc x).drew := fun x => (belA1 W x).drew
        have bA2 : ∀ x y, Below W.heap.size W ((W.alloc x).alloc y).drew := fun x y => (belA2 W x y).drew
        have bA3 : ∀ x y z, Below W.heap.size W (((W.alloc x).alloc y).alloc z).drew := fun x y z => (belA3 W x y z).drew
        have HKEY : Hid (qs.length = n) := hql
        clear hqm hqi hqc VSW VO VT2 VG HEV HDI HP2 HSC hr2 hql HSN HNO hSW HCN HNM
        go_cut [18, 19, 11] from 85 to 96 (fun p18 v19 v11 wx => PlayV W wx c r2 p18 v19 v11)
        case first =>
          go_region_held3 (fun w' => ((w'.cell? ⟨w.heap.size, 0, none⟩ = some (.int .i64 d) ∧ w'.cell? ⟨w.heap.size, 1, none⟩ = some (.int .i64 s) ∧ w'.cell? ⟨w.heap.size, 2, none⟩ = some (.int .i64 b)) ∧ (w'.cell? ⟨w7.heap.size + 1, 0, none⟩ = some (.int .i64 1) ∧ w'.cell? ⟨w7.heap.size + 1, 1, none⟩ = some (.int .i64 0) ∧ w'.cell? ⟨w7.heap.size + 1, 2, none⟩ = some (.int .i64 0) ∧ w'.cell? ⟨w7.heap.size + 1, 3, none⟩ = some (.int .i64 0) ∧ w'.cell? ⟨w7.heap.size + 1, 4, none⟩ = some (.int .u8 0) ∧ w'.cell? ⟨w7.heap.size + 1, 5, none⟩ = some (.int .i64 m) ∧ w'.cell? ⟨w7.heap.size + 1, 6, none⟩ = some (.slice (some ⟨w7.heap.size, 0, none⟩) 1 1) ∧ w'.cell? ⟨w7.heap.size + 1, 7, none⟩ = some (.string t) ∧ w'.cell? ⟨w7.heap.size + 1, 8, none⟩ = some (.int .i64 cn)) ∧ (w'.cell? ⟨w7.heap.size + 1 + 1, 0, none⟩ = some (.int .i64 1) ∧ w'.cell? ⟨w7.heap.size + 1 + 1, 1, none⟩ = some (.int .i64 0) ∧ w'.cell? ⟨w7.heap.size + 1 + 1, 2, none⟩ = some (.int .i64 0) ∧ w'.cell? ⟨w7.heap.size + 1 + 1, 3, none⟩ = some (.int .i64 0) ∧ w'.cell? ⟨w7.heap.size + 1 + 1, 4, none⟩ = some (.int .u8 0) ∧ w'.cell? ⟨w7.heap.size + 1 + 1, 5, none⟩ = some (.int .i64 (m + 1)) ∧ w'.cell? ⟨w7.heap.size + 1 + 1, 6, none⟩ = some (.slice (some ⟨w7.heap.size, 0, none⟩) 1 1) ∧ w'.cell? ⟨w7.heap.size + 1 + 1, 7, none⟩ = some (.string t) ∧ w'.cell? ⟨w7.heap.size + 1 + 1, 8, none⟩ = some (.int .i64 cn))) ∧ Below W.heap.size W w')
            (first | with_reducible exact TD | with_reducible assumption | with_reducible exact HSo _ (bA1 _) | with_reducible exact HSo _ (bA2 _ _) | with_reducible exact HSo _ (bA3 _ _ _) | with_reducible exact HSo _ (R6.alloc _).bel | with_reducible exact HSo _ ((R6.alloc _).alloc _).bel | with_reducible exact HSo _ (R7.alloc _).bel | with_reducible exact HSo _ (bel_al B8) | with_reducible exact HSo _ (bel_nine B8 (by omega)))
            (first | (refine app_rd rfl (.tmp 86) (.tmp 87) rfl (ys := qs) rfl rfl (hAn) (by first | exact rdE | exact rdEo | exact rdoE | exact rdEop | exact rdoEp | exact rdopE) HKEY.out (HQC8 _ (by first | exact bA1 _ | exact bA2 _ _ | exact bA3 _ _ _)) HQ1.out (by simp only [List.length_nil]; omega) ?_; intro v6 w6 R6 TR; (first | (have T6 := TR _ _ _ (td_Eo (cs := #[.int .i64 1, .int .i64 0, .int .i64 0, .int .i64 0, .int .u8 0, .int .i64 m, .slice (some ⟨w7.heap.size, 0, none⟩) 1 1, .string t, .int .i64 cn, .int .i64 1, .int .i64 0, .int .i64 0, .int .i64 0, .int .u8 0, .int .i64 (m + 1), .slice (some ⟨w7.heap.size, 0, none⟩) 1 1, .string t, .int .i64 cn]) (t := 43))) | (have T6 := TR _ _ _ (td_oE (cs := #[.int .i64 1, .int .i64 0, .int .i64 0, .int .i64 0, .int .u8 0, .int .i64 m, .slice (some ⟨w7.heap.size, 0, none⟩) 1 1, .string t, .int .i64 cn, .int .i64 1, .int .i64 0, .int .i64 0, .int .i64 0, .int .u8 0, .int .i64 (m + 1), .slice (some ⟨w7.heap.size, 0, none⟩) 1 1, .string t, .int .i64 cn]) (t := 43))) | (have T6 := TR _ _ _ (td_Eop (cs := #[.int .i64 1, .int .i64 0, .int .i64 0, .int .i64 0, .int .u8 0, .int .i64 m, .slice (some ⟨w7.heap.size, 0, none⟩) 1 1, .string t, .int .i64 cn, .int .i64 1, .int .i64 0, .int .i64 0, .int .i64 0, .int .u8 0, .int .i64 (m + 1), .slice (some ⟨w7.heap.size, 0, none⟩) 1 1, .string t, .int .i64 cn]) (t := 43))) | (have T6 := TR _ _ _ (td_Epo (cs := #[.int .i64 1, .int .i64 0, .int .i64 0, .int .i64 0, .int .u8 0, .int .i64 m, .slice (some ⟨w7.heap.size, 0, none⟩) 1 1, .string t, .int .i64 cn, .int .i64 1, .int .i64 0, .int .i64 0, .int .i64 0, .int .u8 0, .int .i64 (m + 1), .slice (some ⟨w7.heap.size, 0, none⟩) 1 1, .string t, .int .i64 cn]) (t := 43))) | (have T6 := TR _ _ _ (td_oEp (cs := #[.int .i64 1, .int .i64 0, .int .i64 0, .int .i64 0, .int .u8 0, .int .i64 m, .slice (some ⟨w7.heap.size, 0, none⟩) 1 1, .string t, .int .i64 cn, .int .i64 1, .int .i64 0, .int .i64 0, .int .i64 0, .int .u8 0, .int .i64 (m + 1), .slice (some ⟨w7.heap.size, 0, none⟩) 1 1, .string t, .int .i64 cn]) (t := 43))) | (have T6 := TR _ _ _ (td_pEo (cs := #[.int .i64 1, .int .i64 0, .int .i64 0, .int .i64 0, .int .u8 0, .int .i64 m, .slice (some ⟨w7.heap.size, 0, none⟩) 1 1, .string t, .int .i64 cn, .int .i64 1, .int .i64 0, .int .i64 0, .int .i64 0, .int .u8 0, .int .i64 (m + 1), .slice (some ⟨w7.heap.size, 0, none⟩) 1 1, .string t, .int .i64 cn]) (t := 43))) | (have T6 := TR _ _ _ (td_opE (cs := #[.int .i64 1, .int .i64 0, .int .i64 0, .int .i64 0, .int .u8 0, .int .i64 m, .slice (some ⟨w7.heap.size, 0, none⟩) 1 1, .string t, .int .i64 cn, .int .i64 1, .int .i64 0, .int .i64 0, .int .i64 0, .int .u8 0, .int .i64 (m + 1), .slice (some ⟨w7.heap.size, 0, none⟩) 1 1, .string t, .int .i64 cn]) (t := 43))) | (have T6 := TR _ _ _ (td_poE (cs := #[.int .i64 1, .int .i64 0, .int .i64 0, .int .i64 0, .int .u8 0, .int .i64 m, .slice (some ⟨w7.heap.size, 0, none⟩) 1 1, .string t, .int .i64 cn, .int .i64 1, .int .i64 0, .int .i64 0, .int .i64 0, .int .u8 0, .int .i64 (m + 1), .slice (some ⟨w7.heap.size, 0, none⟩) 1 1, .string t, .int .i64 cn]) (t := 43))) | skip); (first | (have Z6 := TR _ _ _ (td_Eo (cs := zSt) (t := 33))) | (have Z6 := TR _ _ _ (td_oE (cs := zSt) (t := 33))) | (have Z6 := TR _ _ _ (td_Eop (cs := zSt) (t := 33))) | (have Z6 := TR _ _ _ (td_Epo (cs := zSt) (t := 33))) | (have Z6 := TR _ _ _ (td_oEp (cs := zSt) (t := 33))) | (have Z6 := TR _ _ _ (td_pEo (cs := zSt) (t := 33))) | (have Z6 := TR _ _ _ (td_opE (cs := zSt) (t := 33))) | (have Z6 := TR _ _ _ (td_poE (cs := zSt) (t := 33))) | skip); have S6 := HSo w6 R6.bel; have hs6 := R6.bel.size; simp only [List.nil_append] at R6)
                   | (refine app_rd rfl (.tmp 88) (.tmp 91) rfl (ys := [((⟨1, 0, 0, 0, 0, ⟨m, [⟨nb t, kd, 0⟩]⟩, nb t, cn⟩ : Sto.Do), .slice (some ⟨w7.heap.size, 0, none⟩) 1 1, t), ((⟨1, 0, 0, 0, 0, ⟨m + 1, [⟨nb t, kd, 0⟩]⟩, nb t, cn⟩ : Sto.Do), .slice (some ⟨w7.heap.size, 0, none⟩) 1 1, t)]) rfl rfl (fun e => by cases e) (by first | exact R6 | exact R6.alloc _ | exact (R6.alloc _).alloc _) rfl (by first | exact (fun A9 e => by cases e; exact T6.cells) | exact (fun A9 e => by cases e; exact (T6.alloc _).cells) | exact (fun A9 e => by cases e; exact (td_n0 (cs := #[.int .i64 1, .int .i64 0, .int .i64 0, .int .i64 0, .int .u8 0, .int .i64 m, .slice (some ⟨w7.heap.size, 0, none⟩) 1 1, .string t, .int .i64 cn, .int .i64 1, .int .i64 0, .int .i64 0, .int .i64 0, .int .u8 0, .int .i64 (m + 1), .slice (some ⟨w7.heap.size, 0, none⟩) 1 1, .string t, .int .i64 cn]) (t := 43) R6).cells) | exact (fun A9 e => by cases e; exact ((td_n0 (cs := #[.int .i64 1, .int .i64 0, .int .i64 0, .int .i64 0, .int .u8 0, .int .i64 m, .slice (some ⟨w7.heap.size, 0, none⟩) 1 1, .string t, .int .i64 cn, .int .i64 1, .int .i64 0, .int .i64 0, .int .i64 0, .int .u8 0, .int .i64 (m + 1), .slice (some ⟨w7.heap.size, 0, none⟩) 1 1, .string t, .int .i64 cn]) (t := 43) R6).alloc _).cells) | exact (fun A9 e => by cases e; exact (td_n1 (cs := #[.int .i64 1, .int .i64 0, .int .i64 0, .int .i64 0, .int .u8 0, .int .i64 m, .slice (some ⟨w7.heap.size, 0, none⟩) 1 1, .string t, .int .i64 cn, .int .i64 1, .int .i64 0, .int .i64 0, .int .i64 0, .int .u8 0, .int .i64 (m + 1), .slice (some ⟨w7.heap.size, 0, none⟩) 1 1, .string t, .int .i64 cn]) (t := 43) R6 _).cells)) HQ2.out hql' ?_; intro v7 w7 R7 TR7; (first | (have Z7 := TR7 _ _ _ Z6) | (have Z7 := TR7 _ _ _ (Z6.alloc _)) | (have Z7 := TR7 _ _ _ (td_n0 (cs := zSt) (t := 33) R6)) | (have Z7 := TR7 _ _ _ ((td_n0 (cs := zSt) (t := 33) R6).alloc _)) | (have Z7 := TR7 _ _ _ (td_n1 (cs := zSt) (t := 33) R6 _)) | skip); have S7 := HSo w7 R7.bel; have hs7 := R7.bel.size)
                   | (go_at_call 10; refine (HPL8 _ _ (by first | exact R7 | exact R7.alloc _)).mono ?_; rintro e8 w8 ⟨vd8, vt8, vs8, va8, vr8, rfl, hS8, hR8, b8, hF8⟩; have B8 : Below W.heap.size W w8 := (by first | exact bt R7.bel b8 | exact bt (R7.alloc _).bel b8); have S8 := HSo w8 B8; obtain ⟨Ad8, nd8, Cd8, rfl⟩ : ∃ A n C, vd8 = .slice A n C := (by obtain ⟨A, C, h, _⟩ := hS8.dk; exact ⟨A, _, C, h⟩); obtain ⟨At8, nt8, Ct8, rfl⟩ : ∃ A n C, vt8 = .slice A n C := (by obtain ⟨A, C, h, _⟩ := hS8.tl; exact ⟨A, _, C, h⟩); obtain ⟨As8, ns8, Cs8, rfl⟩ : ∃ A n C, vs8 = .slice A n C := (by obtain ⟨A, C, h, _⟩ := hS8.sn; exact ⟨A, _, C, h⟩); obtain ⟨Aa8, na8, Ca8, rfl⟩ : ∃ A n C, va8 = .slice A n C := (by obtain ⟨A, C, h, _⟩ := hS8.ac; exact ⟨A, _, C, h⟩); (first | (have Y := Z7.row.below b8; have y0 := Y.cell (i := 0) rfl; have f0 := Y.frozen 0; have y1 := Y.cell (i := 1) rfl; have f1 := Y.frozen 1; have y2 := Y.cell (i := 2) rfl; have f2 := Y.frozen 2; have y3 := Y.cell (i := 3) rfl; have f3 := Y.frozen 3; have y4 := Y.cell (i := 4) rfl; have f4 := Y.frozen 4; have y5 := Y.cell (i := 5) rfl; have f5 := Y.frozen 5; have y6 := Y.cell (i := 6) rfl; have f6 := Y.frozen 6; have y7 := Y.cell (i := 7) rfl; have f7 := Y.frozen 7; have y8 := Y.cell (i := 8) rfl; have f8 := Y.frozen 8; have Yl : _ < w8.heap.size := RowC.lt Y; have Yn := Nat.ne_of_lt Yl; have Ym := Nat.ne_of_gt Yl) | (have Y := (varN_new w7 zSt 33).below b8; have y0 := Y.cell (i := 0) rfl; have f0 := Y.frozen 0; have y1 := Y.cell (i := 1) rfl; have f1 := Y.frozen 1; have y2 := Y.cell (i := 2) rfl; have f2 := Y.frozen 2; have y3 := Y.cell (i := 3) rfl; have f3 := Y.frozen 3; have y4 := Y.cell (i := 4) rfl; have f4 := Y.frozen 4; have y5 := Y.cell (i := 5) rfl; have f5 := Y.frozen 5; have y6 := Y.cell (i := 6) rfl; have f6 := Y.frozen 6; have y7 := Y.cell (i := 7) rfl; have f7 := Y.frozen 7; have y8 := Y.cell (i := 8) rfl; have f8 := Y.frozen 8; have Yl : _ < w8.heap.size := RowC.lt Y; have Yn := Nat.ne_of_lt Yl; have Ym := Nat.ne_of_gt Yl) | skip)))
          all_goals go_wp2_with fail
          all_goals go_meet
          all_goals first | with_reducible exact playV_new hS8 hR8 B8 | with_reducible exact playV_set hF8 B8 Y (by first | exact Z7.row.lt8 | simp) (by omega)
        case rest =>
          obtain ⟨P, vd', vt', vs', va', rfl, rfl, VP, hSP, hRP, bP⟩ := hcut
          obtain ⟨w8, hw8⟩ : ∃ y, y = wc := ⟨wc, rfl⟩
          rw [← hw8] at VP hSP hRP bP ⊢
          have bW8 := bt bW bP
          clear hw8 HSo TD bA1 bA2 bA3 HPL8 HQC8 HPL HQC HQ1 HQ2 HKEY hql' VP hSP bP
          obtain ⟨a1, a2, g1, g2, hor⟩ := HFI.out
          obtain ⟨Ap, Cp, hvp, hp1, hp2, hpa⟩ := hRP
          have hnp : n + 1 < r2.2.length := (List.getElem?_eq_some_iff.1 g2).1
          obtain ⟨np, hnpe⟩ : ∃ np, np = r2.2.length := ⟨_, rfl⟩
          rw [← hnpe] at hvp hp1 hnp
          subst hvp
          have hp2 : Cp ≤ 9223372036854775807 := by unfold maxLen at hp2; exact hp2
          obtain ⟨bp, op, rfl, _, _, p0, _⟩ := hpa n _ g1
          obtain ⟨bp', op', e', _, _, p1, _⟩ := hpa (n + 1) _ g2
          cases e'
          have hnp1 : (n : Int) < (np : Int) := by omega
          have hnp2 : (n : Int) + 1 < (np : Int) := by omega
          have hwn : IntKind.i64.wrap ((n : Int) + 1) = (n : Int) + 1 := by rw [IntKind.wrap_i64]; omega
          clear hpa hnpe g1 g2 HFI
          by_cases h0 : a1.err = 0
          · have z1 : ((a1.err : Int) != 0) = false := by rw [h0]; rfl
            have z2 : ((a2.err : Int) == 11) = true := by rw [hor.resolve_left (fun q => q h0)]; rfl
            clear h0 hor
            go_wp2_with fail
            go_ret
            exact ⟨rfl, bW8⟩
          · have z1 : ((a1.err : Int) != 0) = true := by rw [bne_iff_ne]; omega
            clear h0 hor
            go_wp2_with fail
            go_ret
            exact ⟨rfl, bW8⟩

end Go.Proofs.YtldjieplbeflfaaGreat
