/-
  Texts of the proof, joined: HSame, BRefB, BRefP.
-/
import Derived.Test.YtmcaejooaaahdaaGreatZ49
import Derived.BigQuiet
import Derived.Deep.Cut
import Derived.Test.YtmcaejooaaahdaaGreatZ12
namespace Go.Proofs.YtmcaejooaaahdaaGreat
open Go.RowKit

theorem setup_same (a b c : Int) (w : World) : (binOp .neq 23 (.agg #[.int .i64 a, .int .i64 b, .int .i64 c]) (.agg #[.int .i64 a, .int .i64 b, .int .i64 c])).run Tryz.prog w = .ok (.bool false) w := by
  have u3 := Tryz.underlying3
  have a3 := Tryz.isAgg3
  have z3 := Tryz.sizeOf3
  have hS : Tryz.prog.underlying 23 = some (.struct (Tryz.prog.fieldsOf 23)) := by kernel_rfl
  have hp : Tryz.prog.stoodInHeld 23 = false := by kernel_rfl
  rw [run_neq_struct, show (10000 : Nat) = 9999 + 1 from rfl, run_equalIn_agg w 9999 23 _ _ hS hp]
  simp only [Program.fieldsOf, Tryz.underlying23]
  go_simp
theorem Tell.yes {e : Ending} {P : Prop} (h : Tell e P) (hp : P) : e = .returned (.bool true) := by
  obtain ⟨y, rfl, hy⟩ := h
  rw [hy.2 hp]
/-! ### What stands as it was -/
theorem two_vars {w0 : World} {t t' : TypeId} {p q c d : Value} : VarN ((w0.alloc (.cells #[p, q] t)).alloc (.cells #[c, d] t')) w0.heap.size t [p, q] ∧ VarN ((w0.alloc (.cells #[p, q] t)).alloc (.cells #[c, d] t')) (w0.heap.size + 1) t' [c, d] ∧ Below w0.heap.size w0 ((w0.alloc (.cells #[p, q] t)).alloc (.cells #[c, d] t')) := by
  have b1 : Below w0.heap.size w0 (w0.alloc (.cells #[p, q] t)) := (Below.refl _ _).alloc (Nat.le_refl _) _
  have V := varN_new (w0.alloc (.cells #[p, q] t)) #[c, d] t'
  rw [show (w0.alloc (.cells #[p, q] t)).heap.size = w0.heap.size + 1 by simp] at V
  exact ⟨(varN_new w0 #[p, q] t).below ((Below.refl _ _).alloc (Nat.le_refl _) _), V, b1.alloc b1.size _⟩

set_option maxHeartbeats 4000000 in
set_option maxRecDepth 100000 in
theorem same_sto (x y z g u : Int) (vd vt vs va vd' vt' vs' va' : Value) (s : Sto.St) (w : World) (h : StIn w vd vt vs va s) (h' : StIn w vd' vt' vs' va' s) :
    Calls Tryz.prog 8 #[.agg #[.int .i64 x, .int .i64 y, .int .i64 z, vd, .int .i64 g, vt, vs, .int .i64 u, va], .agg #[.int .i64 x, .int .i64 y, .int .i64 z, vd', .int .i64 g, vt', vs', .int .i64 u, va']] w fun e w' => e = .returned (.bool true) ∧ Below w.heap.size w w' := by
  have hst := setup_same x y z
  have HT : Hid (∀ w', Below w.heap.size w w' → Calls Tryz.prog 14 #[vt, vt'] w' fun e w2 => e = .returned (.bool true) ∧ Below w'.heap.size w' w2) := fun w' hb => (sameBat_any vt vt' s.tail s.tail w' (h.tl.below hb) (h'.tl.below hb)).mono fun e w2 q => ⟨q.1.yes rfl, by
    obtain ⟨m, rfl⟩ := q.2
    exact drewN_below w' m⟩
  have HV : Hid (∀ w', Below w.heap.size w w' → Calls Tryz.prog 15 #[.agg #[.int .i64 u, va], .agg #[.int .i64 u, va']] w' fun e w2 => e = .returned (.bool true) ∧ Below w'.heap.size w' w2) := fun w' hb => (sameView_any u u va va' s.acc s.acc w' (h.ac.below hb) (h'.ac.below hb)).mono fun e w2 q => ⟨q.1.yes ⟨rfl, rfl⟩, q.2⟩
  obtain ⟨⟨Ad, Cd, rfl, hd1, hd2, hd⟩, ht, ⟨As, Cs, rfl, hs1, hs2, hs⟩, ha⟩ := h
  obtain ⟨⟨Bd, Ed, rfl, kd1, kd2, kd⟩, ht', ⟨Bs, Es, rfl, ks1, ks2, ks⟩, ha'⟩ := h'
  obtain ⟨At, Ct, rfl⟩ := ht.shape
  obtain ⟨At', Ct', rfl⟩ := ht'.shape
  obtain ⟨Aa, Ca, rfl⟩ := ha.shape
  obtain ⟨Aa', Ca', rfl⟩ := ha'.shape
  have HD : Hid (∀ i x, s.disks[i]? = some x → ∃ b o, Ad = some ⟨b, o, none⟩ ∧ DkIn w b (o + i * 2) x) := hd
  have KD : Hid (∀ i x, s.disks[i]? = some x → ∃ b o, Bd = some ⟨b, o, none⟩ ∧ DkIn w b (o + i * 2) x) := kd
  have HS : Hid (∀ i x, s.seen[i]? = some x → ∃ b o, As = some ⟨b, o, none⟩ ∧ w.cell? ⟨b, o + i, none⟩ = some (.int .i64 x)) := hs
  have KS : Hid (∀ i x, s.seen[i]? = some x → ∃ b o, Bs = some ⟨b, o, none⟩ ∧ w.cell? ⟨b, o + i, none⟩ = some (.int .i64 x)) := ks
  have hd2 : Cd ≤ 9223372036854775807 := by unfold maxLen at hd2; exact hd2
  have hs2 : Cs ≤ 9223372036854775807 := by unfold maxLen at hs2; exact hs2
  have kd2 : Ed ≤ 9223372036854775807 := by unfold maxLen at kd2; exact kd2
  have ks2 : Es ≤ 9223372036854775807 := by unfold maxLen at ks2; exact ks2
  clear ht ht' ha ha' hd kd hs ks
  obtain ⟨nd, hnd⟩ : ∃ n, n = s.disks.length := ⟨_, rfl⟩
  obtain ⟨ns, hns⟩ : ∃ n, n = s.seen.length := ⟨_, rfl⟩
  obtain ⟨nt, hnt⟩ : ∃ n, n = s.tail.length := ⟨_, rfl⟩
  obtain ⟨na, hna⟩ : ∃ n, n = s.acc.length := ⟨_, rfl⟩
  rw [← hnd] at hd1 kd1 ⊢
  rw [← hns] at hs1 ks1 ⊢
  rw [← hnt] at HT ⊢
  rw [← hna] at HV ⊢
  have HND : Hid (nd = s.disks.length) := hnd
  have HNS : Hid (ns = s.seen.length) := hns
  clear hnd hns hnt hna
  have b1 : Below w.heap.size w (w.alloc (.cells #[.int .i64 x, .int .i64 y, .int .i64 z, .slice Ad nd Cd, .int .i64 g, .slice At nt Ct, .slice As ns Cs, .int .i64 u, .slice Aa na Ca] 32)) := (Below.refl _ _).alloc (Nat.le_refl _) _
  have b2 : Below (w.alloc (.cells #[.int .i64 x, .int .i64 y, .int .i64 z, .slice Ad nd Cd, .int .i64 g, .slice At nt Ct, .slice As ns Cs, .int .i64 u, .slice Aa na Ca] 32)).heap.size (w.alloc (.cells #[.int .i64 x, .int .i64 y, .int .i64 z, .slice Ad nd Cd, .int .i64 g, .slice At nt Ct, .slice As ns Cs, .int .i64 u, .slice Aa na Ca] 32)) ((w.alloc (.cells #[.int .i64 x, .int .i64 y, .int .i64 z, .slice Ad nd Cd, .int .i64 g, .slice At nt Ct, .slice As ns Cs, .int .i64 u, .slice Aa na Ca] 32)).alloc (.cells #[.int .i64 x, .int .i64 y, .int .i64 z, .slice Bd nd Ed, .int .i64 g, .slice At' nt Ct', .slice Bs ns Es, .int .i64 u, .slice Aa' na Ca'] 32)) := (Below.refl _ _).alloc (Nat.le_refl _) _
  have VA := (varN_new w #[.int .i64 x, .int .i64 y, .int .i64 z, .slice Ad nd Cd, .int .i64 g, .slice At nt Ct, .slice As ns Cs, .int .i64 u, .slice Aa na Ca] 32).below b2
  have VB := varN_new (w.alloc (.cells #[.int .i64 x, .int .i64 y, .int .i64 z, .slice Ad nd Cd, .int .i64 g, .slice At nt Ct, .slice As ns Cs, .int .i64 u, .slice Aa na Ca] 32)) #[.int .i64 x, .int .i64 y, .int .i64 z, .slice Bd nd Ed, .int .i64 g, .slice At' nt Ct', .slice Bs ns Es, .int .i64 u, .slice Aa' na Ca'] 32
  rw [show (w.alloc (.cells #[.int .i64 x, .int .i64 y, .int .i64 z, .slice Ad nd Cd, .int .i64 g, .slice At nt Ct, .slice As ns Cs, .int .i64 u, .slice Aa na Ca] 32)).heap.size = w.heap.size + 1 by simp] at VB
  have b2 := bt b1 b2
  go_enter Tryz.func8, Tryz.ntmps8
  go_upto_region 1 with fail
  generalize (w.alloc (.cells #[.int .i64 x, .int .i64 y, .int .i64 z, .slice Ad nd Cd, .int .i64 g, .slice At nt Ct, .slice As ns Cs, .int .i64 u, .slice Aa na Ca] 32)).alloc (.cells #[.int .i64 x, .int .i64 y, .int .i64 z, .slice Bd nd Ed, .int .i64 g, .slice At' nt Ct', .slice Bs ns Es, .int .i64 u, .slice Aa' na Ca'] 32) = w2 at *
  have HT2 := HT.out w2 b2
  have HVA : Hid (VarN w2 w.heap.size 32 #[.int .i64 x, .int .i64 y, .int .i64 z, .slice Ad nd Cd, .int .i64 g, .slice At nt Ct, .slice As ns Cs, .int .i64 u, .slice Aa na Ca].toList) := VA
  have HVB : Hid (VarN w2 (w.heap.size + 1) 32 #[.int .i64 x, .int .i64 y, .int .i64 z, .slice Bd nd Ed, .int .i64 g, .slice At' nt Ct', .slice Bs ns Es, .int .i64 u, .slice Aa' na Ca'].toList) := VB
  have a0 := VA.cell (i := 0) rfl
  have a1 := VA.cell (i := 1) rfl
  have a2 := VA.cell (i := 2) rfl
  have a3 := VA.cell (i := 3) rfl
  have a4 := VA.cell (i := 4) rfl
  have a5 := VA.cell (i := 5) rfl
  have a6 := VA.cell (i := 6) rfl
  have d0 := VB.cell (i := 0) rfl
  have d1 := VB.cell (i := 1) rfl
  have d2 := VB.cell (i := 2) rfl
  have d3 := VB.cell (i := 3) rfl
  have d4 := VB.cell (i := 4) rfl
  have d5 := VB.cell (i := 5) rfl
  have d6 := VB.cell (i := 6) rfl
  clear VA VB b1
  go_wp2_with fail
  refine HT2.mono ?_
  rintro e w3 ⟨rfl, b3⟩
  clear a0 a1 a2 a3 a4 a5 a6 d0 d1 d2 d3 d4 d5 d6 HT2 hst
  have b03 := bt b2 b3
  have HV3 := HV.out w3 b03
  have a7 := (HVA.out.below b3).cell (i := 7) rfl
  have a8 := (HVA.out.below b3).cell (i := 8) rfl
  have d7 := (HVB.out.below b3).cell (i := 7) rfl
  have d8 := (HVB.out.below b3).cell (i := 8) rfl
  go_wp2_with fail
  refine HV3.mono ?_
  rintro e w4 ⟨rfl, b4⟩
  have b24 := bt b3 b4
  have b04 := bt b03 b4
  have HVA4 : Hid (VarN w4 w.heap.size 32 #[.int .i64 x, .int .i64 y, .int .i64 z, .slice Ad nd Cd, .int .i64 g, .slice At nt Ct, .slice As ns Cs, .int .i64 u, .slice Aa na Ca].toList) := HVA.out.below b24
  have HVB4 : Hid (VarN w4 (w.heap.size + 1) 32 #[.int .i64 x, .int .i64 y, .int .i64 z, .slice Bd nd Ed, .int .i64 g, .slice At' nt Ct', .slice Bs ns Es, .int .i64 u, .slice Aa' na Ca'].toList) := HVB.out.below b24
  clear a7 a8 d7 d8 HV3 HT HV HVA HVB b3 b4 b24 b03 b2
  have a6 := HVA4.out.cell (i := 6) rfl
  go_wp2_with fail
  clear a6
  go_loopw [59] (fun x wr => ∃ k : Nat, k ≤ ns ∧ x = .int .i64 k ∧ Below w4.heap.size w4 wr) (fun x _ => ns - (intOf x).toNat)
  case atStart => exact ⟨0, Nat.zero_le _, rfl, Below.refl _ _⟩
  case round =>
    obtain ⟨k, hk, rfl, hbr⟩ := hrel
    by_cases hlt : k < ns
    · have hlt' : (k : Int) < (ns : Int) := by omega
      obtain ⟨q, hq⟩ : ∃ q, s.seen[k]? = some q := ⟨s.seen[k]'(by rw [← HNS.out]; exact hlt), List.getElem?_eq_getElem _⟩
      obtain ⟨b, o, rfl, r0⟩ := HS.out k q hq
      obtain ⟨b', o', rfl, r0'⟩ := KS.out k q hq
      have br := bt b04 hbr
      have e0 := (br.cell (p := ⟨b, o + k, none⟩) (World.block_lt_of_cell? _ _ r0)).trans r0
      have e0' := (br.cell (p := ⟨b', o' + k, none⟩) (World.block_lt_of_cell? _ _ r0')).trans r0'
      have a6 := (HVA4.out.below hbr).cell (i := 6) rfl
      have d6 := (HVB4.out.below hbr).cell (i := 6) rfl
      have hne : (q != q) = false := by simp
      clear r0 r0' hq
      go_wp2_with fail
      go_quiet (fail)
      go_wp2_with fail
      exact ⟨⟨k + 1, by omega, by go_num, bdn hbr _⟩, by simp [intOf]; omega⟩
    · obtain rfl : k = ns := by omega
      have br := bt b04 hbr
      obtain ⟨w5, hw5⟩ : ∃ y, y = wr := ⟨wr, rfl⟩
      rw [← hw5] at hbr br ⊢
      clear hw5
      have HVA5 : Hid (VarN w5 w.heap.size 32 #[.int .i64 x, .int .i64 y, .int .i64 z, .slice Ad nd Cd, .int .i64 g, .slice At nt Ct, .slice As k Cs, .int .i64 u, .slice Aa na Ca].toList) := HVA4.out.below hbr
      have HVB5 : Hid (VarN w5 (w.heap.size + 1) 32 #[.int .i64 x, .int .i64 y, .int .i64 z, .slice Bd nd Ed, .int .i64 g, .slice At' nt Ct', .slice Bs k Es, .int .i64 u, .slice Aa' na Ca'].toList) := HVB4.out.below hbr
      have a3 := HVA5.out.cell (i := 3) rfl
      clear HVA4 HVB4 HS KS b04 hbr
      go_wp2_with fail
      clear a3
      go_loopw [77] (fun x wi => ∃ i : Nat, i ≤ nd ∧ x = .int .i64 i ∧ Below w5.heap.size w5 wi) (fun x _ => nd - (intOf x).toNat)
      case atStart => exact ⟨0, Nat.zero_le _, rfl, Below.refl _ _⟩
      case round =>
        obtain ⟨i, hi, rfl, hbi⟩ := hrel
        by_cases hlt : i < nd
        · have hlt' : (i : Int) < (nd : Int) := by omega
          obtain ⟨q, hq⟩ : ∃ q, s.disks[i]? = some q := ⟨s.disks[i]'(by rw [← HND.out]; exact hlt), List.getElem?_eq_getElem _⟩
          have bi := bt br hbi
          obtain ⟨b, o, rfl, r0⟩ := HD.out i q hq
          obtain ⟨b', o', rfl, r0'⟩ := KD.out i q hq
          obtain ⟨v1, e0, e1, hh1⟩ := r0.below bi
          obtain ⟨v2, e0', e1', hh2⟩ := r0'.below bi
          obtain ⟨A1, C1, rfl, g1, g2, hh1⟩ := hh1
          obtain ⟨A2, C2, rfl, g1', g2', hh2⟩ := hh2
          obtain ⟨nq, hnq⟩ : ∃ n, n = q.bl.length := ⟨_, rfl⟩
          rw [← hnq] at e1 e1' g1 g1'
          have g2 : C1 ≤ 9223372036854775807 := by unfold maxLen at g2; exact g2
          have g2' : C2 ≤ 9223372036854775807 := by unfold maxLen at g2'; exact g2'
          have HH1 : Hid (∀ i x, q.bl[i]? = some x → ∃ b o, A1 = some ⟨b, o, none⟩ ∧ HdIn wr b (o + i * 2) x) := hh1
          have HH2 : Hid (∀ i x, q.bl[i]? = some x → ∃ b o, A2 = some ⟨b, o, none⟩ ∧ HdIn wr b (o + i * 2) x) := hh2
          have HNQ : Hid (nq = q.bl.length) := hnq
          obtain ⟨gq, hgq⟩ : ∃ y, y = q.gone := ⟨_, rfl⟩
          rw [← hgq] at e0 e0'
          clear hh1 hh2 hnq hgq r0 r0' hq
          obtain ⟨wo, hwo⟩ : ∃ y, y = wr := ⟨wr, rfl⟩
          rw [← hwo] at hbi bi e0 e0' e1 e1' HH1 HH2 ⊢
          clear hwo
          have a3 := (HVA5.out.below hbi).cell (i := 3) rfl
          have d3 := (HVB5.out.below hbi).cell (i := 3) rfl
          go_upto_region 12 with fail
          go_cut [7, 8] from 80 to 89 (fun p7 p8 wx => ∃ P Q, p7 = .pointer (some ⟨P, 0, none⟩) ∧ p8 = .pointer (some ⟨Q, 0, none⟩) ∧ VarN wx P 58 [.bool gq, .slice A1 nq C1] ∧ VarN wx Q 58 [.bool gq, .slice A2 nq C2] ∧ Below wo.heap.size wo wx)
          case first =>
            have HSo : ∀ w', Below wo.heap.size wo w' → (w'.cell? ⟨w.heap.size, 3, none⟩ = some (.slice (some ⟨b, o, none⟩) nd Cd) ∧ w'.cell? ⟨w.heap.size + 1, 3, none⟩ = some (.slice (some ⟨b', o', none⟩) nd Ed) ∧ w'.cell? ⟨b, o + i * 2, none⟩ = some (.bool gq) ∧ w'.cell? ⟨b, o + i * 2 + 1, none⟩ = some (.slice A1 nq C1) ∧ w'.cell? ⟨b', o' + i * 2, none⟩ = some (.bool gq) ∧ w'.cell? ⟨b', o' + i * 2 + 1, none⟩ = some (.slice A2 nq C2)) ∧ Below wo.heap.size wo w' := fun w' hb => ⟨⟨(hb.cell (p := ⟨w.heap.size, 3, none⟩) (World.block_lt_of_cell? _ _ a3)).trans a3, (hb.cell (p := ⟨w.heap.size + 1, 3, none⟩) (World.block_lt_of_cell? _ _ d3)).trans d3, (hb.cell (p := ⟨b, o + i * 2, none⟩) (World.block_lt_of_cell? _ _ e0)).trans e0, (hb.cell (p := ⟨b, o + i * 2 + 1, none⟩) (World.block_lt_of_cell? _ _ e1)).trans e1, (hb.cell (p := ⟨b', o' + i * 2, none⟩) (World.block_lt_of_cell? _ _ e0')).trans e0', (hb.cell (p := ⟨b', o' + i * 2 + 1, none⟩) (World.block_lt_of_cell? _ _ e1')).trans e1'⟩, hb⟩
            have bA1 : ∀ x, Below wo.heap.size wo (wo.alloc x).drew := fun x => ((Below.refl _ _).alloc (Nat.le_refl _) _).drew
            have bA2 : ∀ x y, Below wo.heap.size wo ((wo.alloc x).alloc y).drew := fun x y => (((Below.refl _ _).alloc (Nat.le_refl _) _).alloc ((Below.refl wo.heap.size wo).alloc (Nat.le_refl _) x).size _).drew
            have TD := HSo wo.drew (Below.refl _ _).drew
            go_region_held3 (fun w' => (w'.cell? ⟨w.heap.size, 3, none⟩ = some (.slice (some ⟨b, o, none⟩) nd Cd) ∧ w'.cell? ⟨w.heap.size + 1, 3, none⟩ = some (.slice (some ⟨b', o', none⟩) nd Ed) ∧ w'.cell? ⟨b, o + i * 2, none⟩ = some (.bool gq) ∧ w'.cell? ⟨b, o + i * 2 + 1, none⟩ = some (.slice A1 nq C1) ∧ w'.cell? ⟨b', o' + i * 2, none⟩ = some (.bool gq) ∧ w'.cell? ⟨b', o' + i * 2 + 1, none⟩ = some (.slice A2 nq C2)) ∧ Below wo.heap.size wo w')
              (first | with_reducible exact TD | with_reducible assumption | with_reducible exact HSo _ (bA1 _) | with_reducible exact HSo _ (bA2 _ _))
              (fail)
            all_goals go_wp2_with fail
            all_goals go_meet
            · obtain ⟨q1, q2, q3⟩ := two_vars (w0 := wo) (t := 58) (t' := 58) (p := .bool gq) (q := .slice A1 nq C1) (c := .bool gq) (d := .slice A2 nq C2)
              exact ⟨_, _, rfl, rfl, q1.below (Below.refl _ _).drew, q2.below (Below.refl _ _).drew, q3.drew⟩
            · obtain ⟨q1, q2, q3⟩ := two_vars (w0 := wo) (t := 58) (t' := 58) (p := .bool gq) (q := .slice A2 nq C2) (c := .bool gq) (d := .slice A1 nq C1)
              exact ⟨_, _, rfl, rfl, q2.below (Below.refl _ _).drew, q1.below (Below.refl _ _).drew, q3.drew⟩
          case rest =>
            obtain ⟨P, Q, rfl, rfl, VP, VQ, bc⟩ := hcut
            obtain ⟨w6, hw6⟩ : ∃ y, y = wc := ⟨wc, rfl⟩
            rw [← hw6] at VP VQ bc ⊢
            have HP6 : Hid (VarN w6 P 58 [.bool gq, .slice A1 nq C1]) := VP
            have HQ6 : Hid (VarN w6 Q 58 [.bool gq, .slice A2 nq C2]) := VQ
            have p0 := VP.cell (i := 0) rfl
            have p1 := VP.cell (i := 1) rfl
            have q0 := VQ.cell (i := 0) rfl
            have q1 := VQ.cell (i := 1) rfl
            have hgg : (gq != gq) = false := by cases gq <;> rfl
            clear hw6 VP VQ a3 d3 e0 e0' e1 e1'
            go_wp2_with fail
            clear p0 p1 q0 q1 hgg
            go_loopw [107] (fun x wi => ∃ j : Nat, j ≤ nq ∧ x = .int .i64 j ∧ Below w6.heap.size w6 wi) (fun x _ => nq - (intOf x).toNat)
            case atStart => exact ⟨0, Nat.zero_le _, rfl, Below.refl _ _⟩
            case round =>
              obtain ⟨j, hj, rfl, hbj⟩ := hrel
              have bj := bt bc hbj
              by_cases hltj : j < nq
              · have hltj' : (j : Int) < (nq : Int) := by omega
                obtain ⟨⟨sg, by9⟩, hq⟩ : ∃ q', q.bl[j]? = some q' := ⟨q.bl[j]'(by rw [← HNQ.out]; exact hltj), List.getElem?_eq_getElem _⟩
                obtain ⟨bb, oo, rfl, r0⟩ := HH1.out j _ hq
                obtain ⟨bb', oo', rfl, r0'⟩ := HH2.out j _ hq
                obtain ⟨v1, e0, e1, y1⟩ := r0.below bj
                obtain ⟨v2, e0', e1', y2⟩ := r0'.below bj
                have x1 := fun n => convL (y1.below (drewN_below wr n))
                have x2 := fun n => convL (y2.below (drewN_below wr n))
                obtain ⟨_, A3, C3, rfl, _⟩ := y1
                obtain ⟨_, A4, C4, rfl, _⟩ := y2
                have p1 := (HP6.out.below hbj).cell (i := 1) rfl
                have q1 := (HQ6.out.below hbj).cell (i := 1) rfl
                have e0 : wr.cell? ⟨bb, oo + j * 2, none⟩ = some (.int .i64 sg) := e0
                have e0' : wr.cell? ⟨bb', oo' + j * 2, none⟩ = some (.int .i64 sg) := e0'
                have hsg : (sg != sg) = false := by simp
                generalize hS9 : strL by9 = S9 at x1 x2
                have hss : (S9.toList == S9.toList) = true := by simp
                obtain ⟨n9, hn9⟩ : ∃ n, n = by9.length := ⟨_, rfl⟩
                clear r0 r0' hq hS9
                go_wp2_with fail
                go_quiet (fail)
                go_wp2_with fail
                exact ⟨⟨j + 1, by omega, by go_num, bdn hbj _⟩, by simp [intOf]; omega⟩
              · obtain rfl : j = nq := by omega
                clear HP6 HQ6 HH1 HH2 HNQ
                go_wp2_with fail
                exact ⟨⟨i + 1, by omega, by go_num, bt hbi bj⟩, by simp [intOf]; omega⟩
        · obtain rfl : i = nd := by omega
          clear HVA5 HVB5
          go_wp2_with fail
          go_ret
          exact ⟨rfl, bt br hbi⟩

end Go.Proofs.YtmcaejooaaahdaaGreat

namespace Go.Proofs.YtmcaejooaaahdaaGreat
open Go.RowKit

set_option maxHeartbeats 1000000 in
theorem refBytes_ok (s h z : Nat) (v : Value) (n : Nat) (f : Nat → Nat) (w : World) (hd : Byts w v n f) (hx : Crc.wrongB s h z n = 0) :
    Calls Tryz.prog 95 #[.agg #[.int .i64 (s : Int), .int .i64 (h : Int), .int .i64 (z : Int), v]] w fun e w' => ∃ v', e = .returned (.tuple #[v', .int .i64 0]) ∧ Made w' w.heap.size v' (n + 11) (Crc.enc s h z n f) ∧ Below w.heap.size w w' := by
  obtain ⟨⟨_, hs, _, hh, _, hz⟩, hn1, hn4⟩ := Crc.wrongB_inv hx
  have hf := hd.bd
  have HBD : Hid (Bd (Crc.hd s h z n f)) := Crc.hd_bd (by omega) (by omega) (by omega) (by omega) hf
  have HBE : Hid (Bd (Crc.enc s h z n f)) := Crc.enc_bd (by omega) (by omega) (by omega) (by omega) hf
  obtain ⟨b, o, cap, rfl, _, _, hc⟩ := hd.some hn1
  obtain ⟨i1, hi1, hh1⟩ := Option.map_eq_some_iff.1 Tryz.infoByte
  simp only [Prod.mk.injEq] at hh1
  obtain ⟨hy0, hy1, hy2⟩ := hh1
  have H1 := fun w' => refWrong_blk s h z (some ⟨b, o, none⟩) n cap w'
  rw [hx] at H1
  have hbx : Below w.heap.size w (w.alloc (.cells #[.int .i64 s, .int .i64 h, .int .i64 z, .slice (some ⟨b, o, none⟩) n cap] 137)) := (Below.refl _ _).alloc (Nat.le_refl _) _
  have kc := cells_new w #[.int .i64 s, .int .i64 h, .int .i64 z, .slice (some ⟨b, o, none⟩) n cap] 137
  have k0 := kc 0 _ rfl
  have k1 := kc 1 _ rfl
  have k2 := kc 2 _ rfl
  have k3 := kc 3 _ rfl
  rw [WideShapes.add_plain] at k0 k1 k2 k3
  have szx : (w.alloc (.cells #[.int .i64 s, .int .i64 h, .int .i64 z, .slice (some ⟨b, o, none⟩) n cap] 137)).heap.size = w.heap.size + 1 := by simp
  clear kc hd hx
  go_enter Tryz.func95, Tryz.ntmps95
  go_wp2_with fail
  refine (H1 _).mono ?_
  rintro e w1 ⟨rfl, b1⟩
  have hlt : w.heap.size < w1.heap.size := by have := b1.size; omega
  have K0 := (b1.cell (p := ⟨w.heap.size, 0, none⟩) (by show w.heap.size < _; omega)).trans k0
  have K1 := (b1.cell (p := ⟨w.heap.size, 0 + 1, none⟩) (by show w.heap.size < _; omega)).trans k1
  have K2 := (b1.cell (p := ⟨w.heap.size, 0 + 2, none⟩) (by show w.heap.size < _; omega)).trans k2
  have K3 := (b1.cell (p := ⟨w.heap.size, 0 + 3, none⟩) (by show w.heap.size < _; omega)).trans k3
  rw [Nat.zero_add] at K1 K2 K3
  have K3x := K3
  have b1 := bt hbx b1
  clear H1 k0 k1 k2 k3 hbx szx
  have X2 : Below w1.heap.size w1 (w1.alloc (.cells #[.int .u8 83, .int .u8 (s : Int), .int .u8 (h : Int), .int .u8 ((z : Int) / 256), .int .u8 ((z : Int) % 256), .int .u8 ((n : Int) / 256), .int .u8 ((n : Int) % 256)] 5)) := (Below.refl _ _).alloc (Nat.le_refl _) _
  have B4 : Buf (w1.alloc (.cells #[.int .u8 83, .int .u8 (s : Int), .int .u8 (h : Int), .int .u8 ((z : Int) / 256), .int .u8 ((z : Int) % 256), .int .u8 ((n : Int) / 256), .int .u8 ((n : Int) % 256)] 5)) w1.heap.size (.slice (some ⟨w1.heap.size, 0, none⟩) 7 7) 7 (Crc.hd s h z n f) := owns_lit w1 #[.int .u8 83, .int .u8 (s : Int), .int .u8 (h : Int), .int .u8 ((z : Int) / 256), .int .u8 ((z : Int) % 256), .int .u8 ((n : Int) / 256), .int .u8 ((n : Int) % 256)] 5 (by unfold maxLen; simp)
  have b3 := b1.trans (X2.mono b1.size)
  have K3 := (X2.cell (p := ⟨w.heap.size, 3, none⟩) hlt).trans K3x
  have hnew : ∀ j u, (cellsOf f n)[j]? = some u → (w1.alloc (.cells #[.int .u8 83, .int .u8 (s : Int), .int .u8 (h : Int), .int .u8 ((z : Int) / 256), .int .u8 ((z : Int) % 256), .int .u8 ((n : Int) / 256), .int .u8 ((n : Int) % 256)] 5)).cell? ((⟨b, o, none⟩ : Addr).add j) = some u := fun j u hj => by
    rcases Nat.lt_or_ge j n with h | h
    · simp [cellsOf, h] at hj
      rw [WideShapes.add_plain, (b3.cell (p := ⟨b, o + j, none⟩) (World.block_lt_of_cell? _ _ (hc j h))).trans (hc j h), ← hj]
    · simp [List.getElem?_eq_none (show (cellsOf f n).length ≤ j by simpa [cellsOf] using h)] at hj
  have h1c := cellsOf_one f n
  have hlen : (cellsOf f n).length = n * 1 := by simp [cellsOf]
  have HL := B4.lt
  have HDD : Hid (cellsOf (Crc.hd s h z n f) (7 + n) = cellsOf (Crc.hd s h z n f) 7 ++ cellsOf f n) := hd_data s h z n f
  have s3 := X2.size
  clear hc
  go_wp2_with (at_builtin; go_loud (refine wpList_append_own _ rfl (.tmp 38) (.tmp 40) 59 rfl w1.heap.size 5 i1 (.int .u8 0) 1 1 Tryz.underlying59 hi1 hy0 hy1 hy2 rfl (by decide) _ _ _ rfl B4 ⟨b, o, none⟩ n cap (cellsOf f n) rfl hlen hnew h1c (by unfold maxLen; omega) (by omega) s3 ?_; intro v4 w4 hown4 hgrow4 _))
  have B5 : Buf w4 w1.heap.size v4 (7 + n) (Crc.hd s h z n f) := by
    unfold Buf
    rw [HDD.out]
    exact hown4
  have c4 := X2.grown hgrow4 s3 (fun y hy => (HL y hy).1)
  have Y4 := (B5.made HBD.out (by omega)).byts HBD.out
  have H5 := refSum_any v4 (7 + n) _ w4 Y4
  have hsl : Crc.sum (Crc.hd s h z n f) (7 + n) < 4294967296 := Crc.sum_lt HBD.out _
  have HE : Hid (∀ k, then4 (Crc.hd s h z n f) (7 + n) (Crc.sum (Crc.hd s h z n f) (7 + n)) k = Crc.enc s h z n f k) := then4_enc s h z n f
  generalize Crc.sum (Crc.hd s h z n f) (7 + n) = S at H5 hsl HE
  have HB5 : Hid (Buf w4 w1.heap.size v4 (7 + n) (then4 (Crc.hd s h z n f) (7 + n) S)) := B5.congr (fun k hk => by unfold then4; rw [if_pos hk])
  clear hown4 B5 Y4 HDD B4 hnew K3 hgrow4 HL h1c hlen
  refine H5.mono ?_
  rintro e w5 ⟨rfl, rfl⟩
  clear H5
  go_wp2_with fail
  go_loopw [5, 6, 7] (fun u y x wr => ∃ k : Nat, k ≤ 4 ∧ x = .int .i64 k ∧ y = .int .u32 (S / 256 ^ k : Nat) ∧ Buf wr w1.heap.size u (7 + n + k) (then4 (Crc.hd s h z n f) (7 + n) S) ∧ Below w1.heap.size w1 wr) (fun _ _ x _ => 4 - (intOf x).toNat)
  case atStart => exact ⟨0, Nat.zero_le _, rfl, by rw [Nat.pow_zero, Nat.div_one], HB5.out, c4⟩
  case round =>
    obtain ⟨k, hk, rfl, rfl, HB, hb⟩ := hrel
    by_cases hlk : k < 4
    · have hlk' : (k : Int) < 4 := by omega
      have HLW : Hid (Crc.low S k = S / 256 ^ k % 256) := rfl
      have HST : Hid (S / 256 ^ k / 256 = S / 256 ^ (k + 1)) := by
        show S / 256 ^ k / 256 = _
        rw [Nat.div_div_eq_div_mul, Nat.pow_succ]
      have hSk : S / 256 ^ k < 4294967296 := Nat.lt_of_le_of_lt (Nat.div_le_self _ _) hsl
      generalize S / 256 ^ k = x at HLW HST hSk
      have HO := HB.below ((Below.refl _ _).alloc (Nat.le_refl _) (.cells #[.int .u8 ((x : Int) % 256)] 5))
      have hbx : Below w1.heap.size w1 (wr.alloc (.cells #[.int .u8 ((x : Int) % 256)] 5)) := hb.alloc hb.size _
      have HL := HB.lt
      have cn := cells_new wr #[.int .u8 ((x : Int) % 256)] 5
      have sX := hbx.size
      go_wp2_with (at_builtin; go_loud (refine wpList_append_own _ rfl (.tmp 48) (.tmp 52) 59 rfl w1.heap.size 5 i1 (.int .u8 0) 1 1 Tryz.underlying59 hi1 hy0 hy1 hy2 rfl (by decide) _ _ _ rfl HO ⟨wr.heap.size, 0, none⟩ 1 1 [.int .u8 ((x : Int) % 256)] rfl rfl cn (by intro u hu; simp at hu; subst hu; rfl) (by unfold maxLen; omega) (by omega) sX ?_; intro v6 w6 hown6 hgrow6 _))
      refine ⟨⟨k + 1, by omega, by go_num, val_int (by rw [← HST.out]; rfl), buf_one (n := 7 + n + k) hown6 (y := Crc.low S k) (by rw [HLW.out]; rfl) ?_, hbx.grown hgrow6 sX (fun y hy => (HL y hy).1)⟩, by simp [intOf]; omega⟩
      unfold then4
      rw [if_neg (by omega), Nat.add_sub_cancel_left]
    · have e8 : k = 4 := by omega
      subst e8
      have HM : Hid (∀ v' w', Buf w' w1.heap.size v' (7 + n + 4) (then4 (Crc.hd s h z n f) (7 + n) S) → Made w' w.heap.size v' (n + 11) (Crc.enc s h z n f)) := fun v' w' B7 => by
        have := (B7.congr (fun k _ => HE.out k)).made HBE.out (by omega)
        rw [show 7 + n + 4 = n + 11 by omega] at this
        exact this.lower b1.size
      go_wp2_with fail
      go_ret2
      exact ⟨_, rfl, HM.out _ _ HB, b1.trans (hb.mono b1.size)⟩

end Go.Proofs.YtmcaejooaaahdaaGreat

namespace Go.Proofs.YtmcaejooaaahdaaGreat
open Go.RowKit


set_option maxHeartbeats 400000 in
theorem refParse_bad (v : Value) (n : Nat) (g : Nat → Nat) (w : World) (h : Byts w v n g) (hx : BadForm g n) :
    Calls Tryz.prog 96 #[v] w fun e w' => e = .returned (.tuple #[.agg #[.int .i64 0, .int .i64 0, .int .i64 0, .slice none 0 0], .int .i64 2]) ∧ Below w.heap.size w w' := by
  have hl := h.len
  have hbd := h.bd
  have hb0 : Below w.heap.size w (w.alloc (.cells #[.int .i64 0, .int .i64 0, .int .i64 0, .slice none 0 0] 137)) := (Below.refl _ _).alloc (Nat.le_refl _) _
  by_cases hn : n < 12
  · obtain ⟨A, C, rfl⟩ := h.shape
    have hn' : (n : Int) < 12 := by omega
    clear hx h
    go_enter Tryz.func96, Tryz.ntmps96
    go_wp2_with fail
    go_quiet (fail)
    go_wp2_with fail
    refine bodyPost_ret (v := .tuple #[.agg #[.int .i64 0, .int .i64 0, .int .i64 0, .slice none 0 0], .int .i64 2]) (by simp [results, Tryz.results96, go_sem]) rfl ⟨rfl, ?_⟩
    exact set4_below (bdn hb0 _) (Nat.le_refl _)
  have hn' : ¬ (n : Int) < 12 := by omega
  have hnd : decide ((n : Int) < 12) = false := by simp; omega
  obtain ⟨b, o, cap, rfl, _, _, hc⟩ := h.some (by omega)
  have hc := fun i hi => (hb0.cell (p := ⟨b, o + i, none⟩) (World.block_lt_of_cell? _ _ (hc i hi))).trans (hc i hi)
  have t0 := hc 0 (by omega)
  rw [Nat.add_zero] at t0
  have hnz : (0 : Int) < (n : Int) := by omega
  by_cases h0 : g 0 = 83
  · have e0 : (((g 0 : Nat) : Int) != 83) = false := by rw [h0]; rfl
    have t5 := hc 5 (by omega)
    have t6 := hc 6 (by omega)
    have b5 := hbd 5
    have b6 := hbd 6
    have hn5 : (5 : Int) < (n : Int) := by omega
    have hn6 : (6 : Int) < (n : Int) := by omega
    have hne : ((256 * ((g 5 : Nat) : Int) + ((g 6 : Nat) : Int)) != (n : Int) - 11) = true := by
      rw [bne_iff_ne]
      unfold BadForm at hx
      omega
    clear hx h hc
    go_enter Tryz.func96, Tryz.ntmps96
    go_wp2_with fail
    go_quiet (fail)
    go_wp2_with fail
    refine bodyPost_ret (v := .tuple #[.agg #[.int .i64 0, .int .i64 0, .int .i64 0, .slice none 0 0], .int .i64 2]) (by simp [results, Tryz.results96, go_sem]) rfl ⟨rfl, ?_⟩
    exact set4_below (bdn hb0 _) (Nat.le_refl _)
  · have e0 : (((g 0 : Nat) : Int) != 83) = true := by rw [bne_iff_ne]; omega
    clear hx h hc
    go_enter Tryz.func96, Tryz.ntmps96
    go_wp2_with fail
    go_quiet (fail)
    go_wp2_with fail
    refine bodyPost_ret (v := .tuple #[.agg #[.int .i64 0, .int .i64 0, .int .i64 0, .slice none 0 0], .int .i64 2]) (by simp [results, Tryz.results96, go_sem]) rfl ⟨rfl, ?_⟩
    exact set4_below (bdn hb0 _) (Nat.le_refl _)

end Go.Proofs.YtmcaejooaaahdaaGreat
