/-
  Texts of the proof, joined: HSame, OpenV, OpenI, HOpen, HOnce.
-/
import Derived.Test.YtldjieplbeflfaaGreatZ50
import Derived.BigQuiet
import Derived.Deep.Cut
import Derived.Test.YtldjieplbeflfaaGreatZ40
import Derived.Test.YtldjieplbeflfaaGreatZ18
import Derived.Lib.SmallJoins
import Derived.Test.YtldjieplbeflfaaGreatZ08
import Derived.ChangeSlices
import Derived.Test.YtldjieplbeflfaaGreatZ47
import Derived.WideKeyPair
namespace Go.Proofs.YtldjieplbeflfaaGreat
open Go.RowKit

theorem setup_same (a b c : Int) (w : World) : (binOp .neq 23 (.agg #[.int .i64 a, .int .i64 b, .int .i64 c]) (.agg #[.int .i64 a, .int .i64 b, .int .i64 c])).run Tryz.prog w = .ok (.bool false) w := by
  have u3 := Tryz.underlying3
  have a3 := Tryz.isAgg3
  have z3 := Tryz.sizeOf3
  have hS : Tryz.prog.underlying 23 = some (.struct (Tryz.prog.fieldsOf 23)) := by kernel_rfl
  have hp : Tryz.prog.stoodInHeld 23 = false := by kernel_rfl
  rw [run_neq_struct, show (10000 : Nat) = 9999 + 1 from rfl, run_equalIn_agg w 9999 23 _ _ hS hp]
  simp only [Program.fieldsOf, Tryz.underlying23]
  go_simp
theorem Tell.yes {e : Ending} {P : Prop} (h : Tell e P) (hp : P) : e = .returned (.bool true) := by
  obtain ⟨y, rfl, hy⟩ := h
  rw [hy.2 hp]
/-! ### What stands as it was -/
theorem two_vars {w0 : World} {t t' : TypeId} {p q c d : Value} : VarN ((w0.alloc (.cells #[p, q] t)).alloc (.cells #[c, d] t')) w0.heap.size t [p, q] ∧ VarN ((w0.alloc (.cells #[p, q] t)).alloc (.cells #[c, d] t')) (w0.heap.size + 1) t' [c, d] ∧ Below w0.heap.size w0 ((w0.alloc (.cells #[p, q] t)).alloc (.cells #[c, d] t')) := by
  have b1 : Below w0.heap.size w0 (w0.alloc (.cells #[p, q] t)) := (Below.refl _ _).alloc (Nat.le_refl _) _
  have V := varN_new (w0.alloc (.cells #[p, q] t)) #[c, d] t'
  rw [show (w0.alloc (.cells #[p, q] t)).heap.size = w0.heap.size + 1 by simp] at V
  exact ⟨(varN_new w0 #[p, q] t).below ((Below.refl _ _).alloc (Nat.le_refl _) _), V, b1.alloc b1.size _⟩

set_option maxHeartbeats 4000000 in
set_option maxRecDepth 100000 in
theorem same_sto (x y z g u : Int) (vd vt vs va vd' vt' vs' va' : Value) (s : Sto.St) (w : World) (h : StIn w vd vt vs va s) (h' : StIn w vd' vt' vs' va' s) :
    Calls Tryz.prog 14 #[.agg #[.int .i64 x, .int .i64 y, .int .i64 z, vd, .int .i64 g, vt, vs, .int .i64 u, va], .agg #[.int .i64 x, .int .i64 y, .int .i64 z, vd', .int .i64 g, vt', vs', .int .i64 u, va']] w fun e w' => e = .returned (.bool true) ∧ Below w.heap.size w w' := by
  have hst := setup_same x y z
  have HT : Hid (∀ w', Below w.heap.size w w' → Calls Tryz.prog 23 #[vt, vt'] w' fun e w2 => e = .returned (.bool true) ∧ Below w'.heap.size w' w2) := fun w' hb => (sameBat_any vt vt' s.tail s.tail w' (h.tl.below hb) (h'.tl.below hb)).mono fun e w2 q => ⟨q.1.yes rfl, by
    obtain ⟨m, rfl⟩ := q.2
    exact drewN_below w' m⟩
  have HV : Hid (∀ w', Below w.heap.size w w' → Calls Tryz.prog 17 #[.agg #[.int .i64 u, va], .agg #[.int .i64 u, va']] w' fun e w2 => e = .returned (.bool true) ∧ Below w'.heap.size w' w2) := fun w' hb => (sameView_any u u va va' s.acc s.acc w' (h.ac.below hb) (h'.ac.below hb)).mono fun e w2 q => ⟨q.1.yes ⟨rfl, rfl⟩, q.2⟩
  obtain ⟨⟨Ad, Cd, rfl, hd1, hd2, hd⟩, ht, ⟨As, Cs, rfl, hs1, hs2, hs⟩, ha⟩ := h
  obtain ⟨⟨Bd, Ed, rfl, kd1, kd2, kd⟩, ht', ⟨Bs, Es, rfl, ks1, ks2, ks⟩, ha'⟩ := h'
  obtain ⟨At, Ct, rfl⟩ := ht.shape
  obtain ⟨At', Ct', rfl⟩ := ht'.shape
  obtain ⟨Aa, Ca, rfl⟩ := ha.shape
  obtain ⟨Aa', Ca', rfl⟩ := ha'.shape
  have HD : Hid (∀ i x, s.disks[i]? = some x → ∃ b o, Ad = some ⟨b, o, none⟩ ∧ DkIn w b (o + i * 2) x) := hd
  have KD : Hid (∀ i x, s.disks[i]? = some x → ∃ b o, Bd = some ⟨b, o, none⟩ ∧ DkIn w b (o + i * 2) x) := kd
  have HS : Hid (∀ i x, s.seen[i]? = some x → ∃ b o, As = some ⟨b, o, none⟩ ∧ w.cell? ⟨b, o + i, none⟩ = some (.int .i64 x)) := hs
  have KS : Hid (∀ i x, s.seen[i]? = some x → ∃ b o, Bs = some ⟨b, o, none⟩ ∧ w.cell? ⟨b, o + i, none⟩ = some (.int .i64 x)) := ks
  have hd2 : Cd ≤ 9223372036854775807 := by unfold maxLen at hd2; exact hd2
  have hs2 : Cs ≤ 9223372036854775807 := by unfold maxLen at hs2; exact hs2
  have kd2 : Ed ≤ 9223372036854775807 := by unfold maxLen at kd2; exact kd2
  have ks2 : Es ≤ 9223372036854775807 := by unfold maxLen at ks2; exact ks2
  clear ht ht' ha ha' hd kd hs ks
  obtain ⟨nd, hnd⟩ : ∃ n, n = s.disks.length := ⟨_, rfl⟩
  obtain ⟨ns, hns⟩ : ∃ n, n = s.seen.length := ⟨_, rfl⟩
  obtain ⟨nt, hnt⟩ : ∃ n, n = s.tail.length := ⟨_, rfl⟩
  obtain ⟨na, hna⟩ : ∃ n, n = s.acc.length := ⟨_, rfl⟩
  rw [← hnd] at hd1 kd1 ⊢
  rw [← hns] at hs1 ks1 ⊢
  rw [← hnt] at HT ⊢
  rw [← hna] at HV ⊢
  have HND : Hid (nd = s.disks.length) := hnd
  have HNS : Hid (ns = s.seen.length) := hns
  clear hnd hns hnt hna
  have b1 : Below w.heap.size w (w.alloc (.cells #[.int .i64 x, .int .i64 y, .int .i64 z, .slice Ad nd Cd, .int .i64 g, .slice At nt Ct, .slice As ns Cs, .int .i64 u, .slice Aa na Ca] 33)) := (Below.refl _ _).alloc (Nat.le_refl _) _
  have b2 : Below (w.alloc (.cells #[.int .i64 x, .int .i64 y, .int .i64 z, .slice Ad nd Cd, .int .i64 g, .slice At nt Ct, .slice As ns Cs, .int .i64 u, .slice Aa na Ca] 33)).heap.size (w.alloc (.cells #[.int .i64 x, .int .i64 y, .int .i64 z, .slice Ad nd Cd, .int .i64 g, .slice At nt Ct, .slice As ns Cs, .int .i64 u, .slice Aa na Ca] 33)) ((w.alloc (.cells #[.int .i64 x, .int .i64 y, .int .i64 z, .slice Ad nd Cd, .int .i64 g, .slice At nt Ct, .slice As ns Cs, .int .i64 u, .slice Aa na Ca] 33)).alloc (.cells #[.int .i64 x, .int .i64 y, .int .i64 z, .slice Bd nd Ed, .int .i64 g, .slice At' nt Ct', .slice Bs ns Es, .int .i64 u, .slice Aa' na Ca'] 33)) := (Below.refl _ _).alloc (Nat.le_refl _) _
  have VA := (varN_new w #[.int .i64 x, .int .i64 y, .int .i64 z, .slice Ad nd Cd, .int .i64 g, .slice At nt Ct, .slice As ns Cs, .int .i64 u, .slice Aa na Ca] 33).below b2
  have VB := varN_new (w.alloc (.cells #[.int .i64 x, .int .i64 y, .int .i64 z, .slice Ad nd Cd, .int .i64 g, .slice At nt Ct, .slice As ns Cs, .int .i64 u, .slice Aa na Ca] 33)) #[.int .i64 x, .int .i64 y, .int .i64 z, .slice Bd nd Ed, .int .i64 g, .slice At' nt Ct', .slice Bs ns Es, .int .i64 u, .slice Aa' na Ca'] 33
  rw [show (w.alloc (.cells #[.int .i64 x, .int .i64 y, .int .i64 z, .slice Ad nd Cd, .int .i64 g, .slice At nt Ct, .slice As ns Cs, .int .i64 u, .slice Aa na Ca] 33)).heap.size = w.heap.size + 1 by simp] at VB
  have b2 := bt b1 b2
  go_enter Tryz.func14, Tryz.ntmps14
  go_upto_region 1 with fail
  generalize (w.alloc (.cells #[.int .i64 x, .int .i64 y, .int .i64 z, .slice Ad nd Cd, .int .i64 g, .slice At nt Ct, .slice As ns Cs, .int .i64 u, .slice Aa na Ca] 33)).alloc (.cells #[.int .i64 x, .int .i64 y, .int .i64 z, .slice Bd nd Ed, .int .i64 g, .slice At' nt Ct', .slice Bs ns Es, .int .i64 u, .slice Aa' na Ca'] 33) = w2 at *
  have HT2 := HT.out w2 b2
  have HVA : Hid (VarN w2 w.heap.size 33 #[.int .i64 x, .int .i64 y, .int .i64 z, .slice Ad nd Cd, .int .i64 g, .slice At nt Ct, .slice As ns Cs, .int .i64 u, .slice Aa na Ca].toList) := VA
  have HVB : Hid (VarN w2 (w.heap.size + 1) 33 #[.int .i64 x, .int .i64 y, .int .i64 z, .slice Bd nd Ed, .int .i64 g, .slice At' nt Ct', .slice Bs ns Es, .int .i64 u, .slice Aa' na Ca'].toList) := VB
  have a0 := VA.cell (i := 0) rfl
  have a1 := VA.cell (i := 1) rfl
  have a2 := VA.cell (i := 2) rfl
  have a3 := VA.cell (i := 3) rfl
  have a4 := VA.cell (i := 4) rfl
  have a5 := VA.cell (i := 5) rfl
  have a6 := VA.cell (i := 6) rfl
  have d0 := VB.cell (i := 0) rfl
  have d1 := VB.cell (i := 1) rfl
  have d2 := VB.cell (i := 2) rfl
  have d3 := VB.cell (i := 3) rfl
  have d4 := VB.cell (i := 4) rfl
  have d5 := VB.cell (i := 5) rfl
  have d6 := VB.cell (i := 6) rfl
  clear VA VB b1
  go_wp2_with fail
  refine HT2.mono ?_
  rintro e w3 ⟨rfl, b3⟩
  clear a0 a1 a2 a3 a4 a5 a6 d0 d1 d2 d3 d4 d5 d6 HT2 hst
  have b03 := bt b2 b3
  have HV3 := HV.out w3 b03
  have a7 := (HVA.out.below b3).cell (i := 7) rfl
  have a8 := (HVA.out.below b3).cell (i := 8) rfl
  have d7 := (HVB.out.below b3).cell (i := 7) rfl
  have d8 := (HVB.out.below b3).cell (i := 8) rfl
  go_wp2_with fail
  refine HV3.mono ?_
  rintro e w4 ⟨rfl, b4⟩
  have b24 := bt b3 b4
  have b04 := bt b03 b4
  have HVA4 : Hid (VarN w4 w.heap.size 33 #[.int .i64 x, .int .i64 y, .int .i64 z, .slice Ad nd Cd, .int .i64 g, .slice At nt Ct, .slice As ns Cs, .int .i64 u, .slice Aa na Ca].toList) := HVA.out.below b24
  have HVB4 : Hid (VarN w4 (w.heap.size + 1) 33 #[.int .i64 x, .int .i64 y, .int .i64 z, .slice Bd nd Ed, .int .i64 g, .slice At' nt Ct', .slice Bs ns Es, .int .i64 u, .slice Aa' na Ca'].toList) := HVB.out.below b24
  clear a7 a8 d7 d8 HV3 HT HV HVA HVB b3 b4 b24 b03 b2
  have a6 := HVA4.out.cell (i := 6) rfl
  go_wp2_with fail
  clear a6
  go_loopw [59] (fun x wr => ∃ k : Nat, k ≤ ns ∧ x = .int .i64 k ∧ Below w4.heap.size w4 wr) (fun x _ => ns - (intOf x).toNat)
  case atStart => exact ⟨0, Nat.zero_le _, rfl, Below.refl _ _⟩
  case round =>
    obtain ⟨k, hk, rfl, hbr⟩ := hrel
    by_cases hlt : k < ns
    · have hlt' : (k : Int) < (ns : Int) := by omega
      obtain ⟨q, hq⟩ : ∃ q, s.seen[k]? = some q := ⟨s.seen[k]'(by rw [← HNS.out]; exact hlt), List.getElem?_eq_getElem _⟩
      obtain ⟨b, o, rfl, r0⟩ := HS.out k q hq
      obtain ⟨b', o', rfl, r0'⟩ := KS.out k q hq
      have br := bt b04 hbr
      have e0 := (br.cell (p := ⟨b, o + k, none⟩) (World.block_lt_of_cell? _ _ r0)).trans r0
      have e0' := (br.cell (p := ⟨b', o' + k, none⟩) (World.block_lt_of_cell? _ _ r0')).trans r0'
      have a6 := (HVA4.out.below hbr).cell (i := 6) rfl
      have d6 := (HVB4.out.below hbr).cell (i := 6) rfl
      have hne : (q != q) = false := by simp
      clear r0 r0' hq
      go_wp2_with fail
      go_quiet (fail)
      go_wp2_with fail
      exact ⟨⟨k + 1, by omega, by go_num, bdn hbr _⟩, by simp [intOf]; omega⟩
    · obtain rfl : k = ns := by omega
      have br := bt b04 hbr
      obtain ⟨w5, hw5⟩ : ∃ y, y = wr := ⟨wr, rfl⟩
      rw [← hw5] at hbr br ⊢
      clear hw5
      have HVA5 : Hid (VarN w5 w.heap.size 33 #[.int .i64 x, .int .i64 y, .int .i64 z, .slice Ad nd Cd, .int .i64 g, .slice At nt Ct, .slice As k Cs, .int .i64 u, .slice Aa na Ca].toList) := HVA4.out.below hbr
      have HVB5 : Hid (VarN w5 (w.heap.size + 1) 33 #[.int .i64 x, .int .i64 y, .int .i64 z, .slice Bd nd Ed, .int .i64 g, .slice At' nt Ct', .slice Bs k Es, .int .i64 u, .slice Aa' na Ca'].toList) := HVB4.out.below hbr
      have a3 := HVA5.out.cell (i := 3) rfl
      clear HVA4 HVB4 HS KS b04 hbr
      go_wp2_with fail
      clear a3
      go_loopw [77] (fun x wi => ∃ i : Nat, i ≤ nd ∧ x = .int .i64 i ∧ Below w5.heap.size w5 wi) (fun x _ => nd - (intOf x).toNat)
      case atStart => exact ⟨0, Nat.zero_le _, rfl, Below.refl _ _⟩
      case round =>
        obtain ⟨i, hi, rfl, hbi⟩ := hrel
        by_cases hlt : i < nd
        · have hlt' : (i : Int) < (nd : Int) := by omega
          obtain ⟨q, hq⟩ : ∃ q, s.disks[i]? = some q := ⟨s.disks[i]'(by rw [← HND.out]; exact hlt), List.getElem?_eq_getElem _⟩
          have bi := bt br hbi
          obtain ⟨b, o, rfl, r0⟩ := HD.out i q hq
          obtain ⟨b', o', rfl, r0'⟩ := KD.out i q hq
          obtain ⟨v1, e0, e1, hh1⟩ := r0.below bi
          obtain ⟨v2, e0', e1', hh2⟩ := r0'.below bi
          obtain ⟨A1, C1, rfl, g1, g2, hh1⟩ := hh1
          obtain ⟨A2, C2, rfl, g1', g2', hh2⟩ := hh2
          obtain ⟨nq, hnq⟩ : ∃ n, n = q.bl.length := ⟨_, rfl⟩
          rw [← hnq] at e1 e1' g1 g1'
          have g2 : C1 ≤ 9223372036854775807 := by unfold maxLen at g2; exact g2
          have g2' : C2 ≤ 9223372036854775807 := by unfold maxLen at g2'; exact g2'
          have HH1 : Hid (∀ i x, q.bl[i]? = some x → ∃ b o, A1 = some ⟨b, o, none⟩ ∧ HdIn wr b (o + i * 2) x) := hh1
          have HH2 : Hid (∀ i x, q.bl[i]? = some x → ∃ b o, A2 = some ⟨b, o, none⟩ ∧ HdIn wr b (o + i * 2) x) := hh2
          have HNQ : Hid (nq = q.bl.length) := hnq
          obtain ⟨gq, hgq⟩ : ∃ y, y = q.gone := ⟨_, rfl⟩
          rw [← hgq] at e0 e0'
          clear hh1 hh2 hnq hgq r0 r0' hq
          obtain ⟨wo, hwo⟩ : ∃ y, y = wr := ⟨wr, rfl⟩
          rw [← hwo] at hbi bi e0 e0' e1 e1' HH1 HH2 ⊢
          clear hwo
          have a3 := (HVA5.out.below hbi).cell (i := 3) rfl
          have d3 := (HVB5.out.below hbi).cell (i := 3) rfl
          go_upto_region 12 with fail
          go_cut [7, 8] from 80 to 89 (fun p7 p8 wx => ∃ P Q, p7 = .pointer (some ⟨P, 0, none⟩) ∧ p8 = .pointer (some ⟨Q, 0, none⟩) ∧ VarN wx P 52 [.bool gq, .slice A1 nq C1] ∧ VarN wx Q 52 [.bool gq, .slice A2 nq C2] ∧ Below wo.heap.size wo wx)
          case first =>
            have HSo : ∀ w', Below wo.heap.size wo w' → (w'.cell? ⟨w.heap.size, 3, none⟩ = some (.slice (some ⟨b, o, none⟩) nd Cd) ∧ w'.cell? ⟨w.heap.size + 1, 3, none⟩ = some (.slice (some ⟨b', o', none⟩) nd Ed) ∧ w'.cell? ⟨b, o + i * 2, none⟩ = some (.bool gq) ∧ w'.cell? ⟨b, o + i * 2 + 1, none⟩ = some (.slice A1 nq C1) ∧ w'.cell? ⟨b', o' + i * 2, none⟩ = some (.bool gq) ∧ w'.cell? ⟨b', o' + i * 2 + 1, none⟩ = some (.slice A2 nq C2)) ∧ Below wo.heap.size wo w' := fun w' hb => ⟨⟨(hb.cell (p := ⟨w.heap.size, 3, none⟩) (World.block_lt_of_cell? _ _ a3)).trans a3, (hb.cell (p := ⟨w.heap.size + 1, 3, none⟩) (World.block_lt_of_cell? _ _ d3)).trans d3, (hb.cell (p := ⟨b, o + i * 2, none⟩) (World.block_lt_of_cell? _ _ e0)).trans e0, (hb.cell (p := ⟨b, o + i * 2 + 1, none⟩) (World.block_lt_of_cell? _ _ e1)).trans e1, (hb.cell (p := ⟨b', o' + i * 2, none⟩) (World.block_lt_of_cell? _ _ e0')).trans e0', (hb.cell (p := ⟨b', o' + i * 2 + 1, none⟩) (World.block_lt_of_cell? _ _ e1')).trans e1'⟩, hb⟩
            have bA1 : ∀ x, Below wo.heap.size wo (wo.alloc x).drew := fun x => ((Below.refl _ _).alloc (Nat.le_refl _) _).drew
            have bA2 : ∀ x y, Below wo.heap.size wo ((wo.alloc x).alloc y).drew := fun x y => (((Below.refl _ _).alloc (Nat.le_refl _) _).alloc ((Below.refl wo.heap.size wo).alloc (Nat.le_refl _) x).size _).drew
            have TD := HSo wo.drew (Below.refl _ _).drew
            go_region_held3 (fun w' => (w'.cell? ⟨w.heap.size, 3, none⟩ = some (.slice (some ⟨b, o, none⟩) nd Cd) ∧ w'.cell? ⟨w.heap.size + 1, 3, none⟩ = some (.slice (some ⟨b', o', none⟩) nd Ed) ∧ w'.cell? ⟨b, o + i * 2, none⟩ = some (.bool gq) ∧ w'.cell? ⟨b, o + i * 2 + 1, none⟩ = some (.slice A1 nq C1) ∧ w'.cell? ⟨b', o' + i * 2, none⟩ = some (.bool gq) ∧ w'.cell? ⟨b', o' + i * 2 + 1, none⟩ = some (.slice A2 nq C2)) ∧ Below wo.heap.size wo w')
              (first | with_reducible exact TD | with_reducible assumption | with_reducible exact HSo _ (bA1 _) | with_reducible exact HSo _ (bA2 _ _))
              (fail)
            all_goals go_wp2_with fail
            all_goals go_meet
            · obtain ⟨q1, q2, q3⟩ := two_vars (w0 := wo) (t := 52) (t' := 52) (p := .bool gq) (q := .slice A1 nq C1) (c := .bool gq) (d := .slice A2 nq C2)
              exact ⟨_, _, rfl, rfl, q1.below (Below.refl _ _).drew, q2.below (Below.refl _ _).drew, q3.drew⟩
            · obtain ⟨q1, q2, q3⟩ := two_vars (w0 := wo) (t := 52) (t' := 52) (p := .bool gq) (q := .slice A2 nq C2) (c := .bool gq) (d := .slice A1 nq C1)
              exact ⟨_, _, rfl, rfl, q2.below (Below.refl _ _).drew, q1.below (Below.refl _ _).drew, q3.drew⟩
          case rest =>
            obtain ⟨P, Q, rfl, rfl, VP, VQ, bc⟩ := hcut
            obtain ⟨w6, hw6⟩ : ∃ y, y = wc := ⟨wc, rfl⟩
            rw [← hw6] at VP VQ bc ⊢
            have HP6 : Hid (VarN w6 P 52 [.bool gq, .slice A1 nq C1]) := VP
            have HQ6 : Hid (VarN w6 Q 52 [.bool gq, .slice A2 nq C2]) := VQ
            have p0 := VP.cell (i := 0) rfl
            have p1 := VP.cell (i := 1) rfl
            have q0 := VQ.cell (i := 0) rfl
            have q1 := VQ.cell (i := 1) rfl
            have hgg : (gq != gq) = false := by cases gq <;> rfl
            clear hw6 VP VQ a3 d3 e0 e0' e1 e1'
            go_wp2_with fail
            clear p0 p1 q0 q1 hgg
            go_loopw [107] (fun x wi => ∃ j : Nat, j ≤ nq ∧ x = .int .i64 j ∧ Below w6.heap.size w6 wi) (fun x _ => nq - (intOf x).toNat)
            case atStart => exact ⟨0, Nat.zero_le _, rfl, Below.refl _ _⟩
            case round =>
              obtain ⟨j, hj, rfl, hbj⟩ := hrel
              have bj := bt bc hbj
              by_cases hltj : j < nq
              · have hltj' : (j : Int) < (nq : Int) := by omega
                obtain ⟨⟨sg, by9⟩, hq⟩ : ∃ q', q.bl[j]? = some q' := ⟨q.bl[j]'(by rw [← HNQ.out]; exact hltj), List.getElem?_eq_getElem _⟩
                obtain ⟨bb, oo, rfl, r0⟩ := HH1.out j _ hq
                obtain ⟨bb', oo', rfl, r0'⟩ := HH2.out j _ hq
                obtain ⟨v1, e0, e1, y1⟩ := r0.below bj
                obtain ⟨v2, e0', e1', y2⟩ := r0'.below bj
                have x1 := fun n => convL (y1.below (drewN_below wr n))
                have x2 := fun n => convL (y2.below (drewN_below wr n))
                obtain ⟨_, A3, C3, rfl, _⟩ := y1
                obtain ⟨_, A4, C4, rfl, _⟩ := y2
                have p1 := (HP6.out.below hbj).cell (i := 1) rfl
                have q1 := (HQ6.out.below hbj).cell (i := 1) rfl
                have e0 : wr.cell? ⟨bb, oo + j * 2, none⟩ = some (.int .i64 sg) := e0
                have e0' : wr.cell? ⟨bb', oo' + j * 2, none⟩ = some (.int .i64 sg) := e0'
                have hsg : (sg != sg) = false := by simp
                generalize hS9 : strL by9 = S9 at x1 x2
                have hss : (S9.toList == S9.toList) = true := by simp
                obtain ⟨n9, hn9⟩ : ∃ n, n = by9.length := ⟨_, rfl⟩
                clear r0 r0' hq hS9
                go_wp2_with fail
                go_quiet (fail)
                go_wp2_with fail
                exact ⟨⟨j + 1, by omega, by go_num, bdn hbj _⟩, by simp [intOf]; omega⟩
              · obtain rfl : j = nq := by omega
                clear HP6 HQ6 HH1 HH2 HNQ
                go_wp2_with fail
                exact ⟨⟨i + 1, by omega, by go_num, bt hbi bj⟩, by simp [intOf]; omega⟩
        · obtain rfl : i = nd := by omega
          clear HVA5 HVB5
          go_wp2_with fail
          go_ret
          exact ⟨rfl, bt br hbi⟩

end Go.Proofs.YtldjieplbeflfaaGreat

namespace Go.Proofs.YtldjieplbeflfaaGreat
open Go.ChangeShapes Go.WideShapes Go.ChangeAt Go.RowKit

set_option maxRecDepth 100000 in
theorem string_of {H : Type} {enc : TypeId × Value → H} {W : World} {r : Reach} {b0 : Nat} {v : Value} {d : DataW H} {ps : List MemPlace} (hv : Value.okWide Tryz.prog W r b0 9 v) (h : DataW.Trod enc Tryz.prog W 0 (fun _ => true) true 9 v d ps) :
    ∃ s : ByteArray, v = .string s ∧ s.size ≤ maxLen := by
  obtain ⟨s, rfl⟩ := okWide_string Tryz.underlying9 hv
  obtain ⟨fuel, hf⟩ := h
  obtain ⟨s', e, _, hs⟩ := DataW.trod_string Tryz.underlying9 hf
  simp only [Value.cells, List.cons.injEq, and_true, Value.string.injEq] at e
  subst e
  exact ⟨s, rfl, hs⟩

end Go.Proofs.YtldjieplbeflfaaGreat

namespace Go.Proofs.YtldjieplbeflfaaGreat
open Go.ChangeShapes Go.WideShapes Go.ChangeAt Go.RowKit

/-- A list of n numbers. -/
structure Ints (w : World) (v : Value) (n : Nat) (Z : Nat → Int) : Prop where
  lies : ∃ (A : Option Addr) (cap : Nat), v = .slice A n cap ∧ ∀ i, i < n → ∃ b o, A = some ⟨b, o, none⟩ ∧ w.cell? ⟨b, o + i, none⟩ = some (.int .i64 (Z i))

end Go.Proofs.YtldjieplbeflfaaGreat

namespace Go.Proofs.YtldjieplbeflfaaGreat
open Go.ChangeShapes Go.WideShapes Go.ChangeAt Go.RowKit

theorem choose_any {α : Type} (a0 : α) {n : Nat} {P : Nat → α → Prop} (h : ∀ i, i < n → ∃ q, P i q) : ∃ q : Nat → α, ∀ i, i < n → P i (q i) :=
  ⟨fun i => if hi : i < n then Classical.choose (h i hi) else a0, fun i hi => by
    simp only [dif_pos hi]
    exact Classical.choose_spec (h i hi)⟩
def do0 : Sto.Do := ⟨0, 0, 0, 0, 0, ⟨0, []⟩, [], 0⟩
theorem list9 {α : Type} {l : List α} (h : l.length = 9) : ∃ c0 c1 c2 c3 c4 c5 c6 c7 c8, l = [c0, c1, c2, c3, c4, c5, c6, c7, c8] := by
  match l, h with
  | [c0, c1, c2, c3, c4, c5, c6, c7, c8], _ => exact ⟨c0, c1, c2, c3, c4, c5, c6, c7, c8, rfl⟩
theorem trod_struct8 {H : Type} {enc : TypeId × Value → H} {P : Program} {w : World} {base : Nat} {spare : Nat → Bool} {held : Bool} {t : TypeId} {f0 f1 f2 f3 f4 f5 f6 f7 : Field} {fuel : Nat} {cs : List Value} {x : DataW H × List MemPlace} (ht : P.underlying t = some (.struct #[f0, f1, f2, f3, f4, f5, f6, f7])) (h : DataW.trod enc P w base spare held fuel t cs = some x) :
    ∃ y0 y1 y2 y3 y4 y5 y6 y7 n, cs.length = P.cellsOf t ∧ DataW.trod enc P w base spare held n f0.type ((cs.drop f0.offset).take (P.cellsOf f0.type)) = some y0 ∧
      DataW.trod enc P w base spare held n f1.type ((cs.drop f1.offset).take (P.cellsOf f1.type)) = some y1 ∧ DataW.trod enc P w base spare held n f2.type ((cs.drop f2.offset).take (P.cellsOf f2.type)) = some y2 ∧
      DataW.trod enc P w base spare held n f3.type ((cs.drop f3.offset).take (P.cellsOf f3.type)) = some y3 ∧ DataW.trod enc P w base spare held n f4.type ((cs.drop f4.offset).take (P.cellsOf f4.type)) = some y4 ∧
      DataW.trod enc P w base spare held n f5.type ((cs.drop f5.offset).take (P.cellsOf f5.type)) = some y5 ∧ DataW.trod enc P w base spare held n f6.type ((cs.drop f6.offset).take (P.cellsOf f6.type)) = some y6 ∧
      DataW.trod enc P w base spare held n f7.type ((cs.drop f7.offset).take (P.cellsOf f7.type)) = some y7 := by
  obtain ⟨xs, n, _, rfl, hl, hlen, hf⟩ := DataW.trod_struct ht h
  match xs, hlen with
  | [y0, y1, y2, y3, y4, y5, y6, y7], _ => exact ⟨y0, y1, y2, y3, y4, y5, y6, y7, n, hl, by simpa using hf 0 f0 rfl, by simpa using hf 1 f1 rfl, by simpa using hf 2 f2 rfl, by simpa using hf 3 f3 rfl, by simpa using hf 4 f4 rfl, by simpa using hf 5 f5 rfl, by simpa using hf 6 f6 rfl, by simpa using hf 7 f7 rfl⟩
theorem byteD_of {H : Type} {enc : TypeId × Value → H} {W : World} {base : Nat} {sp : Nat → Bool} {hd : Bool} {v : Value} {y : DataW H × List MemPlace} {fuel : Nat} (h : DataW.trod enc Tryz.prog W base sp hd fuel 5 [v] = some y) : ∃ n : Nat, n < 256 ∧ v = .int .u8 (n : Int) := by
  obtain ⟨n, e, _, hw⟩ := DataW.trod_int Tryz.underlying5 h
  simp only [List.cons.injEq, and_true] at e
  obtain ⟨b0, b1⟩ := bounds_u8 hw
  exact ⟨n.toNat, by omega, by rw [e, Int.toNat_of_nonneg b0]⟩
theorem intR_of {H : Type} {enc : TypeId × Value → H} {W : World} {base : Nat} {sp : Nat → Bool} {hd : Bool} {v : Value} {y : DataW H × List MemPlace} {fuel : Nat} (h : DataW.trod enc Tryz.prog W base sp hd fuel 3 [v] = some y) : ∃ n, v = .int .i64 n ∧ -9223372036854775808 ≤ n ∧ n ≤ 9223372036854775807 := by
  obtain ⟨n, e, _, hw⟩ := DataW.trod_int Tryz.underlying3 h
  simp only [List.cons.injEq, and_true] at e
  exact ⟨n, e, (bounds_i64 hw).1, (bounds_i64 hw).2⟩
/-- Its numbers are ints. -/
def RngD (d : Sto.Do) : Prop := (-9223372036854775808 ≤ d.n ∧ d.n ≤ 9223372036854775807) ∧ -9223372036854775808 ≤ d.seg ∧ d.seg ≤ 9223372036854775807
set_option maxRecDepth 100000 in
theorem dos_in {H : Type} {enc : TypeId × Value → H} {W : World} {v : Value} {y : DataW H × List MemPlace} {fuel : Nat} (hf : DataW.trod enc Tryz.prog W 0 (fun _ => true) true fuel 24 [v] = some y) : ∃ l, Dos W v l ∧ ∀ d, d ∈ l → RngD d := by
  have ce : Tryz.prog.cellsOf 43 = 9 := by kernel_rfl
  rcases Deep.open_slice Tryz.underlying24 hf with ⟨hcs, _⟩ | ⟨a, len, cap, m, n, D, Pl, hcs, _, hl, hm, hmm, _, hx⟩
  · simp only [List.cons.injEq, and_true] at hcs
    subst hcs
    exact ⟨[], ⟨none, 0, rfl, Nat.le_refl _, Nat.zero_le _, fun i e he => (by cases he)⟩, fun d hd => (by cases hd)⟩
  · simp only [List.cons.injEq, and_true] at hcs
    subst hcs
    simp only [if_true] at hmm
    subst hmm
    have each : ∀ i, i < m → ∃ q : Sto.Do × Value × ByteArray, RngD q.1 ∧ DoIn W q.1 q.2.1 q.2.2 ∧ ∀ j u, (doCells q.1 q.2.1 q.2.2)[j]? = some u → W.cell? (a.add (i * 9 + j)) = some u := by
      intro i hi
      obtain ⟨cs', h1, h2⟩ := hx i hi
      rw [ce] at h1
      obtain ⟨_, hlen, hcell⟩ := World.cells?_some h1
      obtain ⟨y0, y1, y2, y3, y4, y5, y6, y7, k, _, g0, g1, g2, g3, g4, g5, g6, g7⟩ := trod_struct8 Tryz.underlying43 h2
      obtain ⟨v0, v1, v2, v3, v4, v5, v6, v7, v8, rfl⟩ := list9 hlen
      have c3 : Tryz.prog.cellsOf 3 = 1 := by kernel_rfl
      have c4 : Tryz.prog.cellsOf 5 = 1 := by kernel_rfl
      have c5 : Tryz.prog.cellsOf 41 = 2 := by kernel_rfl
      have c6 : Tryz.prog.cellsOf 39 = 1 := by kernel_rfl
      have c9 : Tryz.prog.cellsOf 9 = 1 := by kernel_rfl
      simp [c3, c4, c5, c9] at g0 g1 g2 g3 g4 g5 g6 g7
      obtain ⟨z0, z1, k', _, _, g50, g51⟩ := trod_struct2 Tryz.underlying41 g5
      simp [c3, c6] at g50 g51
      obtain ⟨k0, rfl⟩ := int_of g0
      obtain ⟨k1, rfl, r1⟩ := intR_of g1
      obtain ⟨k2, rfl, r2⟩ := intR_of g2
      obtain ⟨k3, rfl⟩ := int_of g3
      obtain ⟨k4, hk4, rfl⟩ := byteD_of g4
      obtain ⟨k5, rfl⟩ := int_of g50
      obtain ⟨es, hes⟩ := evs_in g51
      obtain ⟨t, rfl, ht⟩ := str_of g6
      obtain ⟨k8, rfl⟩ := int_of g7
      refine ⟨(⟨k0, k1, k2, k3, k4, ⟨k5, es⟩, nb t, k8⟩, v6, t), ⟨r1, r2⟩, ⟨hes, rfl, ht, hk4⟩, fun j u hj => ?_⟩
      have hjl := (List.getElem?_eq_some_iff.1 hj).1
      have := hcell j (by simpa [doCells] using hjl)
      rw [Deep.add_add] at this
      exact this.trans hj
    obtain ⟨q, hq⟩ := choose_any (α := Sto.Do × Value × ByteArray) (do0, .bool false, ByteArray.empty) each
    refine ⟨(List.range len).map fun i => (q i).1, ⟨some a, m, by simp, by simpa using hl, hm, fun i e he => ?_⟩, fun d hd => ?_⟩
    rotate_left
    · obtain ⟨i, hi, rfl⟩ := List.mem_map.1 hd
      have hi := List.mem_range.1 hi
      exact (hq i (by omega)).1
    have hi : i < len := by
      have := (List.getElem?_eq_some_iff.1 he).1
      simpa using this
    simp [hi] at he
    subst he
    obtain ⟨b, o, spot⟩ := a
    have hspot : spot = none := by simpa [Addr.add] using World.cell?_spot ((hq 0 (by omega)).2.2 0 _ rfl)
    subst hspot
    obtain ⟨_, z0, z1⟩ := hq i (by omega)
    refine ⟨b, o, rfl, (q i).2.1, (q i).2.2, z0, fun j u hj => ?_⟩
    have := z1 j u hj
    rw [WideShapes.add_plain] at this
    rw [Nat.add_assoc]
    exact this
theorem dos_of {H : Type} {enc : TypeId × Value → H} {W : World} {a : Option Addr} {len cap : Nat} {d : DataW H} {ps : List MemPlace} (h : DataW.Trod enc Tryz.prog W 0 (fun _ => true) true 24 (.slice a len cap) d ps) : ∃ l, Dos W (.slice a len cap) l ∧ ∀ d, d ∈ l → RngD d := by
  obtain ⟨fuel, hf⟩ := h
  exact dos_in (fuel := fuel) (y := (d, ps)) (by simpa [Value.cells] using hf)
theorem Tryz.cellsSetup : Tryz.prog.cellsOf 23 = 3 := by kernel_rfl
set_option maxRecDepth 100000 in
theorem setup_of {H : Type} {enc : TypeId × Value → H} {W : World} {r : Reach} {b0 : Nat} {v : Value} {d : DataW H} {ps : List MemPlace} (hv : Value.okWide Tryz.prog W r b0 23 v) (h : DataW.Trod enc Tryz.prog W 0 (fun _ => true) true 23 v d ps) :
    ∃ x y z, v = .agg #[.int .i64 x, .int .i64 y, .int .i64 z] := by
  obtain ⟨v0, v1, v2, y0, y1, y2, m, rfl, _, _, t0, t1, t2⟩ := Joins.open_agg3 Tryz.underlying23 (by kernel_rfl) Tryz.cellsSetup hv h
  obtain ⟨s, rfl⟩ := int_of t0
  obtain ⟨k, rfl⟩ := int_of t1
  obtain ⟨n, rfl⟩ := int_of t2
  exact ⟨s, k, n, rfl⟩

end Go.Proofs.YtldjieplbeflfaaGreat

namespace Go.Proofs.YtldjieplbeflfaaGreat
open Go.RowKit Go.Maps

/-! ### A set of pairs -/
theorem arrP : WideMaps.ArrKey Tryz.prog 72 3 2 := ⟨Tryz.underlying72, by kernel_rfl, by kernel_rfl, by kernel_rfl⟩
theorem keyedP : Keyed Tryz.prog 72 := Keyed.of_law arrP.law
theorem Tryz.mapPB : Tryz.prog.underlying 71 = some (.map 72 4) := by kernel_rfl
theorem Tryz.typesSome : ∃ m, Tryz.prog.types.size = m + 1 := ⟨Tryz.prog.types.size - 1, by have : 0 < Tryz.prog.types.size := of_decide_eq_true (by kernel_rfl); omega⟩
def keyP (a b : Int) : Lit := .string (keyBytes [.int .i64 a, .int .i64 b])
def In64 (a : Int) : Prop := -9223372036854775808 ≤ a ∧ a ≤ 9223372036854775807
theorem keyP_of (a b : Int) (ha : In64 a) (hb : In64 b) : keyOf Tryz.prog 72 (.agg #[.int .i64 a, .int .i64 b]) = some (keyP a b) := WideMaps.keyOf_pair arrP Tryz.underlying3 Tryz.typesSome (WalkArith.wf_i64 (by unfold In64 at ha; omega)) (WalkArith.wf_i64 (by unfold In64 at hb; omega))
theorem keyP_inj {a b c d : Int} (ha : In64 a) (hb : In64 b) (hc : In64 c) (hd : In64 d) (h : keyP a b = keyP c d) : (a, b) = (c, d) := by
  have := keyedP.inj (keyP_of a b ha hb) (h ▸ keyP_of c d hc hd)
  cases this
  rfl
/-- Block b is a map that tells true of these pairs. -/
def HadP (w : World) (b m : Nat) (P : List (Int × Int)) : Prop := ∃ D : DataW Unit, w.ownsMap Tryz.prog 72 (plainElem Tryz.prog 4) b m D ∧ ∀ i j : Int, In64 i → In64 j → D.atKey (keyP i j) (.lit (.bool false)) = .lit (.bool (decide ((i, j) ∈ P)))
theorem hadP_start (w : World) : HadP (w.alloc (.map #[] 0)) w.heap.size 0 [] := ⟨.map [], World.ownsMap_made _ _ _ _, fun i j _ _ => by simp; rfl⟩
theorem HadP.look {w : World} {b m : Nat} {P : List (Int × Int)} (h : HadP w b m P) (i j : Int) (hi : In64 i) (hj : In64 j) : (Instr.lookup 71 (.map (some b)) (.agg #[.int .i64 i, .int .i64 j]) false).run Tryz.prog w = .ok (.bool (decide ((i, j) ∈ P))) w := by
  obtain ⟨D, hown, hat⟩ := h
  obtain ⟨v, ps, hrun, hv⟩ := hown.lookup keyedP Tryz.mapPB (Tryz.zeroBoolI w) (plainElem_bool Tryz.underlying4 false) (keyP_of i j hi hj)
  obtain ⟨x, rfl, hz⟩ := plainElem_boolI hv
  rw [hat i j hi hj] at hz
  simp at hz
  rw [hrun, hz.1]
theorem isMapP {w : World} {b m : Nat} {D : DataW Unit} (h : w.ownsMap Tryz.prog 72 (plainElem Tryz.prog 4) b m D) : IsMap D := by
  obtain ⟨es, clock, _, _, _, hD⟩ := h
  exact ⟨_, hD⟩
theorem HadP.put {w' : World} {b m : Nat} {x y : Int} {P : List (Int × Int)} {D : DataW Unit} (hx : In64 x) (hy : In64 y) (hat : ∀ i j : Int, In64 i → In64 j → D.atKey (keyP i j) (.lit (.bool false)) = .lit (.bool (decide ((i, j) ∈ P)))) (hD : IsMap D)
    (h : w'.ownsMap Tryz.prog 72 (plainElem Tryz.prog 4) b m (D.put (keyP x y) (.lit (.bool true)))) : HadP w' b m ((x, y) :: P) := by
  refine ⟨_, h, fun i j hi hj => ?_⟩
  by_cases e : (i, j) = (x, y)
  · cases e
    rw [atKey_put_same (k := keyP x y) hD trivial]
    simp
  · rw [atKey_put_other (fun h => e (keyP_inj hi hj hx hy h)), hat i j hi hj]
    have e' : ¬ (i = x ∧ j = y) := fun q => e (by rw [q.1, q.2])
    simp [e']
theorem HadP.below {w w' : World} {b m : Nat} {P : List (Int × Int)} (h : HadP w b m P) (hb : Below w.heap.size w w') : HadP w' b m P := by
  obtain ⟨D, hown, hat⟩ := h
  have ho : Off (fun _ => False) w w' := Off.of_below hb
  exact ⟨D, hown.kept (row := none) ⟨ho.os, ho.tape, ho.output, ho.size, fun k hk _ => ho.block k hk id⟩ (by simp), hat⟩
theorem HadP.lt {w : World} {b m : Nat} {P : List (Int × Int)} (h : HadP w b m P) : b < w.heap.size := by
  obtain ⟨D, hown, _⟩ := h
  exact hown.lt

/-! ### Each once -/
def hads (l : List Sto.Do) (P : List (Int × Int)) : List (Int × Int) := l.foldl (fun h d => Sto.hadOf d h) P
theorem hads_next {l : List Sto.Do} {k : Nat} {d : Sto.Do} (h : l[k]? = some d) (P : List (Int × Int)) : hads (l.take (k + 1)) P = Sto.hadOf d (hads (l.take k) P) := by
  rw [List.take_add_one, h]
  unfold hads
  rw [List.foldl_append]
  rfl
theorem once_of : ∀ (l : List Sto.Do) (P : List (Int × Int)), (∀ k d, l[k]? = some d → d.kind = 7 ∧ d.turn ≠ 0 → (d.n, d.seg) ∉ hads (l.take k) P) → Sto.Once l P
  | [], _, _ => trivial
  | d :: r, P, h => ⟨h 0 d rfl, once_of r (Sto.hadOf d P) fun k x hx => h (k + 1) x hx⟩
/-- Under way: k are looked at. -/
structure OnceS (w wr : World) (l : List Sto.Do) (k m : Nat) : Prop where
  had : HadP wr w.heap.size m (hads (l.take k) [])
  ok : ∀ (j : Nat) (d : Sto.Do), j < k → l[j]? = some d → d.kind = 7 ∧ d.turn ≠ 0 → (d.n, d.seg) ∉ hads (l.take j) []
  bel : Below w.heap.size w wr
  num : m ≤ k
theorem OnceS.skip {w wr wx : World} {l : List Sto.Do} {k m : Nat} {d : Sto.Do} (h : OnceS w wr l k m) (hb : Below wr.heap.size wr wx) (hx : l[k]? = some d) (hn : ¬ (d.kind = 7 ∧ d.turn ≠ 0)) : OnceS w wx l (k + 1) m := by
  refine ⟨?_, fun j x hj hx' hc => ?_, bt h.bel hb, Nat.le_succ_of_le h.num⟩
  · rw [hads_next hx]
    unfold Sto.hadOf
    rw [if_neg hn]
    exact h.had.below hb
  · by_cases e : j = k
    · subst e
      rw [hx] at hx'
      cases hx'
      exact absurd hc hn
    · exact h.ok j x (by omega) hx' hc
theorem OnceS.more {w wr wx : World} {l : List Sto.Do} {k m m' : Nat} {d : Sto.Do} (h : OnceS w wr l k m) (hb : Below w.heap.size w wx) (hx : l[k]? = some d) (hc : d.kind = 7 ∧ d.turn ≠ 0) (hn : (d.n, d.seg) ∉ hads (l.take k) []) (hp : HadP wx w.heap.size m' ((d.n, d.seg) :: hads (l.take k) [])) (hm : m' ≤ k + 1) : OnceS w wx l (k + 1) m' := by
  refine ⟨?_, fun j x hj hx' hc' => ?_, hb, hm⟩
  · rw [hads_next hx]
    unfold Sto.hadOf
    rw [if_pos hc]
    exact hp
  · by_cases e : j = k
    · subst e
      rw [hx] at hx'
      cases hx'
      exact hn
    · exact h.ok j x (by omega) hx' hc'
/-- A bool that is true only where each is spoilt once. -/
def OnceY (e : Ending) (l : List Sto.Do) : Prop := ∃ y : Bool, e = .returned (.bool y) ∧ (y = true → Sto.Once l [])

end Go.Proofs.YtldjieplbeflfaaGreat
