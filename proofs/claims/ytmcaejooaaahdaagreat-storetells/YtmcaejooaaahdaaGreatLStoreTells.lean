/-
  Whatever setup and things to do there are: what store's Wrong and Play tell is what the document's own text tells. No condition.
-/
import Derived.Test.YtmcaejooaaahdaaGreatRows
import Derived.Test.YtmcaejooaaahdaaGreatZ78
import Derived.ProofKit
import Derived.OpenShut
import Derived.Carry
import Derived.Deep.Cut
import Derived.Deep.CutRange
namespace Go.Proofs.YtmcaejooaaahdaaGreat.storeTells
open Go.ChangeShapes Go.WideShapes Go.ChangeAt Go.RowKit
set_option linter.unusedVariables false

theorem own : ownKnob Tryz.prog.godebug = none := by kernel_rfl

set_option maxHeartbeats 4000000 in
set_option maxRecDepth 100000 in
theorem walk (w : World) (d s b : Int) (v : Value) (l : List Sto.Do) (hD : Dos w v l) (_ : ∀ d, d ∈ l → RngD d) :
    Calls Tryz.prog 3 #[.agg #[.int .i64 d, .int .i64 s, .int .i64 b], v] w fun e w' => e = .returned (.bool true) ∧ Below w.heap.size w w' := by
  obtain ⟨x, y, z, g, u, E, t, al, hP, hR⟩ := two_plays d s b v l w hD
  have HR : Hid (∀ w', Below w.heap.size w w' → Calls Tryz.prog 5 #[.agg #[.int .i64 d, .int .i64 s, .int .i64 b], v] w' fun e w2 => PlT e w' w2 x y z g u E t al) := hR
  have b0 : Below w.heap.size w (w.alloc (.cells #[.int .i64 d, .int .i64 s, .int .i64 b] 23)) := (Below.refl _ _).alloc (Nat.le_refl _) _
  have VS := varN_new w #[.int .i64 d, .int .i64 s, .int .i64 b] 23
  have HP := hP _ b0
  have HW1 : Hid (∀ w', Calls Tryz.prog 6 #[.agg #[.int .i64 d, .int .i64 s, .int .i64 b]] w' fun e w2 => e = .returned (.int .i64 (wrongS d s b : Nat)) ∧ Below w'.heap.size w' w2) := fun w' => storeWrong_any d s b w'
  have HW2 : Hid (∀ w', Calls Tryz.prog 7 #[.agg #[.int .i64 d, .int .i64 s, .int .i64 b]] w' fun e w2 => e = .returned (.int .i64 (wrongS d s b : Nat)) ∧ Below w'.heap.size w' w2) := fun w' => refWrongS_any d s b w'
  generalize wrongS d s b = xw at HW1 HW2
  obtain ⟨A, C, rfl, _⟩ := hD
  obtain ⟨n, hn⟩ : ∃ n, n = l.length := ⟨_, rfl⟩
  rw [← hn] at HP HR ⊢
  clear hP hR hn
  go_enter Tryz.func3, Tryz.ntmps3
  go_upto_region 1 with fail
  generalize w.alloc (.cells #[.int .i64 d, .int .i64 s, .int .i64 b] 23) = w1 at *
  have HVS : Hid (VarN w1 w.heap.size 23 #[.int .i64 d, .int .i64 s, .int .i64 b].toList) := VS
  have s0 := VS.cell (i := 0) rfl
  have s1 := VS.cell (i := 1) rfl
  have s2 := VS.cell (i := 2) rfl
  clear VS
  go_wp2_with fail
  refine HP.mono ?_
  rintro e w2 ⟨vd, vt, vs, va, vr, rfl, hst, han, b2⟩
  obtain ⟨Ad, nAd, CAd, rfl⟩ := dks_shape hst.dk
  obtain ⟨At, nAt, CAt, rfl⟩ := bats_shape hst.tl
  obtain ⟨As, nAs, CAs, rfl⟩ := nms_shape hst.sn
  obtain ⟨Aa, nAa, CAa, rfl⟩ := accs_shape hst.ac
  obtain ⟨Ar, Cr, rfl, hr1, hr2, hrc⟩ := han
  have hr2' : Cr ≤ 9223372036854775807 := by unfold maxLen at hr2; exact hr2
  obtain ⟨m, hm⟩ : ∃ m, m = al.length := ⟨_, rfl⟩
  have HM : Hid (m = al.length) := hm
  rw [← hm] at hr1 ⊢
  have b3 : Below w2.heap.size w2 (w2.alloc (.cells #[.int .i64 x, .int .i64 y, .int .i64 z, .slice Ad nAd CAd, .int .i64 g, .slice At nAt CAt, .slice As nAs CAs, .int .i64 u, .slice Aa nAa CAa] 32)) := (Below.refl _ _).alloc (Nat.le_refl _) _
  have V5 := varN_new w2 #[.int .i64 x, .int .i64 y, .int .i64 z, .slice Ad nAd CAd, .int .i64 g, .slice At nAt CAt, .slice As nAs CAs, .int .i64 u, .slice Aa nAa CAa] 32
  have hst3 := hst.below b3
  have HAN : Hid (∀ i a, al[i]? = some a → ∃ b o, Ar = some ⟨b, o, none⟩ ∧ AnIn w2 b (o + i * 5) a) := hrc
  have b03 := bt (bt b0 b2) b3
  have VS3 := (HVS.out.below b2).below b3
  clear HP s0 s1 s2 HVS hst hrc hr2 hm
  go_upto_region 2 with fail
  obtain ⟨w3, hw3⟩ : ∃ q, q = w2.alloc (.cells #[.int .i64 x, .int .i64 y, .int .i64 z, .slice Ad nAd CAd, .int .i64 g, .slice At nAt CAt, .slice As nAs CAs, .int .i64 u, .slice Aa nAa CAa] 32) := ⟨_, rfl⟩
  rw [← hw3] at b3 V5 hst3 b03 VS3 ⊢
  obtain ⟨Q5, hQ5⟩ : ∃ q, q = w2.heap.size := ⟨_, rfl⟩
  rw [← hQ5] at V5 ⊢
  have HR3 := HR.out w3 b03
  have s0 := VS3.cell (i := 0) rfl
  have s1 := VS3.cell (i := 1) rfl
  have s2 := VS3.cell (i := 2) rfl
  have HVS3 : Hid (VarN w3 w.heap.size 23 #[.int .i64 d, .int .i64 s, .int .i64 b].toList) := VS3
  have HV5 : Hid (VarN w3 Q5 32 #[.int .i64 x, .int .i64 y, .int .i64 z, .slice Ad nAd CAd, .int .i64 g, .slice At nAt CAt, .slice As nAs CAs, .int .i64 u, .slice Aa nAa CAa].toList) := V5
  clear hw3 hQ5 HR VS3 V5
  go_wp2_with fail
  refine HR3.mono ?_
  rintro e w4 ⟨vd', vt', vs', va', vr', rfl, hst', han', b4⟩
  obtain ⟨Bd, nBd, CBd, rfl⟩ := dks_shape hst'.dk
  obtain ⟨Bt, nBt, CBt, rfl⟩ := bats_shape hst'.tl
  obtain ⟨Bs, nBs, CBs, rfl⟩ := nms_shape hst'.sn
  obtain ⟨Ba, nBa, CBa, rfl⟩ := accs_shape hst'.ac
  obtain ⟨Br, Kr, rfl, kr1, kr2, krc⟩ := han'
  have kr2' : Kr ≤ 9223372036854775807 := by unfold maxLen at kr2; exact kr2
  rw [← HM.out] at kr1 ⊢
  have b5 : Below w4.heap.size w4 (w4.alloc (.cells #[.int .i64 x, .int .i64 y, .int .i64 z, .slice Bd nBd CBd, .int .i64 g, .slice Bt nBt CBt, .slice Bs nBs CBs, .int .i64 u, .slice Ba nBa CBa] 32)) := (Below.refl _ _).alloc (Nat.le_refl _) _
  have V8 := varN_new w4 #[.int .i64 x, .int .i64 y, .int .i64 z, .slice Bd nBd CBd, .int .i64 g, .slice Bt nBt CBt, .slice Bs nBs CBs, .int .i64 u, .slice Ba nBa CBa] 32
  have hst5' := hst'.below b5
  have hst5 := (hst3.below b4).below b5
  have HBN : Hid (∀ i a, al[i]? = some a → ∃ b o, Br = some ⟨b, o, none⟩ ∧ AnIn w4 b (o + i * 5) a) := krc
  have b05 := bt (bt b03 b4) b5
  have VS5 := (HVS3.out.below b4).below b5
  have V55 := (HV5.out.below b4).below b5
  have HB35 : Hid (∀ w', Below (w4.alloc (.cells #[.int .i64 x, .int .i64 y, .int .i64 z, .slice Bd nBd CBd, .int .i64 g, .slice Bt nBt CBt, .slice Bs nBs CBs, .int .i64 u, .slice Ba nBa CBa] 32)).heap.size (w4.alloc (.cells #[.int .i64 x, .int .i64 y, .int .i64 z, .slice Bd nBd CBd, .int .i64 g, .slice Bt nBt CBt, .slice Bs nBs CBs, .int .i64 u, .slice Ba nBa CBa] 32)) w' → Below w2.heap.size w2 w' ∧ Below w4.heap.size w4 w') := fun w' hb => ⟨bt (bt (bt b3 b4) b5) hb, bt b5 hb⟩
  clear HR3 s0 s1 s2 HVS3 HV5 hst3 hst' krc kr2 b0 b2 b03
  go_upto_region 3 with fail
  obtain ⟨w5, hw5⟩ : ∃ q, q = w4.alloc (.cells #[.int .i64 x, .int .i64 y, .int .i64 z, .slice Bd nBd CBd, .int .i64 g, .slice Bt nBt CBt, .slice Bs nBs CBs, .int .i64 u, .slice Ba nBa CBa] 32) := ⟨_, rfl⟩
  rw [← hw5] at b5 V8 hst5' hst5 b05 VS5 V55 HB35 ⊢
  obtain ⟨Q8, hQ8⟩ : ∃ q, q = w4.heap.size := ⟨_, rfl⟩
  rw [← hQ8] at V8 ⊢
  have HSo : ∀ w', Below w5.heap.size w5 w' → (((w'.cell? ⟨w.heap.size, 0, none⟩ = some (.int .i64 d) ∧ w'.cell? ⟨w.heap.size, 1, none⟩ = some (.int .i64 s) ∧ w'.cell? ⟨w.heap.size, 2, none⟩ = some (.int .i64 b)) ∧ (w'.cell? ⟨Q5, 0, none⟩ = some (.int .i64 x) ∧ w'.cell? ⟨Q5, 1, none⟩ = some (.int .i64 y) ∧ w'.cell? ⟨Q5, 2, none⟩ = some (.int .i64 z) ∧ w'.cell? ⟨Q5, 3, none⟩ = some (.slice Ad nAd CAd) ∧ w'.cell? ⟨Q5, 4, none⟩ = some (.int .i64 g) ∧ w'.cell? ⟨Q5, 5, none⟩ = some (.slice At nAt CAt) ∧ w'.cell? ⟨Q5, 6, none⟩ = some (.slice As nAs CAs) ∧ w'.cell? ⟨Q5, 7, none⟩ = some (.int .i64 u) ∧ w'.cell? ⟨Q5, 8, none⟩ = some (.slice Aa nAa CAa)) ∧ (w'.cell? ⟨Q8, 0, none⟩ = some (.int .i64 x) ∧ w'.cell? ⟨Q8, 1, none⟩ = some (.int .i64 y) ∧ w'.cell? ⟨Q8, 2, none⟩ = some (.int .i64 z) ∧ w'.cell? ⟨Q8, 3, none⟩ = some (.slice Bd nBd CBd) ∧ w'.cell? ⟨Q8, 4, none⟩ = some (.int .i64 g) ∧ w'.cell? ⟨Q8, 5, none⟩ = some (.slice Bt nBt CBt) ∧ w'.cell? ⟨Q8, 6, none⟩ = some (.slice Bs nBs CBs) ∧ w'.cell? ⟨Q8, 7, none⟩ = some (.int .i64 u) ∧ w'.cell? ⟨Q8, 8, none⟩ = some (.slice Ba nBa CBa))) ∧ Below w5.heap.size w5 w') := fun w' hb' => by
    have q1 := VS5.below hb'
    exact ⟨⟨⟨q1.cell (i := 0) rfl, q1.cell (i := 1) rfl, q1.cell (i := 2) rfl⟩, (V55.below hb').c9, (V8.below hb').c9⟩, hb'⟩
  have TD := HSo w5.drew (Below.refl _ _).drew
  have HBS : ∀ w', (((w'.cell? ⟨w.heap.size, 0, none⟩ = some (.int .i64 d) ∧ w'.cell? ⟨w.heap.size, 1, none⟩ = some (.int .i64 s) ∧ w'.cell? ⟨w.heap.size, 2, none⟩ = some (.int .i64 b)) ∧ (w'.cell? ⟨Q5, 0, none⟩ = some (.int .i64 x) ∧ w'.cell? ⟨Q5, 1, none⟩ = some (.int .i64 y) ∧ w'.cell? ⟨Q5, 2, none⟩ = some (.int .i64 z) ∧ w'.cell? ⟨Q5, 3, none⟩ = some (.slice Ad nAd CAd) ∧ w'.cell? ⟨Q5, 4, none⟩ = some (.int .i64 g) ∧ w'.cell? ⟨Q5, 5, none⟩ = some (.slice At nAt CAt) ∧ w'.cell? ⟨Q5, 6, none⟩ = some (.slice As nAs CAs) ∧ w'.cell? ⟨Q5, 7, none⟩ = some (.int .i64 u) ∧ w'.cell? ⟨Q5, 8, none⟩ = some (.slice Aa nAa CAa)) ∧ (w'.cell? ⟨Q8, 0, none⟩ = some (.int .i64 x) ∧ w'.cell? ⟨Q8, 1, none⟩ = some (.int .i64 y) ∧ w'.cell? ⟨Q8, 2, none⟩ = some (.int .i64 z) ∧ w'.cell? ⟨Q8, 3, none⟩ = some (.slice Bd nBd CBd) ∧ w'.cell? ⟨Q8, 4, none⟩ = some (.int .i64 g) ∧ w'.cell? ⟨Q8, 5, none⟩ = some (.slice Bt nBt CBt) ∧ w'.cell? ⟨Q8, 6, none⟩ = some (.slice Bs nBs CBs) ∧ w'.cell? ⟨Q8, 7, none⟩ = some (.int .i64 u) ∧ w'.cell? ⟨Q8, 8, none⟩ = some (.slice Ba nBa CBa))) ∧ Below w5.heap.size w5 w') → Below w5.heap.size w5 w' := fun w' hS => hS.2
  have HSM := fun w' (hS : (((w'.cell? ⟨w.heap.size, 0, none⟩ = some (.int .i64 d) ∧ w'.cell? ⟨w.heap.size, 1, none⟩ = some (.int .i64 s) ∧ w'.cell? ⟨w.heap.size, 2, none⟩ = some (.int .i64 b)) ∧ (w'.cell? ⟨Q5, 0, none⟩ = some (.int .i64 x) ∧ w'.cell? ⟨Q5, 1, none⟩ = some (.int .i64 y) ∧ w'.cell? ⟨Q5, 2, none⟩ = some (.int .i64 z) ∧ w'.cell? ⟨Q5, 3, none⟩ = some (.slice Ad nAd CAd) ∧ w'.cell? ⟨Q5, 4, none⟩ = some (.int .i64 g) ∧ w'.cell? ⟨Q5, 5, none⟩ = some (.slice At nAt CAt) ∧ w'.cell? ⟨Q5, 6, none⟩ = some (.slice As nAs CAs) ∧ w'.cell? ⟨Q5, 7, none⟩ = some (.int .i64 u) ∧ w'.cell? ⟨Q5, 8, none⟩ = some (.slice Aa nAa CAa)) ∧ (w'.cell? ⟨Q8, 0, none⟩ = some (.int .i64 x) ∧ w'.cell? ⟨Q8, 1, none⟩ = some (.int .i64 y) ∧ w'.cell? ⟨Q8, 2, none⟩ = some (.int .i64 z) ∧ w'.cell? ⟨Q8, 3, none⟩ = some (.slice Bd nBd CBd) ∧ w'.cell? ⟨Q8, 4, none⟩ = some (.int .i64 g) ∧ w'.cell? ⟨Q8, 5, none⟩ = some (.slice Bt nBt CBt) ∧ w'.cell? ⟨Q8, 6, none⟩ = some (.slice Bs nBs CBs) ∧ w'.cell? ⟨Q8, 7, none⟩ = some (.int .i64 u) ∧ w'.cell? ⟨Q8, 8, none⟩ = some (.slice Ba nBa CBa))) ∧ Below w5.heap.size w5 w')) => same_sto x y z g u (.slice Ad nAd CAd) (.slice At nAt CAt) (.slice As nAs CAs) (.slice Aa nAa CAa) (.slice Bd nBd CBd) (.slice Bt nBt CBt) (.slice Bs nBs CBs) (.slice Ba nBa CBa) t w' (hst5.below hS.2) (hst5'.below hS.2)
  have hx0 : ((xw : Int) != (xw : Int)) = false := bne_self_eq_false _
  have hE0 : ((E : Int) != (E : Int)) = false := bne_self_eq_false _
  have hm0 : ((m : Int) != (m : Int)) = false := bne_self_eq_false _
  clear hw5 hQ8 hst5 hst5' VS5 V55 V8
  go_region_held3 (fun w' => (((w'.cell? ⟨w.heap.size, 0, none⟩ = some (.int .i64 d) ∧ w'.cell? ⟨w.heap.size, 1, none⟩ = some (.int .i64 s) ∧ w'.cell? ⟨w.heap.size, 2, none⟩ = some (.int .i64 b)) ∧ (w'.cell? ⟨Q5, 0, none⟩ = some (.int .i64 x) ∧ w'.cell? ⟨Q5, 1, none⟩ = some (.int .i64 y) ∧ w'.cell? ⟨Q5, 2, none⟩ = some (.int .i64 z) ∧ w'.cell? ⟨Q5, 3, none⟩ = some (.slice Ad nAd CAd) ∧ w'.cell? ⟨Q5, 4, none⟩ = some (.int .i64 g) ∧ w'.cell? ⟨Q5, 5, none⟩ = some (.slice At nAt CAt) ∧ w'.cell? ⟨Q5, 6, none⟩ = some (.slice As nAs CAs) ∧ w'.cell? ⟨Q5, 7, none⟩ = some (.int .i64 u) ∧ w'.cell? ⟨Q5, 8, none⟩ = some (.slice Aa nAa CAa)) ∧ (w'.cell? ⟨Q8, 0, none⟩ = some (.int .i64 x) ∧ w'.cell? ⟨Q8, 1, none⟩ = some (.int .i64 y) ∧ w'.cell? ⟨Q8, 2, none⟩ = some (.int .i64 z) ∧ w'.cell? ⟨Q8, 3, none⟩ = some (.slice Bd nBd CBd) ∧ w'.cell? ⟨Q8, 4, none⟩ = some (.int .i64 g) ∧ w'.cell? ⟨Q8, 5, none⟩ = some (.slice Bt nBt CBt) ∧ w'.cell? ⟨Q8, 6, none⟩ = some (.slice Bs nBs CBs) ∧ w'.cell? ⟨Q8, 7, none⟩ = some (.int .i64 u) ∧ w'.cell? ⟨Q8, 8, none⟩ = some (.slice Ba nBa CBa))) ∧ Below w5.heap.size w5 w'))
    (first | with_reducible exact TD | with_reducible assumption)
    (first | (go_at_call 6; refine (HW1.out _).mono ?_; rintro e1 w6 ⟨rfl, b6⟩; have S1 := HSo w6 (bt (HBS _ (by assumption)) b6)) | (go_at_call 7; refine (HW2.out _).mono ?_; rintro e2 w7 ⟨rfl, b7⟩; have S2 := HSo w7 (bt (HBS _ (by assumption)) b7)) | (go_at_call 8; refine (HSM _ (by assumption)).mono ?_; rintro e3 w8 ⟨rfl, b8⟩; have S3 := HSo w8 (bt (HBS _ (by assumption)) b8)))
  have b58 := S3.2
  have b08 := bt b05 b58
  clear S1 S2 S3 TD HSo HBS HSM HW1 HW2 b6 b7 b8 hx0 hE0 hm0
  go_wp2_with fail
  go_loopw [51] (fun xv wr => ∃ (k : Nat), k ≤ m ∧ xv = .int .i64 k ∧ Hid (Below w5.heap.size w5 wr)) (fun xv _ => m - (intOf xv).toNat)
  case atStart => exact ⟨0, Nat.zero_le _, rfl, b58⟩
  case round =>
    obtain ⟨k, hk, rfl, HB⟩ := hrel
    obtain ⟨wo, rfl⟩ : ∃ q, q = wr := ⟨wr, rfl⟩
    by_cases hlt : k < m
    · have hlt' : (k : Int) < (m : Int) := by omega
      obtain ⟨a, ha⟩ : ∃ a, al[k]? = some a := ⟨al[k]'(by rw [← HM.out]; exact hlt), List.getElem?_eq_getElem _⟩
      obtain ⟨b1, o1, rfl, ve, va, x0, x1, x2, x3, x4, xe, xa⟩ := HAN.out k a ha
      obtain ⟨b2, o2, rfl, ve', va', y0, y1, y2, y3, y4, ye, ya⟩ := HBN.out k a ha
      obtain ⟨c1, c2⟩ := HB35.out _ HB.out
      have xe := xe.below c1
      have xa := xa.below c1
      have ye := ye.below c2
      have ya := ya.below c2
      have q1 := CSub.of_below c1
      have q2 := CSub.of_below c2
      have x0 := q1 _ _ x0
      have x1 := q1 _ _ x1
      have x2 := q1 _ _ x2
      have x3 := q1 _ _ x3
      have x4 := q1 _ _ x4
      have y0 := q2 _ _ y0
      have y1 := q2 _ _ y1
      have y2 := q2 _ _ y2
      have y3 := q2 _ _ y3
      have y4 := q2 _ _ y4
      obtain ⟨E1, KE1, rfl⟩ := xe.shape
      obtain ⟨F1, KF1, rfl⟩ := ye.shape
      obtain ⟨E2, KE2, rfl⟩ := xa.shape
      obtain ⟨F2, KF2, rfl⟩ := ya.shape
      obtain ⟨n1, hn1⟩ : ∃ n, n = a.evs.length := ⟨_, rfl⟩
      obtain ⟨n2, hn2⟩ : ∃ n, n = a.vl.length := ⟨_, rfl⟩
      rw [← hn1] at xe ye x2 y2
      rw [← hn2] at xa ya x4 y4
      have HSo : ∀ w', Below wo.heap.size wo w' → ((w'.cell? ⟨b1, o1 + k * 5, none⟩ = some (.int .i64 (a.err : Nat)) ∧ w'.cell? ⟨b1, o1 + k * 5 + 1, none⟩ = some (.int .i64 a.n) ∧ w'.cell? ⟨b1, o1 + k * 5 + 2, none⟩ = some (.slice E1 n1 KE1) ∧ w'.cell? ⟨b1, o1 + k * 5 + 3, none⟩ = some (.int .i64 a.vu) ∧ w'.cell? ⟨b1, o1 + k * 5 + 4, none⟩ = some (.slice E2 n2 KE2)) ∧ (w'.cell? ⟨b2, o2 + k * 5, none⟩ = some (.int .i64 (a.err : Nat)) ∧ w'.cell? ⟨b2, o2 + k * 5 + 1, none⟩ = some (.int .i64 a.n) ∧ w'.cell? ⟨b2, o2 + k * 5 + 2, none⟩ = some (.slice F1 n1 KF1) ∧ w'.cell? ⟨b2, o2 + k * 5 + 3, none⟩ = some (.int .i64 a.vu) ∧ w'.cell? ⟨b2, o2 + k * 5 + 4, none⟩ = some (.slice F2 n2 KF2)) ∧ Below wo.heap.size wo w') := fun w' hb' => by
        have q := CSub.of_below hb'
        exact ⟨⟨q _ _ x0, q _ _ x1, q _ _ x2, q _ _ x3, q _ _ x4⟩, ⟨q _ _ y0, q _ _ y1, q _ _ y2, q _ _ y3, q _ _ y4⟩, hb'⟩
      have TD := HSo wo.drew (Below.refl _ _).drew
      have HSA := fun w' (hS : ((w'.cell? ⟨b1, o1 + k * 5, none⟩ = some (.int .i64 (a.err : Nat)) ∧ w'.cell? ⟨b1, o1 + k * 5 + 1, none⟩ = some (.int .i64 a.n) ∧ w'.cell? ⟨b1, o1 + k * 5 + 2, none⟩ = some (.slice E1 n1 KE1) ∧ w'.cell? ⟨b1, o1 + k * 5 + 3, none⟩ = some (.int .i64 a.vu) ∧ w'.cell? ⟨b1, o1 + k * 5 + 4, none⟩ = some (.slice E2 n2 KE2)) ∧ (w'.cell? ⟨b2, o2 + k * 5, none⟩ = some (.int .i64 (a.err : Nat)) ∧ w'.cell? ⟨b2, o2 + k * 5 + 1, none⟩ = some (.int .i64 a.n) ∧ w'.cell? ⟨b2, o2 + k * 5 + 2, none⟩ = some (.slice F1 n1 KF1) ∧ w'.cell? ⟨b2, o2 + k * 5 + 3, none⟩ = some (.int .i64 a.vu) ∧ w'.cell? ⟨b2, o2 + k * 5 + 4, none⟩ = some (.slice F2 n2 KF2)) ∧ Below wo.heap.size wo w')) => same_ans a (.slice E1 n1 KE1) (.slice E2 n2 KE2) (.slice F1 n1 KF1) (.slice F2 n2 KF2) w' (xe.below hS.2.2) (xa.below hS.2.2) (ye.below hS.2.2) (ya.below hS.2.2)
      have HBO : Hid (∀ w', Below wo.heap.size wo w' → Below w5.heap.size w5 w') := fun w' hb => bt HB.out hb
      have HBS : ∀ w', ((w'.cell? ⟨b1, o1 + k * 5, none⟩ = some (.int .i64 (a.err : Nat)) ∧ w'.cell? ⟨b1, o1 + k * 5 + 1, none⟩ = some (.int .i64 a.n) ∧ w'.cell? ⟨b1, o1 + k * 5 + 2, none⟩ = some (.slice E1 n1 KE1) ∧ w'.cell? ⟨b1, o1 + k * 5 + 3, none⟩ = some (.int .i64 a.vu) ∧ w'.cell? ⟨b1, o1 + k * 5 + 4, none⟩ = some (.slice E2 n2 KE2)) ∧ (w'.cell? ⟨b2, o2 + k * 5, none⟩ = some (.int .i64 (a.err : Nat)) ∧ w'.cell? ⟨b2, o2 + k * 5 + 1, none⟩ = some (.int .i64 a.n) ∧ w'.cell? ⟨b2, o2 + k * 5 + 2, none⟩ = some (.slice F1 n1 KF1) ∧ w'.cell? ⟨b2, o2 + k * 5 + 3, none⟩ = some (.int .i64 a.vu) ∧ w'.cell? ⟨b2, o2 + k * 5 + 4, none⟩ = some (.slice F2 n2 KF2)) ∧ Below wo.heap.size wo w') → Below wo.heap.size wo w' := fun w' hS => hS.2.2
      clear q1 q2 c1 c2 ha hn1 hn2 xe xa ye ya x0 x1 x2 x3 x4 y0 y1 y2 y3 y4
      go_upto_region 8 with fail
      go_region_held3 (fun w' => ((w'.cell? ⟨b1, o1 + k * 5, none⟩ = some (.int .i64 (a.err : Nat)) ∧ w'.cell? ⟨b1, o1 + k * 5 + 1, none⟩ = some (.int .i64 a.n) ∧ w'.cell? ⟨b1, o1 + k * 5 + 2, none⟩ = some (.slice E1 n1 KE1) ∧ w'.cell? ⟨b1, o1 + k * 5 + 3, none⟩ = some (.int .i64 a.vu) ∧ w'.cell? ⟨b1, o1 + k * 5 + 4, none⟩ = some (.slice E2 n2 KE2)) ∧ (w'.cell? ⟨b2, o2 + k * 5, none⟩ = some (.int .i64 (a.err : Nat)) ∧ w'.cell? ⟨b2, o2 + k * 5 + 1, none⟩ = some (.int .i64 a.n) ∧ w'.cell? ⟨b2, o2 + k * 5 + 2, none⟩ = some (.slice F1 n1 KF1) ∧ w'.cell? ⟨b2, o2 + k * 5 + 3, none⟩ = some (.int .i64 a.vu) ∧ w'.cell? ⟨b2, o2 + k * 5 + 4, none⟩ = some (.slice F2 n2 KF2)) ∧ Below wo.heap.size wo w'))
        (first | with_reducible exact TD | with_reducible assumption)
        (first | (go_at_call 9; refine (HSA _ (by assumption)).mono ?_; rintro e1 w6 ⟨rfl, b6⟩; have S1 := HSo w6 (bt (HBS _ (by assumption)) b6)))
      have HB6 : Hid (Below w5.heap.size w5 w6) := HBO.out _ S1.2.2
      clear S1 TD HSo HSA HBS HBO HB b6
      go_wp2_with fail
      exact ⟨⟨k + 1, by omega, by go_num, HB6⟩, by simp [intOf]; omega⟩
    · have hkm : k = m := by omega
      have hnl : ¬ (k : Int) < (m : Int) := by omega
      have b9 := bt b05 HB.out
      clear hkm HB
      go_wp2_with fail
      go_ret
      exact ⟨rfl, b9⟩

set_option maxRecDepth 100000 in
theorem lifted (os : Os) (started : os.Started) (H : Type) (enc : TypeId × Value → H) :
    ReturnsInHanded {} Tryz.checked os 3 .any (Rows.storeTellsSpec.pre6 enc Tryz.prog Tryz.f3 Rows.storeTellsRow.domain false) (Rows.storeTellsSpec.post enc Tryz.prog Tryz.f3 false true false false) := by
  refine returnsInHanded_of_change (C := Tryz.checked) own started (by kernel_rfl) Tryz.func3
    (ChangeSpec.witness6 (enc := enc) (C := Tryz.checked) false ⟨#[], #[.agg #[.int .i64 0, .int .i64 0, .int .i64 0], .slice none 0 0], []⟩ 8 (by kernel_rfl) (by kernel_rfl) (by kernel_rfl) (by kernel_rfl)) ?_
  intro W base args ds gs before hval0 hW hcnd _
  have hval : ∀ (j : Nat) t v, Tryz.f3.params[j]? = some t → args[j]? = some v → Value.okWide Tryz.prog W .any base t v := hval0
  have hW' := hW
  obtain ⟨p, q, hA0, hV, rfl, hfz, hnd⟩ := hW
  have hA : DataW.TrodAll enc Tryz.prog W 0 (fun _ => true) true Tryz.f3.params.toList args.toList ds p := hA0
  rw [Tryz.params3] at hA hval
  obtain ⟨v0, vs0, d0, ds0, p0, q0, hargs, rfl, rfl, h0, r0⟩ := trodAll_cons hA
  obtain ⟨v1, vs1, d1, ds1, p1, q1, rfl, rfl, rfl, h1, r1⟩ := trodAll_cons r0
  obtain ⟨rfl, rfl, rfl⟩ := trodAll_nil r1
  obtain rfl : args = #[v0, v1] := by cases args; simp_all
  obtain ⟨rfl, rfl⟩ := trodVars_none hV
  have k0 := h0
  have lt0 : ∀ x ∈ p0, x.block < W.heap.size := by obtain ⟨m, hm⟩ := k0; exact DataW.trod_lt m _ _ _ hm
  obtain ⟨s0, t0, z0, rfl⟩ := setup_of (hval 0 23 v0 rfl rfl) h0
  obtain ⟨a1, l1, c1, rfl⟩ := okWide_slice Tryz.underlying24 (hval 1 24 v1 rfl rfl)
  have k1 := h1
  have lt1 : ∀ x ∈ p1, x.block < W.heap.size := by obtain ⟨m, hm⟩ := k1; exact DataW.trod_lt m _ _ _ hm
  obtain ⟨f1, g1, z1⟩ := dos_of h1
  clear hA0 hval0
  refine (walk W s0 t0 z0 _ _ g1 z1).mono fun e W' ⟨he, bel⟩ => ?_
  subst he
  exact ⟨_, rfl, _, _, _, [], _, [], hW', trodAll_mk1 (shut_bool Tryz.underlying4 _), (trodAll_cons_mk (Below.trod Tryz.laidOut (by kernel_rfl) (of_decide_eq_true (by kernel_rfl)) k0 bel lt0) (trodAll_cons_mk (Below.trod Tryz.laidOut (by kernel_rfl) (of_decide_eq_true (by kernel_rfl)) k1 bel lt1) trodAll_mk0)), rfl, bel.frame _, fun h => by cases h⟩

theorem over : Rows.storeTellsRow.holds Tryz.pinned (OpenSpec.ofChange Rows.storeTellsSpec) :=
  OpenClaim.holds_of_wide 3 Tryz.f3 rfl rfl rfl rfl rfl rfl rfl ⟨rfl, rfl, rfl, rfl, rfl⟩ rfl rfl rfl rfl rfl (by kernel_rfl) Tryz.func3 (by kernel_rfl)
    (of_decide_eq_true (by kernel_rfl)) (by unfold Func.isWrapper; first | (rw [if_pos (by decide +kernel)]; kernel_rfl) | (rw [if_neg (by decide +kernel)]; exact ⟨rfl, rfl⟩))
    (fun os started H enc _ => lifted os started H enc)
end Go.Proofs.YtmcaejooaaahdaaGreat.storeTells

namespace Go.Proofs.YtmcaejooaaahdaaGreat
theorem storeTells_holds : Rows.StoreTellsSaid := storeTells.over
#print axioms storeTells_holds
end Go.Proofs.YtmcaejooaaahdaaGreat
