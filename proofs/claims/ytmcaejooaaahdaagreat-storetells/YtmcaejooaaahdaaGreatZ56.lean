/-
  Texts of the proof, joined: SRead, SMend, JSix.
-/
import Derived.Test.YtmcaejooaaahdaaGreatZ53
import Derived.Test.YtmcaejooaaahdaaGreatZ55
import Derived.Lib.ConvBytes
import Derived.Test.YtmcaejooaaahdaaGreatZ49
import Derived.Test.YtmcaejooaaahdaaGreatZ51
namespace Go.Proofs.YtmcaejooaaahdaaGreat
open Go.RowKit

set_option maxHeartbeats 2000000 in
set_option maxRecDepth 100000 in
theorem refRead_ok (A : Option Addr) (cap n s : Nat) (L : Nat → Nat) (g : Nat → Nat → Nat) (seg : Int) (w : World) (h : Lls w (.slice A (n + s) cap) (n + s) L g) (h1 : 1 ≤ n) (h2 : n ≤ 8) (h3 : s ≤ 4) :
    Calls Tryz.prog 64 #[.slice A (n + s) cap, .int .i64 seg, .int .i64 (n : Int)] w fun e w' => ∃ v', e = .returned (.tuple #[v', .int .i64 (readE seg n (n + s) L g : Nat)]) ∧ ReadO w' (readE seg n (n + s) L g) v' n (n + s) (Seg.rl seg L g) (Seg.rf g) (Seg.rz g (thr (Seg.rl seg L g) (n + s) 0)) ∧ Below w.heap.size w w' := by
  have hsub : (n : Int) + (s : Int) - (n : Int) = (s : Int) := by omega
  have HW := fun w' => refWrongC_any (n : Int) (s : Int) w'
  rw [wrongC_ok (by omega)] at HW
  have bd := h.bd
  have hbf : Gf.Bd2 (Seg.rf g) := fun i k => bd i (k + 7)
  have HL : Hid (∀ w', Below w.heap.size w w' → ∀ r, r < n + s → ∃ b o R K, A = some ⟨b, o, none⟩ ∧ w'.cell? ⟨b, o + r, none⟩ = some (.slice R (L r) K) ∧ Byts w' (.slice R (L r) K) (L r) (g r)) := fun w' hb r hr => (h.below hb).at hr
  have HL0 : Hid (∀ r, r < n + s → ∀ R K b o, A = some ⟨b, o, none⟩ → w.cell? ⟨b, o + r, none⟩ = some (.slice R (L r) K) → Byts w (.slice R (L r) K) (L r) (g r)) := fun r hr R K b o e1 e2 => by
    obtain ⟨b', o', R', K', q1, q2, q3⟩ := h.at hr
    rw [e1] at q1
    cases q1
    rw [e2] at q2
    cases q2
    exact q3
  obtain ⟨i0, hi0, hh⟩ := Option.map_eq_some_iff.1 Tryz.infoRow
  simp only [Prod.mk.injEq] at hh
  obtain ⟨hz0, hz1, hz2⟩ := hh
  have HEW : Hid (wrongC (n : Int) (((n + s : Nat) : Int) - (n : Int)) = 0) := wrongC_ok (by omega)
  clear h
  go_enter Tryz.func64, Tryz.ntmps64
  go_wp2_with fail
  refine (HW _).mono ?_
  rintro e w1 ⟨rfl, b1⟩
  clear HW
  go_wp2_with fail
  go_loopw [9, 10, 11, 31] (fun y z b x wr => ∃ (k : Nat) (U : Nat → Value) (sz : Nat) (bb : Bool), k ≤ n + s ∧ x = .int .i64 k ∧ z = .int .i64 (sz : Nat) ∧ b = .bool bb ∧ wr.ownsRow w.heap.size 59 1 y k ((List.range k).map U) ∧ Hid (∀ i, i < k → Byts w (U i) (Seg.rl seg L g i) (Seg.rf g i)) ∧ Hid (∀ i, i < k → Seg.right seg L g i → Seg.rz g i = sz ∧ bb = true) ∧ Hid (bb = true → ∃ i, i < k ∧ Seg.right seg L g i) ∧ Below w.heap.size w wr) (fun _ _ _ x _ => n + s - (intOf x).toNat)
  case atStart => exact ⟨0, fun _ => .slice none 0 0, 0, false, Nat.zero_le _, rfl, rfl, rfl, World.ownsRow_nil _ _ _ 1, (fun i hi => absurd hi (Nat.not_lt_zero i)), (fun i hi => absurd hi (Nat.not_lt_zero i)), (fun q => by cases q), b1⟩
  case round =>
    obtain ⟨k, U, sz, bb, hk, rfl, rfl, rfl, ho, HU, HZ, HB, hbr⟩ := hrel
    by_cases hlt : k < n + s
    · have hlt' : (k : Int) < (n : Int) + (s : Int) := by omega
      have hlt2 : (k : Int) < ((n + s : Nat) : Int) := by omega
      obtain ⟨b, o, R, K, rfl, t0, hy⟩ := HL.out wr hbr k hlt
      have HLW : Hid (∀ k', k' = k → Byts w (.slice R (L k) K) (L k) (g k)) := fun _ _ => HL0.out k hlt R K b o rfl (by
        obtain ⟨b', o', R', K', q1, q2, q3⟩ := HL.out w (Below.refl _ _) k hlt
        cases q1
        rw [(hbr.cell (p := ⟨b, o + k, none⟩) (World.block_lt_of_cell? _ _ q2)).trans q2] at t0
        cases t0
        exact q2)
      have HR := refRight_any _ _ (g k) seg k wr hy
      have HPI := fun (w' : World) (hb' : Below wr.heap.size wr w') (q : Crc.parseE (g k) (L k) = 0) => refParse_in _ _ (g k) w' (hy.below hb') q
      obtain ⟨P, hP⟩ : ∃ P : Prop, P = Seg.right seg L g k := ⟨_, rfl⟩
      have HPQ : Hid (P = Seg.right seg L g k) := hP
      have hP2 : P = (Crc.parseE (g k) (L k) = 0 ∧ ((g k 1 : Nat) : Int) = seg ∧ g k 2 = k) := hP
      rw [← hP2] at HR
      clear hP hP2
      by_cases hp : P
      case neg =>
        have HPP : Hid (¬ P) := hp
        clear hp hy HPI
        go_wp2_with fail
        refine HR.mono ?_
        rintro e w2 ⟨⟨y, rfl, hyy⟩, b2⟩
        obtain rfl : y = false := by cases y with | false => rfl | true => exact absurd (hyy.1 rfl) HPP.out
        have hbX := (Below.refl w2.heap.size w2).alloc (Nat.le_refl _) (.cells #[.slice none 0 0] 59)
        have ox := owns_below (owns_below ho b2) hbX
        have bX := bt (bt hbr b2) hbX
        have HLT := ox.lt
        clear HR hyy ho t0
        go_wp2_with (at_builtin; refine wpList_append_own _ rfl (.tmp 41) (.tmp 42) 86 rfl w.heap.size 59 i0 (.slice none 0 0) 1 24 Tryz.underlying86 hi0 hz0 hz1 hz2 rfl (by decide) _ _ _ rfl ox ⟨w2.heap.size, 0, none⟩ 1 1 [.slice none 0 0] rfl rfl cell_one (by intro u hu; simp at hu; subst hu; rfl) (by unfold maxLen; omega) (by omega) bX.size ?_; intro v7 w7 hown1 hgrow1 _)
        have b7 : Below w.heap.size w w7 := bX.grown hgrow1 bX.size (fun x hx => (HLT x hx).1)
        rw [← range_upd] at hown1
        refine ⟨⟨k + 1, _, sz, bb, by omega, by go_num, rfl, rfl, hown1, (fun i hi => ?_), (fun i hi q => ?_), (fun q => ?_), b7⟩, by simp [intOf]; omega⟩
        · by_cases e : i = k
          · rw [e, updV_at, Seg.rl_no (fun q => HPP.out (by rw [HPQ.out]; exact q))]
            exact Byts.none w (hbf k)
          · rw [updV_ne _ _ e]
            exact HU.out i (by omega)
        · by_cases e : i = k
          · rw [e] at q
            exact absurd (show P by rw [HPQ.out]; exact q) HPP.out
          · exact HZ.out i (by omega) q
        · obtain ⟨i, hi, q2⟩ := HB.out q
          exact ⟨i, by omega, q2⟩
      case pos =>
        have HPP : Hid P := hp
        have HRT : Hid (Seg.right seg L g k) := by
          show Seg.right seg L g k
          rw [← HPQ.out]
          exact hp
        have HPI := fun (w' : World) (hb' : Below wr.heap.size wr w') => HPI w' hb' HRT.out.1
        clear hp
        go_wp2_with fail
        refine HR.mono ?_
        rintro e w2 ⟨⟨y, rfl, hyy⟩, b2⟩
        obtain rfl : y = true := hyy.2 HPP.out
        have ho := owns_below ho b2
        have HPI := HPI _ b2
        have hbr := bt hbr b2
        clear HR hyy t0 hy
        go_wp2_with fail
        refine HPI.mono ?_
        rintro e w3 ⟨A3, C3, rfl, D3, b3⟩
        have HD3 : Hid (Byts w (.slice A3 (L k - 11) C3) (L k - 11) (Seg.rf g k)) := D3 w (HLW.out k rfl)
        have ho := owns_below ho b3
        have hbr := bt hbr b3
        have bV := (Below.refl w3.heap.size w3).alloc (Nat.le_refl _) (.cells #[.int .i64 (g k 1 : Nat), .int .i64 (g k 2 : Nat), .int .i64 (g k 3 * 256 + g k 4 : Nat), .slice A3 (L k - 11) C3] 137)
        have ho := owns_below ho bV
        have hbr := bt hbr bV
        have hz : g k 3 * 256 + g k 4 = Seg.rz g k := rfl
        rw [hz] at bV ho hbr ⊢
        have hbX := (Below.refl (w3.alloc (.cells #[.int .i64 (g k 1 : Nat), .int .i64 (g k 2 : Nat), .int .i64 (Seg.rz g k : Nat), .slice A3 (L k - 11) C3] 137)).heap.size (w3.alloc (.cells #[.int .i64 (g k 1 : Nat), .int .i64 (g k 2 : Nat), .int .i64 (Seg.rz g k : Nat), .slice A3 (L k - 11) C3] 137))).alloc (Nat.le_refl _) (.cells #[.slice A3 (L k - 11) C3] 59)
        have ox := owns_below ho hbX
        have bX := bt hbr hbX
        have HLT := ox.lt
        have cx : ∀ j u, [Value.slice A3 (L k - 11) C3][j]? = some u → ((w3.alloc (.cells #[.int .i64 (g k 1 : Nat), .int .i64 (g k 2 : Nat), .int .i64 (Seg.rz g k : Nat), .slice A3 (L k - 11) C3] 137)).alloc (.cells #[.slice A3 (L k - 11) C3] 59)).cell? ((⟨w3.heap.size + 1, 0, none⟩ : Addr).add j) = some u := fun j u hj => by
          have q := cell_one (w := w3.alloc (.cells #[.int .i64 (g k 1 : Nat), .int .i64 (g k 2 : Nat), .int .i64 (Seg.rz g k : Nat), .slice A3 (L k - 11) C3] 137)) (t := 59) j u hj
          have sz9 : (w3.alloc (.cells #[.int .i64 (g k 1 : Nat), .int .i64 (g k 2 : Nat), .int .i64 (Seg.rz g k : Nat), .slice A3 (L k - 11) C3] 137)).heap.size = w3.heap.size + 1 := by simp
          rw [sz9] at q
          exact q
        clear HPI D3 hz hbX ho b3 bV
        cases bb with
        | false =>
          have HSZ : Hid (∀ i, i < k → Seg.right seg L g i → Seg.rz g i = Seg.rz g k) := fun i hi q => by
            have := (HZ.out i hi q).2
            cases this
          generalize hzk : Seg.rz g k = zk at *
          go_wp2_with (at_builtin; refine wpList_append_own _ rfl (.tmp 58) (.tmp 61) 86 rfl w.heap.size 59 i0 (.slice none 0 0) 1 24 Tryz.underlying86 hi0 hz0 hz1 hz2 rfl (by decide) _ _ _ rfl ox ⟨w3.heap.size + 1, 0, none⟩ 1 1 [.slice A3 (L k - 11) C3] rfl rfl cx (by intro u hu; simp at hu; subst hu; rfl) (by unfold maxLen; omega) (by omega) bX.size ?_; intro v7 w7 hown1 hgrow1 _)
          have b7 : Below w.heap.size w w7 := bX.grown hgrow1 bX.size (fun x hx => (HLT x hx).1)
          rw [← range_upd] at hown1
          refine ⟨⟨k + 1, _, zk, true, by omega, by go_num, rfl, rfl, hown1, (fun i hi => ?_), (fun i hi q => ?_), (fun _ => ⟨k, by omega, HRT.out⟩), b7⟩, by simp [intOf]; omega⟩
          · by_cases e : i = k
            · rw [e, updV_at, Seg.rl_yes HRT.out]
              exact HD3.out
            · rw [updV_ne _ _ e]
              exact HU.out i (by omega)
          · by_cases e : i = k
            · rw [e]
              exact ⟨hzk, rfl⟩
            · exact ⟨HSZ.out i (by omega) q, rfl⟩
        | true =>
          by_cases hzz : Seg.rz g k = sz
          · have HSZ : Hid (∀ i, i < k → Seg.right seg L g i → Seg.rz g i = Seg.rz g k) := fun i hi q => by
              rw [hzz]
              exact (HZ.out i hi q).1
            have tz : (((Seg.rz g k : Nat) : Int) != ((sz : Nat) : Int)) = false := by rw [hzz]; simp
            clear hzz
            generalize hzk : Seg.rz g k = zk at *
            go_wp2_with (at_builtin; refine wpList_append_own _ rfl (.tmp 58) (.tmp 61) 86 rfl w.heap.size 59 i0 (.slice none 0 0) 1 24 Tryz.underlying86 hi0 hz0 hz1 hz2 rfl (by decide) _ _ _ rfl ox ⟨w3.heap.size + 1, 0, none⟩ 1 1 [.slice A3 (L k - 11) C3] rfl rfl cx (by intro u hu; simp at hu; subst hu; rfl) (by unfold maxLen; omega) (by omega) bX.size ?_; intro v7 w7 hown1 hgrow1 _)
            have b7 : Below w.heap.size w w7 := bX.grown hgrow1 bX.size (fun x hx => (HLT x hx).1)
            rw [← range_upd] at hown1
            refine ⟨⟨k + 1, _, zk, true, by omega, by go_num, rfl, rfl, hown1, (fun i hi => ?_), (fun i hi q => ?_), (fun _ => ⟨k, by omega, HRT.out⟩), b7⟩, by simp [intOf]; omega⟩
            · by_cases e : i = k
              · rw [e, updV_at, Seg.rl_yes HRT.out]
                exact HD3.out
              · rw [updV_ne _ _ e]
                exact HU.out i (by omega)
            · by_cases e : i = k
              · rw [e]
                exact ⟨hzk, rfl⟩
              · exact ⟨HSZ.out i (by omega) q, rfl⟩
          · have HE : Hid (readE seg n (n + s) L g = 8) := by
              show readE seg n (n + s) L g = 8
              obtain ⟨i, hi, q⟩ := HB.out rfl
              unfold readE
              rw [if_neg (fun q => q HEW.out), if_pos (fun q2 => hzz (by
                rw [← (HZ.out i hi q).1]
                exact q2 k hlt i (by omega) HRT.out q))]
            have tz : (((Seg.rz g k : Nat) : Int) != ((sz : Nat) : Int)) = true := by rw [bne_iff_ne]; omega
            generalize hzk : Seg.rz g k = zk at *
            clear hzz ox bX HLT cx
            go_wp2_with fail
            go_ret2
            exact ⟨_, by rw [HE.out]; rfl, Or.inr ⟨by rw [HE.out]; decide, rfl⟩, hbr⟩
    · obtain rfl : k = n + s := by omega
      have HSS : Hid (Seg.sizes seg L g (n + s)) := fun i hi j hj q1 q2 => by rw [(HZ.out i hi q1).1, (HZ.out j hj q2).1]
      have LS := lls_own ho HU.out hbr hbf
      have HM := refMendO u9 (n + s) (Seg.rl seg L g) (Seg.rf g) (n : Int) wr LS.arg (by unfold maxLen; omega)
      rw [Int.toNat_natCast] at HM
      clear ho LS HU HL HL0
      by_cases hE : mendE (n : Int) (n + s) (Seg.rl seg L g) = 0
      case neg =>
        have HE : Hid (readE seg n (n + s) L g = mendE (n : Int) (n + s) (Seg.rl seg L g)) := by
          show readE seg n (n + s) L g = _
          unfold readE
          rw [if_neg (fun q => q HEW.out), if_neg (fun q => q HSS.out), if_pos hE]
        have HE0 : Hid (readE seg n (n + s) L g ≠ 0) := by
          show readE seg n (n + s) L g ≠ 0
          rw [HE.out]
          exact hE
        generalize mendE (n : Int) (n + s) (Seg.rl seg L g) = E at HM HE hE
        have hx' : ((E : Int) == 0) = false := by rw [beq_eq_false_iff_ne]; omega
        have hxn : ((E : Int) != 0) = true := by rw [bne, hx']; rfl
        clear hE
        go_wp2_with fail
        refine HM.mono ?_
        rintro e w2 ⟨v2, r, rfl, _, _, b2⟩
        have b2 := bt hbr b2
        clear HM
        go_wp2_with fail
        go_ret2
        exact ⟨_, by rw [HE.out]; rfl, Or.inr ⟨HE0.out, rfl⟩, b2⟩
      case pos =>
        have hth : 0 < (there (Seg.rl seg L g) (n + s)).length := by
          refine Nat.pos_of_ne_zero fun q => ?_
          unfold mendE at hE
          rw [if_neg (fun q => q HEW.out), if_pos (by rw [q, Int.toNat_natCast]; omega)] at hE
          cases hE
        obtain ⟨ht1, ht2⟩ := thr_mem hth
        have HSZ : Hid (sz = Seg.rz g (thr (Seg.rl seg L g) (n + s) 0)) := ((HZ.out _ ht1 (Seg.rl_right ht2)).1).symm
        have HE : Hid (readE seg n (n + s) L g = if n * Seg.rl seg L g (thr (Seg.rl seg L g) (n + s) 0) < Seg.rz g (thr (Seg.rl seg L g) (n + s) 0) then 8 else 0) := by
          show readE seg n (n + s) L g = _
          unfold readE
          rw [if_neg (fun q => q HEW.out), if_neg (fun q => q HSS.out), if_neg (fun q => q hE), Int.toNat_natCast]
        rw [hE] at HM
        generalize hc : Seg.rl seg L g (thr (Seg.rl seg L g) (n + s) 0) = c at *
        clear hE hth ht1
        go_wp2_with fail
        refine HM.mono ?_
        rintro e w2 ⟨v2, r, rfl, hrU, hO, b2⟩
        obtain ⟨hr1, hr2⟩ := hrU trivial
        have hM2 : Mx w2 v2 (n + s) c (Gf.mm n (Gf.rowF n) (Gf.mm n r (fun p => Seg.rf g (thr (Seg.rl seg L g) (n + s) p)))) := by
          rcases hO with ⟨_, q⟩ | ⟨q, _⟩
          · exact q
          · omega
        have b2 := bt hbr b2
        obtain ⟨_, _, c1, c2⟩ := hM2.dim
        have hFb := hM2.bd
        obtain ⟨bm, om, cm, G, O, K, rfl, hm⟩ := hM2.lies
        have HFN : Hid (∃ r, Gf.Bd2 r ∧ Gf.Und n (fun p => Gf.rowF n (thr (Seg.rl seg L g) (n + s) p)) r ∧ Gf.mm n (Gf.rowF n) (Gf.mm n r (fun p => Seg.rf g (thr (Seg.rl seg L g) (n + s) p))) = Gf.mm n (Gf.rowF n) (Gf.mm n r (fun p => Seg.rf g (thr (Seg.rl seg L g) (n + s) p)))) := ⟨r, hr1, hr2, rfl⟩
        generalize hF : Gf.mm n (Gf.rowF n) (Gf.mm n r (fun p => Seg.rf g (thr (Seg.rl seg L g) (n + s) p))) = F at *
        clear HM hO hrU HFN
        go_wp2_with fail
        go_loop [18, 19] (fun y x => ∃ i : Nat, i ≤ n ∧ x = .int .i64 i ∧ y = .string (strL ((List.range i).flatMap (fun p => (List.range c).map (F p))))) (fun _ x => n - (intOf x).toNat)
        case atStart => exact ⟨0, Nat.zero_le _, rfl, rfl⟩
        case round =>
          obtain ⟨i, hi, rfl, rfl⟩ := hrel
          have HLN : (strL ((List.range i).flatMap (fun p => (List.range c).map (F p)))).size = i * c := by
            rw [strL_size, flat_len _ c _ (fun _ _ => by simp), List.length_range]
          by_cases hlt : i < n
          · have hlt' : (i : Int) < (n : Int) := by omega
            have hlt3 : (i : Int) < (n : Int) + (s : Int) := by omega
            have hlt4 : i < n + s := by omega
            have t1 := hm.top i (by omega)
            have q1 : (convert 59 9 (.slice (some ⟨G i, O i, none⟩) c (K i))).run Tryz.prog w2 = .ok (.string (strB (F i) c)) w2 := run_convert_bytes_arg (P := Tryz.prog) w2 59 5 Tryz.underlying59 Tryz.underlying5 (G i) (O i) c (K i) ((List.range c).map fun j => (F i j : Int)) (by simp) (fun j hj => by rw [bytes_getD _ _ _ hj]; exact hm.row i (by omega) j hj) 9 Tryz.underlying9
            rw [strB_list] at q1
            have HCT : Hid (strL ((List.range i).flatMap (fun p => (List.range c).map (F p))) ++ strL ((List.range c).map (F i)) = strL ((List.range (i + 1)).flatMap (fun p => (List.range c).map (F p)))) := by
              show _ = _
              rw [strL_cat, List.range_succ, List.flatMap_append]
              simp
            have hz2 : (strL ((List.range c).map (F i))).size = c := by rw [strL_size]; simp
            have hmul : i * c ≤ 8 * 400 := Nat.mul_le_mul (by omega) c2
            have hadd : ¬ 9223372036854775807 < (strL ((List.range i).flatMap (fun p => (List.range c).map (F p)))).size + (strL ((List.range c).map (F i))).size := by rw [HLN, hz2]; omega
            generalize strL ((List.range i).flatMap (fun p => (List.range c).map (F p))) = S at HCT hadd HLN
            generalize strL ((List.range c).map (F i)) = T at HCT hadd q1 hz2
            clear hm
            go_wp2_with fail
            exact ⟨⟨i + 1, by omega, by go_num, by rw [HCT.out]⟩, by simp [intOf]; omega⟩
          · obtain rfl : i = n := by omega
            have hmul : i * c ≤ 8 * 400 := Nat.mul_le_mul h2 c2
            have HGT : Hid (∀ j, j < i * c → ((List.range i).flatMap (fun p => (List.range c).map (F p))).getD j 0 = F (j / c) (j % c)) := fun j hj => flat_at F i c j (by omega) hj
            have HBY : Hid (∀ x, x ∈ (List.range i).flatMap (fun p => (List.range c).map (F p)) → x < 256) := fun x hx => by
              obtain ⟨p, _, hx⟩ := List.mem_flatMap.1 hx
              obtain ⟨k, _, rfl⟩ := List.mem_map.1 hx
              exact hFb p k
            have HLL : Hid (((List.range i).flatMap (fun p => (List.range c).map (F p))).length = i * c) := by
              show _ = _
              rw [flat_len _ c _ (fun _ _ => by simp), List.length_range]
            generalize (List.range i).flatMap (fun p => (List.range c).map (F p)) = fl at HGT HBY HLL HLN
            generalize hic : i * c = ic at *
            by_cases hsz : ic < sz
            · have hsz' : (ic : Int) < (sz : Int) := by omega
              have HE8 : Hid (readE seg i (i + s) L g = 8) := by
                show readE seg i (i + s) L g = 8
                rw [HE.out, ← HSZ.out, if_pos hsz]
              generalize strL fl = S at HLN
              clear hm
              go_wp2_with fail
              go_ret2
              exact ⟨_, by rw [HE8.out]; rfl, Or.inr ⟨by rw [HE8.out]; decide, rfl⟩, b2⟩
            · have hsz' : ¬ (ic : Int) < (sz : Int) := by omega
              have HE8 : Hid (readE seg i (i + s) L g = 0) := by
                show readE seg i (i + s) L g = 0
                rw [HE.out, ← HSZ.out, if_neg hsz]
              have hsz2 : (sz : Int) ≤ (ic : Int) := by omega
              have HXS : ((strL fl).extract 0 sz).size = sz := by
                rw [ByteArray.size_extract, HLN]
                omega
              have hcv := Lib.run_convert_string_bytes (P := Tryz.prog) w2 9 59 5 ((strL fl).extract 0 sz) Tryz.underlying9 Tryz.underlying59 Tryz.underlying5
              have b3 := bytesWorld_below w2 5 ((strL fl).extract 0 sz)
              have hcm := grownCap_le_maxLen w2 sz 0 5 (by unfold maxLen; omega)
              have hcg := grownCap_ge w2 sz 0 5
              have HBT : Hid (Byts (Lib.bytesWorld w2 5 ((strL fl).extract 0 sz)) (.slice (some ⟨w2.heap.size, 0, none⟩) sz (grownCap w2 sz 0 5)) sz (fun k => F (k / c) (k % c))) := by
                refine ⟨fun k => hFb _ _, some ⟨w2.heap.size, 0, none⟩, _, rfl, hcg, hcm, fun j hj => ⟨w2.heap.size, 0, rfl, ?_⟩⟩
                rw [Nat.zero_add, Lib.bytesWorld_cell _ _ _ _ (by rw [HXS]; exact hj), extract_at HBY.out (by rw [HLL.out]; omega) hj, HGT.out j (by omega)]
              rw [HXS] at hcv
              generalize Lib.bytesWorld w2 5 ((strL fl).extract 0 sz) = w3 at hcv b3 HBT
              generalize grownCap w2 sz 0 5 = C3 at hcv HBT
              have b3 := bt b2 b3
              generalize strL fl = S at HLN hcv
              have HFI : Hid (∃ r, Gf.Bd2 r ∧ Gf.Und i (fun p => Gf.rowF i (thr (Seg.rl seg L g) (i + s) p)) r ∧ Byts w3 (.slice (some ⟨w2.heap.size, 0, none⟩) sz C3) (Seg.rz g (thr (Seg.rl seg L g) (i + s) 0)) (fun k => Gf.mm i (Gf.rowF i) (Gf.mm i r (fun p => Seg.rf g (thr (Seg.rl seg L g) (i + s) p))) (k / Seg.rl seg L g (thr (Seg.rl seg L g) (i + s) 0)) (k % Seg.rl seg L g (thr (Seg.rl seg L g) (i + s) 0)))) := by
                refine ⟨r, hr1, hr2, ?_⟩
                rw [hF, hc, ← HSZ.out]
                exact HBT.out
              clear hm hcm hcg HXS
              go_wp2_with fail
              go_ret2
              exact ⟨_, by rw [HE8.out]; rfl, Or.inl ⟨HE8.out, HFI.out⟩, b3⟩

end Go.Proofs.YtmcaejooaaahdaaGreat

namespace Go.Proofs.YtmcaejooaaahdaaGreat
open Go.RowKit

set_option maxHeartbeats 400000 in
set_option maxRecDepth 100000 in
theorem refRead_bad (A : Option Addr) (N cap : Nat) (seg d : Int) (w : World) (hN : N ≤ maxLen) (h : wrongC d ((N : Int) - d) ≠ 0) :
    Calls Tryz.prog 64 #[.slice A N cap, .int .i64 seg, .int .i64 d] w fun e w' => e = .returned (.tuple #[.slice none 0 0, .int .i64 5]) ∧ Below w.heap.size w w' := by
  unfold maxLen at hN
  have H : Hid (∀ w, Calls Tryz.prog 13 #[.int .i64 d, .int .i64 (wrap64 ((N : Int) - d))] w fun e w' => e = .returned (.int .i64 5) ∧ Below w.heap.size w w') := fun w => by
    have := refWrongC_any d (wrap64 ((N : Int) - d)) w
    rw [wrongC_bad (by
      unfold wrongC at h
      split at h
      · rename_i hb
        unfold wrap64
        omega
      · exact absurd rfl h)] at this
    exact this
  clear h hN
  go_enter Tryz.func64, Tryz.ntmps64
  go_wp2_with fail
  refine (H.out _).mono ?_
  rintro e w1 ⟨rfl, b1⟩
  go_wp2_with fail
  go_ret2
  exact ⟨rfl, b1⟩

/-- What Read tells of whatever blocks. -/
theorem refRead_any (v : Value) (N : Nat) (L : Nat → Nat) (g : Nat → Nat → Nat) (seg d : Int) (w : World) (h : Lls w v N L g) :
    Calls Tryz.prog 64 #[v, .int .i64 seg, .int .i64 d] w fun e w' => ∃ v', e = .returned (.tuple #[v', .int .i64 (readE seg d N L g : Nat)]) ∧ ReadO w' (readE seg d N L g) v' d.toNat N (Seg.rl seg L g) (Seg.rf g) (Seg.rz g (thr (Seg.rl seg L g) N 0)) ∧ Below w.heap.size w w' := by
  have hN := h.len
  obtain ⟨A, C, rfl⟩ := h.shape
  by_cases hw : wrongC d ((N : Int) - d) = 0
  · have hb : ¬ (d < 1 ∨ 8 < d ∨ (N : Int) - d < 0 ∨ 4 < (N : Int) - d) := fun q => by rw [wrongC_bad q] at hw; cases hw
    obtain ⟨n, rfl⟩ := Int.eq_ofNat_of_zero_le (show 0 ≤ d by omega)
    obtain ⟨s, rfl⟩ : ∃ s, N = n + s := ⟨N - n, by omega⟩
    exact refRead_ok A C n s L g seg w h (by omega) (by omega) (by omega)
  · have hE : readE seg d N L g = 5 := if_pos hw
    refine (refRead_bad A N C seg d w (by unfold maxLen; omega) hw).mono ?_
    rintro e w' ⟨rfl, hb⟩
    exact ⟨_, by rw [hE]; rfl, Or.inr ⟨by rw [hE]; decide, rfl⟩, hb⟩

end Go.Proofs.YtmcaejooaaahdaaGreat

namespace Go.Proofs.YtmcaejooaaahdaaGreat
open Go.RowKit

/-- Lists of bytes in a row. -/
def BlL (w : World) (v : Value) (L : List (List Nat)) : Prop := ∃ A cap, v = .slice A L.length cap ∧ L.length ≤ cap ∧ cap ≤ maxLen ∧ ∀ i x, L[i]? = some x → ∃ b o u, A = some ⟨b, o, none⟩ ∧ w.cell? ⟨b, o + i, none⟩ = some u ∧ BytL w u x
theorem BlL.below {w w' : World} {v : Value} {L : List (List Nat)} (h : BlL w v L) (hb : Below w.heap.size w w') : BlL w' v L := by
  obtain ⟨A, cap, hv, h1, h2, h3⟩ := h
  refine ⟨A, cap, hv, h1, h2, fun i x hx => ?_⟩
  obtain ⟨b, o, u, e1, e2, e3⟩ := h3 i x hx
  exact ⟨b, o, u, e1, (hb.cell (p := ⟨b, o + i, none⟩) (World.block_lt_of_cell? _ _ e2)).trans e2, e3.below hb⟩
theorem BlL.shape {w : World} {v : Value} {L : List (List Nat)} (h : BlL w v L) : ∃ A C, v = .slice A L.length C := by
  obtain ⟨A, C, hv, _⟩ := h
  exact ⟨A, C, hv⟩
theorem BlL.lls {w : World} {v : Value} {L : List (List Nat)} (h : BlL w v L) : Lls w v L.length (Sto.lenF L) (Sto.valF L) := by
  obtain ⟨A, cap, hv, h1, h2, h3⟩ := h
  refine ⟨fun i k => ?_, A, cap, hv, h1, h2, fun r hr => ?_⟩
  · unfold Sto.valF
    cases e : L[i]? with
    | none =>
      rw [List.getD_eq_getElem?_getD (l := L), e]
      show ([] : List Nat).getD k 0 < 256
      rw [List.getD_nil]
      decide
    | some x =>
      obtain ⟨_, _, _, _, _, hx⟩ := h3 i x e
      rw [List.getD_eq_getElem?_getD (l := L), e]
      exact Sto.getD_bytes hx.1 k
  · obtain ⟨b, o, u, e1, e2, e3⟩ := h3 r L[r] (List.getElem?_eq_getElem hr)
    refine ⟨b, o, u, e1, e2, ?_⟩
    have e : L.getD r [] = L[r] := by rw [List.getD_eq_getElem?_getD, List.getElem?_eq_getElem hr]; rfl
    unfold Sto.lenF Sto.valF
    rw [e]
    exact e3.byts
theorem Lls.blL {w : World} {v : Value} {n m : Nat} {F : Nat → Nat → Nat} (h : Lls w v n (fun _ => m) F) : BlL w v ((List.range n).map fun i => bl (F i) m) := by
  obtain ⟨A, cap, hv, h1, h2, h3⟩ := h.lies
  have e : ((List.range n).map fun i => bl (F i) m).length = n := by rw [List.length_map, List.length_range]
  refine ⟨A, cap, by rw [e]; exact hv, by rw [e]; exact h1, h2, fun i x hx => ?_⟩
  rw [List.getElem?_map] at hx
  obtain ⟨j, hj, rfl⟩ := Option.map_eq_some_iff.1 hx
  obtain ⟨hl, hj⟩ := List.getElem?_eq_some_iff.1 hj
  rw [List.getElem_range] at hj
  subst hj
  rw [List.length_range] at hl
  obtain ⟨b, o, u, e1, e2, e3⟩ := h3 i hl
  exact ⟨b, o, u, e1, e2, e3.list⟩
/-- What Lay and Mend tell. -/
def BlO (e : Ending) (w : World) (x : Nat × List (List Nat)) : Prop := ∃ v, e = .returned (.tuple #[v, .int .i64 (x.1 : Nat)]) ∧ ((x.1 = 0 ∧ BlL w v x.2) ∨ (x.1 ≠ 0 ∧ v = .slice none 0 0))
section
variable {X : Sto.Six}
theorem layR_any (hX : Sto.SixOk X) (v : Value) (r : List Nat) (seg : Nat) (c : Sto.Cfg) (w : World) (h : BytL w v r) :
    Calls Tryz.prog 62 #[v, .int .i64 (seg : Int), .int .i64 (c.d : Int), .int .i64 (c.s : Int)] w fun e w' => BlO e w' (X.lay r seg c) ∧ Below w.heap.size w w' := by
  refine (refLay_any v r.length (fun j => r.getD j 0) seg c.d c.s w h.byts).mono ?_
  rintro e w' ⟨v', rfl, hO, hb⟩
  refine ⟨⟨v', ?_, ?_⟩, hb⟩
  · rw [hX.lay]
    unfold Sto.layX
    by_cases q : Seg.layE r.length seg c.d c.s = 0
    · rw [if_pos q, q]
    · rw [if_neg q]
  · rw [hX.lay]
    unfold Sto.layX
    rcases hO with ⟨q, hL⟩ | ⟨q, rfl⟩
    · rw [if_pos q]
      rw [Int.toNat_natCast, Int.toNat_natCast, Int.toNat_natCast] at hL
      exact Or.inl ⟨rfl, hL.blL⟩
    · rw [if_neg q]
      exact Or.inr ⟨q, rfl⟩
theorem readR_any (hX : Sto.SixOk X) (v : Value) (bs : List (List Nat)) (seg : Nat) (c : Sto.Cfg) (w : World) (h : BlL w v bs) :
    Calls Tryz.prog 64 #[v, .int .i64 (seg : Int), .int .i64 (c.d : Int)] w fun e w' => ∃ v', e = .returned (.tuple #[v', .int .i64 ((X.read bs seg c).1 : Nat)]) ∧ BytL w' v' (X.read bs seg c).2 ∧ Below w.heap.size w w' := by
  refine (refRead_any v bs.length (Sto.lenF bs) (Sto.valF bs) seg c.d w h.lls).mono ?_
  rintro e w' ⟨v', rfl, hO, hb⟩
  have he := hX.err bs seg c
  rw [← he] at hO ⊢
  refine ⟨v', rfl, ?_, hb⟩
  rcases hO with ⟨q, r, r1, r2, hy⟩ | ⟨q, rfl⟩
  · rw [Int.toNat_natCast] at r2 hy
    rw [hX.told bs seg c q r r1 r2]
    exact hy.list
  · rw [hX.none bs seg c q]
    exact BytL.nil w'
theorem badR_any (hX : Sto.SixOk X) (v : Value) (bs : List (List Nat)) (seg : Nat) (w : World) (h : BlL w v bs) (hl : bs.length ≤ 12) :
    Calls Tryz.prog 37 #[v, .int .i64 (seg : Int)] w fun e w' => ∃ v', e = .returned v' ∧ Nums w' w.heap.size v' (X.bad bs seg) ∧ Below w.heap.size w w' := by
  rw [hX.bad]
  exact refBadS_any v bs.length (Sto.lenF bs) (Sto.valF bs) seg w h.lls (by omega)
end

end Go.Proofs.YtmcaejooaaahdaaGreat
