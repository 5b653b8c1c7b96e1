/-
  Texts of the proof, joined: SLay, AppZ, RefWork.
-/
import Derived.Test.YtmcaejooaaahdaaGreatZ51
import Derived.Test.YtmcaejooaaahdaaGreatZ52
import Derived.Test.YtmcaejooaaahdaaGreatZ09
import Derived.Lib.AppendZeros
namespace Go.Proofs.YtmcaejooaaahdaaGreat
open Go.RowKit

/-- The document's own Spare, and what comes of its answer behind the data. -/
theorem refSpare_join (N : Nat) (v : Value) (d s n : Nat) (G K : Nat → Nat) (D : Nat → Nat → Nat) (w : World) (hA : Acc w N v d n G K D) (HK : ∀ j, j < d → K j = n) (bd : Gf.Bd2 D) (h1 : 1 ≤ d) (h2 : d ≤ 8) (h3 : s ≤ 4) (hn1 : 1 ≤ n) (hn2 : n ≤ 400) (hN : N ≤ w.heap.size) :
    Calls Tryz.prog 94 #[v, .int .i64 (s : Int)] w fun e w' => ∃ vm v9 w5, e = .returned (.tuple #[vm, .int .i64 0]) ∧ (Builtin.append_ #[86, 86] 86 #[v, vm]).run Tryz.prog w' = .ok v9 w5 ∧ Lls w5 v9 (d + s) (fun _ => n) (Gf.mm d (Gf.rowF d) D) ∧ Below N w w5 := by
  have hM := hA.mx bd ⟨h1, by omega, hn1, hn2⟩
  have hbd := Gf.mm_bd (Gf.rowF_bd d) d D
  by_cases hs : 1 ≤ s
  · refine (refSpare_acc v d s n D w hM h2 hs h3).mono ?_
    rintro e w' ⟨vm, N', G', K', rfl, hN', hA', HK', hb⟩
    obtain ⟨v9, w5, r9, b9, A9⟩ := app_more w' N v d s n G K G' K' D _ N' vm (by omega) (Nat.le_trans hN hb.size) (Nat.le_trans hN hN') (hA.below hb) hA' hs
    refine ⟨vm, v9, w5, rfl, r9, ?_, (hb.mono hN).trans b9⟩
    refine lls_congr (A9.lls (fun i k => ?_) (fun i hi => ?_)) hbd (fun i hi k _ => ?_)
    · show (if i < d then D i else Gf.mm d (spareF d) D (i - d)) k < 256
      by_cases e : i < d
      · rw [if_pos e]; exact bd i k
      · rw [if_neg e]; exact Gf.mm_bd (spareF_bd d) d D (i - d) k
    · show n ≤ (if i < d then K i else K' (i - d)) ∧ (if i < d then K i else K' (i - d)) ≤ maxLen
      by_cases e : i < d
      · rw [if_pos e, HK i e]; exact ⟨Nat.le_refl _, by unfold maxLen; omega⟩
      · rw [if_neg e, HK' (i - d) (by omega)]; exact ⟨Nat.le_refl _, by unfold maxLen; omega⟩
    · show (if i < d then D i else Gf.mm d (spareF d) D (i - d)) k = _
      by_cases e : i < d
      · rw [if_pos e, shard_data bd e]
      · rw [if_neg e]
        have e2 : spareF d (i - d) = Gf.rowF d i := by
          show Gf.rowF d (d + (i - d)) = _
          rw [show d + (i - d) = i by omega]
        show Gf.dot d (spareF d (i - d)) _ = Gf.dot d (Gf.rowF d i) _
        rw [e2]
  · obtain rfl : s = 0 := by omega
    have hE : spareE d (fun _ => n) ((0 : Nat) : Int) = 0 := by
      unfold spareE
      rw [if_neg (fun q => q (wrongC_ok (by omega)))]
      exact hM.ok
    refine (refSpareO v d (fun _ => n) D ((0 : Nat) : Int) w hM.arg).mono ?_
    rintro e w' ⟨vm, rfl, hO, hb⟩
    rw [hE] at hO ⊢
    obtain rfl : vm = .slice none 0 0 := by
      rcases hO with ⟨_, hx⟩ | ⟨_, hx⟩
      · exact absurd hx.dim.1 (by decide)
      · exact hx
    obtain ⟨g, cap, rfl, _, hcap, _⟩ := rowC_owns hA.own h1
    refine ⟨_, _, _, rfl, app_nil w' 86 86 Tryz.underlying86 Tryz.underlying86 g 0 d cap hcap 86, ?_, hb.mono hN⟩
    refine lls_congr ((hA.below hb).lls bd (fun i hi => ?_)) hbd (fun i hi k _ => (shard_data bd hi k).symm)
    rw [HK i hi]
    exact ⟨Nat.le_refl _, by unfold maxLen; omega⟩

theorem upto_at (k : Nat) (M N : Nat → Nat) : upto k M N k = N k := if_neg (Nat.lt_irrefl k)
theorem upto_put {k x : Nat} {M N : Nat → Nat} (h : M k = x) (y : Nat) : (if y = k then Value.int .u8 ((x : Nat) : Int) else .int .u8 ((upto k M N y : Nat) : Int)) = .int .u8 ((upto (k + 1) M N y : Nat) : Int) := by
  unfold upto
  by_cases e : y = k
  · rw [if_pos e, if_pos (by omega), e, h]
  · rw [if_neg e]
    by_cases e2 : y < k
    · rw [if_pos e2, if_pos (by omega)]
    · rw [if_neg e2, if_neg (by omega)]
theorem upto_same {k : Nat} {M : Nat → Nat} (h : M k = 0) (y : Nat) : Value.int .u8 ((upto k M (fun _ => 0) y : Nat) : Int) = .int .u8 ((upto (k + 1) M (fun _ => 0) y : Nat) : Int) := by
  unfold upto
  by_cases e : y < k
  · rw [if_pos e, if_pos (by omega)]
  · rw [if_neg e]
    by_cases e2 : y < k + 1
    · rw [if_pos e2, show y = k by omega, h]
    · rw [if_neg e2]
set_option maxHeartbeats 2000000 in
set_option maxRecDepth 100000 in
theorem refLay_ok (v : Value) (L : Nat) (r : Nat → Nat) (seg d s : Nat) (w : World) (h : Byts w v L r) (h1 : 1 ≤ d) (h2 : d ≤ 8) (h3 : s ≤ 4) (h4 : seg ≤ 39) (h5 : L ≤ 400 * d) :
    Calls Tryz.prog 62 #[v, .int .i64 (seg : Int), .int .i64 (d : Int), .int .i64 (s : Int)] w fun e w' => ∃ v', e = .returned (.tuple #[v', .int .i64 0]) ∧ Lls w' v' (d + s) (fun _ => Seg.layN L d + 11) (Seg.blk r L seg d) ∧ Below w.heap.size w w' := by
  have hn1 := Seg.layN_pos L d h1
  have hn2 := Seg.layN_le h1 h5
  have HW := fun w' => refWrongC_any (d : Int) (s : Int) w'
  rw [wrongC_ok (by omega)] at HW
  have hm1 : ¬ 400 * (d : Int) < (L : Int) := by omega
  have hm2 : (seg : Int) ≤ 39 := by omega
  have HYB : Hid (∀ w', Below w.heap.size w w' → Byts w' v L r) := fun w' hb => h.below hb
  have HRM : Hid (L ≤ Seg.layN L d * d) := Seg.layN_room L d h1
  have HRL : Hid (∀ n, 1 ≤ n → L ≤ n * d → Seg.layN L d ≤ n) := fun n q1 q2 => Seg.layN_least h1 q1 q2
  have HBD : Hid (Gf.Bd2 (Seg.layD r L (Seg.layN L d))) := Seg.layD_bd h.bd L _
  obtain ⟨A, C, rfl⟩ := h.shape
  have HYC : Hid (∀ w', Below w.heap.size w w' → ∀ k, k < L → ∃ b o, A = some ⟨b, o, none⟩ ∧ w'.cell? ⟨b, o + k, none⟩ = some (.int .u8 (r k : Nat))) := fun w' hb k hk => by
    obtain ⟨_, A', C', hv, _, _, hc⟩ := h.below hb
    cases hv
    exact hc k hk
  obtain ⟨i0, hi0, hh⟩ := Option.map_eq_some_iff.1 Tryz.infoRow
  simp only [Prod.mk.injEq] at hh
  obtain ⟨hz0, hz1, hz2⟩ := hh
  clear h
  go_enter Tryz.func62, Tryz.ntmps62
  go_wp2_with fail
  refine (HW _).mono ?_
  rintro e w1 ⟨rfl, b1⟩
  clear HW
  go_wp2_with fail
  go_loop [11] (fun x => ∃ n : Nat, 1 ≤ n ∧ n ≤ Seg.layN L d ∧ x = .int .i64 n) (fun x => Seg.layN L d - (intOf x).toNat)
  case atStart => exact ⟨1, Nat.le_refl _, hn1, rfl⟩
  case round =>
    obtain ⟨n, q1, q2, rfl⟩ := hrel
    have hmul : n * d ≤ 400 * 8 := Nat.mul_le_mul (by omega) h2
    have hcast : (n : Int) * (d : Int) = ((n * d : Nat) : Int) := by rw [Int.natCast_mul]
    have hw : IntKind.i64.wrap ((n : Int) * (d : Int)) = (n : Int) * (d : Int) := by rw [hcast, IntKind.wrap_i64]; omega
    have hw0 : -9223372036854775808 ≤ (n : Int) * (d : Int) := by rw [hcast]; omega
    have hw1 : (n : Int) * (d : Int) ≤ 9223372036854775807 := by rw [hcast]; omega
    by_cases hlt : n * d < L
    · have hlt' : (n : Int) * (d : Int) < (L : Int) := by rw [hcast]; omega
      have HLT : Hid (n < Seg.layN L d) := by
        show n < _
        refine Nat.lt_of_not_le (fun q => ?_)
        have := HRM.out
        have h9 := Nat.mul_le_mul_right d q
        omega
      clear hcast hlt hmul
      go_wp2_with fail
      have := HLT.out
      exact ⟨⟨n + 1, by omega, by omega, by go_num⟩, by simp [intOf]; omega⟩
    · have hlt' : ¬ (n : Int) * (d : Int) < (L : Int) := by rw [hcast]; omega
      obtain rfl : n = Seg.layN L d := Nat.le_antisymm q2 (HRL.out n q1 (by omega))
      generalize hnn : Seg.layN L d = n at *
      clear hcast hlt hmul q1 q2 HRM HRL
      go_wp2_with fail
      clear hw hw0 hw1 hlt'
      go_loopw [12, 13] (fun y x wr => ∃ i : Nat, i ≤ d ∧ x = .int .i64 i ∧ (∃ G K, Acc wr w1.heap.size y i n G K (Seg.layD r L n) ∧ Hid (∀ j, j < i → K j = n)) ∧ Below w1.heap.size w1 wr) (fun _ x _ => d - (intOf x).toNat)
      case atStart => exact ⟨0, Nat.zero_le _, rfl, ⟨fun _ => 0, fun _ => 0, Acc.start w1 _ n _ _ _, fun j hj => absurd hj (Nat.not_lt_zero j)⟩, Below.refl _ _⟩
      case round =>
        obtain ⟨i, hid, rfl, ⟨G2, K2, hA, HK⟩, hbo⟩ := hrel
        obtain ⟨wo, rfl⟩ : ∃ x, x = wr := ⟨wr, rfl⟩
        by_cases hi : i < d
        · have hi' : (i : Int) < (d : Int) := by omega
          have hmul : i * n ≤ 8 * 400 := Nat.mul_le_mul (by omega) hn2
          have hcast : (i : Int) * (n : Int) = ((i * n : Nat) : Int) := by rw [Int.natCast_mul]
          have hw : IntKind.i64.wrap ((i : Int) * (n : Int)) = (i : Int) * (n : Int) := by rw [hcast, IntKind.wrap_i64]; omega
          have hmk := run_make_row' (P := Tryz.prog) 59 5 (.int .u8 0) 1 Tryz.underlying59 Tryz.infoByte rfl .i64 .i64 n (by omega) (by omega)
          have HCS : Hid ((i : Int) * (n : Int) = ((i * n : Nat) : Int)) := hcast
          obtain ⟨q, hq⟩ : ∃ q, i * n = q := ⟨_, rfl⟩
          rw [hq] at hcast hmul
          have HQ : Hid (i * n = q) := hq
          have HIQ : Hid ((i : Int) * (n : Int) = (q : Int)) := hcast
          clear hcast hq
          go_wp2_with fail
          clear hmk
          go_loopw [57] (fun x wm => ∃ k : Nat, k ≤ n ∧ x = .int .i64 k ∧ wm.rowIs wo.heap.size 5 n (fun y => .int .u8 (upto k (Seg.layD r L n i) (fun _ => 0) y : Nat)) ∧ Below wo.heap.size wo wm) (fun x _ => n - (intOf x).toNat)
          case atStart => exact ⟨0, Nat.zero_le _, rfl, (World.rowIs_made wo (.int .u8 0) n 5).congr (fun j _ => by rw [show upto 0 (Seg.layD r L n i) (fun _ => 0) j = 0 from if_neg (Nat.not_lt_zero _)]; rfl), (Below.refl _ _).alloc (Nat.le_refl _) _⟩
          case round =>
            obtain ⟨k, hkc, rfl, hR, hbm⟩ := hrel
            by_cases hk : k < n
            · have hk' : (k : Int) < (n : Int) := by omega
              have hiq := HIQ.out
              have z1 := hR.frozen k
              have u1 := hR.cell hk
              rw [upto_at] at u1
              by_cases hin : q + k < L
              · have hin' : (q : Int) + (k : Int) < (L : Int) := by omega
                have HD : Hid (Seg.layD r L n i k = r (q + k)) := by
                  show Seg.layD r L n i k = r (q + k)
                  rw [Seg.layD_in hk (by rw [HQ.out]; exact hin), HQ.out]
                obtain ⟨bb, ob, rfl, t1⟩ := HYC.out wr (bt (bt b1 hbo) hbm) (q + k) hin
                have HP : Hid ((wr.setCell ⟨wo.heap.size, k, none⟩ (.int .u8 ((r (q + k) : Nat) : Int))).rowIs wo.heap.size 5 n (fun y => .int .u8 (upto (k + 1) (Seg.layD r L n i) (fun _ => 0) y : Nat))) := (hR.set k _).congr (fun y _ => upto_put HD.out y)
                have hbP := hbm.setCell (p := ⟨wo.heap.size, k, none⟩) (Nat.le_refl _) (.int .u8 ((r (q + k) : Nat) : Int))
                generalize r (q + k) = x at t1 HP hbP
                clear hR
                go_wp2_with fail
                exact ⟨⟨k + 1, by omega, by go_num, HP.out, hbP⟩, by simp [intOf]; omega⟩
              · have hin' : ¬ (q : Int) + (k : Int) < (L : Int) := by omega
                have HP : Hid (wr.rowIs wo.heap.size 5 n (fun y => .int .u8 (upto (k + 1) (Seg.layD r L n i) (fun _ => 0) y : Nat))) := hR.congr (fun y _ => upto_same (Seg.layD_out (by rw [HQ.out]; exact hin)) y)
                clear hR
                go_wp2_with fail
                exact ⟨⟨k + 1, by omega, by go_num, HP.out, hbm⟩, by simp [intOf]; omega⟩
            · obtain rfl : k = n := by omega
              have hF : RowC wr wo.heap.size 5 k (fun y => .int .u8 (Seg.layD r L k i y : Nat)) := rowC_of (hR.congr (fun y hy => by rw [show upto k (Seg.layD r L k i) (fun _ => 0) y = Seg.layD r L k i y from if_pos hy]))
              have hbX := (Below.refl wr.heap.size wr).alloc (Nat.le_refl _) (.cells #[.slice (some ⟨wo.heap.size, 0, none⟩) k k] 59)
              have AX := (hA.below hbm).below hbX
              have rX := hF.alloc (.cells #[.slice (some ⟨wo.heap.size, 0, none⟩) k k] 59)
              have bX := bt (bt hbo hbm) hbX
              clear hR hF hA
              go_wp2_with (at_builtin; refine wpList_append_own _ rfl (.tmp 80) (.tmp 82) 86 rfl w1.heap.size 59 i0 (.slice none 0 0) 1 24 Tryz.underlying86 hi0 hz0 hz1 hz2 rfl (by decide) _ _ _ rfl AX.own ⟨wr.heap.size, 0, none⟩ 1 1 [.slice (some ⟨wo.heap.size, 0, none⟩) k k] rfl rfl cell_one (by intro u hu; simp at hu; subst hu; rfl) (by unfold maxLen; omega) (by omega) bX.size ?_; intro v4 w4 hown1 hgrow1 _)
              have A1 := AX.step ⟨hbo.size, rX⟩ hown1 hgrow1
              have b4 : Below w1.heap.size w1 w4 := bX.grown hgrow1 bX.size (fun x hx => (AX.own.lt x hx).1)
              clear hown1 hgrow1 AX rX bX hbX hbm
              go_wp2_with fail
              exact ⟨⟨i + 1, by omega, by go_num, ⟨_, _, A1, fun j hj => by
                unfold updG
                by_cases e : j = i
                · rw [if_pos e]
                · rw [if_neg e]; exact HK.out j (by omega)⟩, b4⟩, by simp [intOf]; omega⟩
        · obtain rfl : i = d := by omega
          have HS := refSpare_join w1.heap.size u12 i s n G2 K2 (Seg.layD r L n) wo hA HK.out HBD.out h1 h2 h3 hn1 hn2 hbo.size
          have HSH : Hid (Gf.mm i (Gf.rowF i) (Seg.layD r L n) = Seg.shard r L i) := by
            show _ = Seg.shard r L i
            unfold Seg.shard
            rw [hnn]
          clear hA
          go_wp2_with fail
          refine HS.mono ?_
          rintro e w2 ⟨vm, v9, w5, rfl, r9, L9, b5⟩
          rw [HSH.out] at L9
          have b5 := hbo.trans b5
          obtain ⟨A9, C9, rfl⟩ := L9.shape
          have bw5 := bt b1 b5
          have hds : i + s ≤ 12 := by omega
          clear HS
          go_wp2_with (at_builtin; refine Lib.wpList_append_run _ rfl (.tmp 90) (.tmp 91) 86 86 rfl _ _ rfl rfl _ _ r9 ?_)
          clear r9
          have HL9 : Hid (∀ w', Below w5.heap.size w5 w' → ∀ j, j < i + s → ∃ b o R K, A9 = some ⟨b, o, none⟩ ∧ w'.cell? ⟨b, o + j, none⟩ = some (.slice R n K) ∧ Byts w' (.slice R n K) n (Seg.shard r L i j)) := fun w' hb j hj => (L9.below hb).at hj
          have HWB : Hid (∀ j, j < i + s → Crc.wrongB seg j L n = 0) := fun j hj => Crc.wrongB_ok (by omega) (by omega)
          have HBF : Hid (∀ j, j < i + s → encI (seg : Int) (j : Int) (L : Int) n (Seg.shard r L i j) = Seg.blk r L seg i j) := fun j hj => by
            unfold encI
            rw [Seg.blk_in (by omega), hnn]
            rfl
          clear L9
          go_loopw [18, 94] (fun y x wr => ∃ j : Nat, j ≤ i + s ∧ x = .int .i64 j ∧ (∃ G K, Acc wr w5.heap.size y j (n + 11) G K (Seg.blk r L seg i) ∧ Hid (∀ t, t < j → n + 11 ≤ K t ∧ K t ≤ maxLen)) ∧ Below w5.heap.size w5 wr) (fun _ x _ => i + s - (intOf x).toNat)
          case atStart => exact ⟨0, Nat.zero_le _, rfl, ⟨fun _ => 0, fun _ => 0, Acc.start w5 _ (n + 11) _ _ _, fun j hj => absurd hj (Nat.not_lt_zero j)⟩, Below.refl _ _⟩
          case round =>
            obtain ⟨j, hj, rfl, ⟨G3, K3, hA3, HK3⟩, hb3⟩ := hrel
            by_cases hjl : j < i + s
            · have hjl' : (j : Int) < (i : Int) + (s : Int) := by omega
              have hjl2 : (j : Int) < ((i + s : Nat) : Int) := by omega
              obtain ⟨b9, o9, R9, K9, rfl, t9, y9⟩ := HL9.out wr hb3 j hjl
              have HBB := refBytes_any (.agg #[.int .i64 (seg : Int), .int .i64 (j : Int), .int .i64 (L : Int), .slice R9 n K9]) seg j L n (Seg.shard r L i j) wr ⟨_, rfl, y9⟩
              rw [HWB.out j hjl, HBF.out j hjl] at HBB
              clear y9
              go_wp2_with fail
              refine HBB.mono ?_
              rintro e w6 ⟨v6, rfl, O6, b6⟩
              have hM6 : Made w6 wr.heap.size v6 (n + 11) (Seg.blk r L seg i j) := by
                rcases O6 with ⟨_, q⟩ | ⟨q, _⟩
                · exact q
                · exact absurd rfl q
              obtain ⟨g6, c6, rfl, hg6, hc6, hm6, R6⟩ := hM6
              have hbX := (Below.refl w6.heap.size w6).alloc (Nat.le_refl _) (.cells #[.slice (some ⟨g6, 0, none⟩) (n + 11) c6] 59)
              have AX := (hA3.below b6).below hbX
              have rX := R6.alloc (.cells #[.slice (some ⟨g6, 0, none⟩) (n + 11) c6] 59)
              have bX := bt (bt hb3 b6) hbX
              have HG6 : Hid (w5.heap.size ≤ g6) := Nat.le_trans hb3.size hg6
              clear HBB O6 hA3 R6
              go_wp2_with (at_builtin; refine wpList_append_own _ rfl (.tmp 109) (.tmp 111) 86 rfl w5.heap.size 59 i0 (.slice none 0 0) 1 24 Tryz.underlying86 hi0 hz0 hz1 hz2 rfl (by decide) _ _ _ rfl AX.own ⟨w6.heap.size, 0, none⟩ 1 1 [.slice (some ⟨g6, 0, none⟩) (n + 11) c6] rfl rfl cell_one (by intro u hu; simp at hu; subst hu; rfl) (by unfold maxLen; omega) (by omega) bX.size ?_; intro v7 w7 hown1 hgrow1 _)
              have A1 := AX.step ⟨HG6.out, rX⟩ hown1 hgrow1
              have b7 : Below w5.heap.size w5 w7 := bX.grown hgrow1 bX.size (fun x hx => (AX.own.lt x hx).1)
              clear hown1 hgrow1 AX rX bX hbX
              exact ⟨⟨j + 1, by omega, by go_num, ⟨_, _, A1, fun t ht => by
                unfold updG
                by_cases e : t = j
                · rw [if_pos e]; exact ⟨hc6, hm6⟩
                · rw [if_neg e]; exact HK3.out t (by omega)⟩, b7⟩, by simp [intOf]; omega⟩
            · obtain rfl : j = i + s := by omega
              have HR : Hid (Lls wr u18 (i + s) (fun _ => Seg.layN L i + 11) (Seg.blk r L seg i)) := by
                show Lls wr u18 (i + s) (fun _ => Seg.layN L i + 11) (Seg.blk r L seg i)
                rw [hnn]
                exact hA3.lls (Seg.blk_bd h1 h5 h4 h2) HK3.out
              have bz := bt bw5 hb3
              clear hA3
              go_wp2_with fail
              go_ret2
              exact ⟨_, rfl, HR.out, bz⟩

set_option maxHeartbeats 400000 in
set_option maxRecDepth 100000 in
theorem refLay_any (v : Value) (L : Nat) (r : Nat → Nat) (seg d s : Int) (w : World) (h : Byts w v L r) :
    Calls Tryz.prog 62 #[v, .int .i64 seg, .int .i64 d, .int .i64 s] w fun e w' => ∃ v', e = .returned (.tuple #[v', .int .i64 (Seg.layE L seg d s : Nat)]) ∧ LayO w' (Seg.layE L seg d s) v' (d.toNat + s.toNat) (Seg.layN L d.toNat + 11) (Seg.blk r L seg.toNat d.toNat) ∧ Below w.heap.size w w' := by
  have hL := h.len
  have HW := fun w' => refWrongC_any d s w'
  by_cases q1 : d < 1 ∨ 8 < d ∨ s < 0 ∨ 4 < s
  · have HE : Hid (Seg.layE L seg d s = 5) := if_pos q1
    rw [wrongC_bad q1] at HW
    clear q1
    go_enter Tryz.func62, Tryz.ntmps62
    go_wp2_with fail
    refine (HW _).mono ?_
    rintro e w1 ⟨rfl, b1⟩
    clear HW
    go_wp2_with fail
    go_ret2
    exact ⟨_, by rw [HE.out]; rfl, Or.inr ⟨by rw [HE.out]; decide, rfl⟩, b1⟩
  rw [wrongC_ok q1] at HW
  by_cases q2 : seg < 0 ∨ 39 < seg
  · have HE : Hid (Seg.layE L seg d s = 3) := by
      show Seg.layE L seg d s = 3
      unfold Seg.layE
      rw [if_neg q1, if_pos q2]
    by_cases q3 : seg < 0
    · clear q1 q2
      go_enter Tryz.func62, Tryz.ntmps62
      go_wp2_with fail
      refine (HW _).mono ?_
      rintro e w1 ⟨rfl, b1⟩
      clear HW
      go_wp2_with fail
      go_ret2
      exact ⟨_, by rw [HE.out]; rfl, Or.inr ⟨by rw [HE.out]; decide, rfl⟩, b1⟩
    · have q4 : 39 < seg := by omega
      clear q1 q2
      go_enter Tryz.func62, Tryz.ntmps62
      go_wp2_with fail
      refine (HW _).mono ?_
      rintro e w1 ⟨rfl, b1⟩
      clear HW
      go_wp2_with fail
      go_ret2
      exact ⟨_, by rw [HE.out]; rfl, Or.inr ⟨by rw [HE.out]; decide, rfl⟩, b1⟩
  by_cases q3 : 400 * d < (L : Int)
  · have HE : Hid (Seg.layE L seg d s = 4) := by
      show Seg.layE L seg d s = 4
      unfold Seg.layE
      rw [if_neg q1, if_neg q2, if_pos q3]
    obtain ⟨A, C, rfl⟩ := h.shape
    have p1 : ¬ seg < 0 := by omega
    have p2 : ¬ 39 < seg := by omega
    have p3 : 1 ≤ d := by omega
    have p4 : d ≤ 8 := by omega
    clear q1 q2 h
    go_enter Tryz.func62, Tryz.ntmps62
    go_wp2_with fail
    refine (HW _).mono ?_
    rintro e w1 ⟨rfl, b1⟩
    clear HW
    go_wp2_with fail
    go_ret2
    exact ⟨_, by rw [HE.out]; rfl, Or.inr ⟨by rw [HE.out]; decide, rfl⟩, b1⟩
  · obtain ⟨d', rfl⟩ := Int.eq_ofNat_of_zero_le (show 0 ≤ d by omega)
    obtain ⟨s', rfl⟩ := Int.eq_ofNat_of_zero_le (show 0 ≤ s by omega)
    obtain ⟨g', rfl⟩ := Int.eq_ofNat_of_zero_le (show 0 ≤ seg by omega)
    have HE : Seg.layE L g' d' s' = 0 := layE_ok (by omega) (by omega) (by omega) (by omega) (by omega)
    refine (refLay_ok v L r g' d' s' w h (by omega) (by omega) (by omega) (by omega) (by omega)).mono ?_
    rintro e w' ⟨v', rfl, hl, hb⟩
    exact ⟨v', by rw [HE]; rfl, Or.inl ⟨HE, hl⟩, hb⟩

end Go.Proofs.YtmcaejooaaahdaaGreat

namespace Go.Proofs.YtmcaejooaaahdaaGreat
open Go.RowKit

theorem zeroCells_one (z : Value) (h : z.cells = #[z]) (m : Nat) : (Builtin.zeroCells z.cells m).toList = List.replicate m z := by
  rw [h]
  apply List.ext_getElem?
  intro i
  simp only [Builtin.zeroCells]
  by_cases hi : i < m
  · simp [hi, Nat.mod_one]
  · simp [hi]

theorem run_append_zeros {P : Program} (w : World) (N : Nat) (t tn ty e : TypeId) (i : TypeInfo) (z : Value) (bytes : Nat) (k kn : IntKind) (ht : P.underlying t = some (.slice e)) (htn : P.underlying tn = some (.int kn)) (hi : P.info? e = some i) (hz : i.zero = some z)
    (hsize : i.size = 1) (hby : i.bytes = bytes) (hzc : z.cells = #[z]) (hz1 : z.oneCell' = true) (v : Value) (n : Nat) (xs : List Value) (hown : w.ownsRow N e 1 v n xs) (hn : 1 ≤ n) (m : Nat) (hm : 1 ≤ m)
    (h63 : n + m ≤ 1000000) (hb : bytes ≤ 1000) (hN : N ≤ w.heap.size) :
    ∃ v' w', (Builtin.append_ #[t, tn] ty #[v, .int k m]).run P w = .ok v' w' ∧ w'.ownsRow N e 1 v' (n + m) (xs ++ List.replicate m z) ∧ w.grownBy w' v.ownBlock := by
  subst hby
  have hw : IntKind.i64.wrap (m : Int) = m := by rw [IntKind.wrap_i64]; omega
  have hneg : ¬ ((m : Int) < 0) := by omega
  have hnm : m ≠ 0 := by omega
  have hmb : m * i.bytes ≤ 1000000 * 1000 := Nat.mul_le_mul (by omega) hb
  have hnb : (n + m) * i.bytes ≤ 1000000 * 1000 := Nat.mul_le_mul h63 hb
  have h48i : ¬ (281474976710656 < (m : Int) * (i.bytes : Int)) := by
    rw [← Int.natCast_mul]
    omega
  have hown' := hown
  obtain ⟨hl, hv⟩ := hown
  rcases hv with ⟨_, h0⟩ | ⟨g, cap, cur, rfl, hNg, hg, hc, hcm, hcs, htk⟩
  · omega
  have hlen : xs.length = n := by omega
  by_cases hroom : n + m ≤ cap
  · have hst := run_storeCells_at P g (n * i.size) e (List.replicate m z) 0 cur w hg (by rw [hsize]; simp; omega) (fun u hu => by rw [List.eq_of_mem_replicate hu]; exact hz1)
    simp only [Nat.add_zero] at hst
    refine ⟨.slice (some ⟨g, 0, none⟩) (n + m) cap, w.setRow g (cur.toList.take (n * i.size) ++ List.replicate m z ++ cur.toList.drop (n * i.size + (List.replicate m z).length)).toArray, ?_, ?_, ?_⟩
    · simp [Builtin.append_, run_underlying ht, run_underlying htn, sizeOf, typeInfo, zeroValue, hi, hz, asInt, asIntOf, hw, hnm, hneg, h48i, hroom, hsize, zeroCells_one z hzc, Addr.add_lit]
      simp [hsize] at hst
      rw [hst]
      simp
    · refine ⟨by simp [hlen], .inr ⟨g, cap, _, rfl, hNg, setRow_heap w g cur _ e _ hg, hroom, hcm, ?_, ?_⟩⟩
      · simp only [List.size_toArray, List.length_append, List.length_take, List.length_drop, Array.length_toList, List.length_replicate, hsize]
        omega
      · rw [hsize, htk]
        have e1 : (xs ++ List.replicate m z).length = (n + m) * 1 := by simp [hlen]
        rw [← e1]
        exact List.take_left
    · exact ⟨rfl, rfl, rfl, by simp, fun x _ hx => setRow_other w g x _ (fun e => hx (by simp [Value.ownBlock, e]))⟩
  · have hge := grownCap_ge w (n + m) cap e
    have hcm' : grownCap w (n + m) cap e ≤ maxLen := grownCap_le_maxLen w (n + m) cap e (by unfold maxLen; omega)
    have hold : (Builtin.firstCells 1 n (.slice (some ⟨g, 0, none⟩) n cap)).run P w.drew = .ok xs.toArray w.drew :=
      run_firstCells_some w.drew 1 n ⟨g, 0, none⟩ n cap xs (by omega) (fun j u hj => by rw [show w.drew.cell? ((⟨g, 0, none⟩ : Addr).add j) = w.cell? ((⟨g, 0, none⟩ : Addr).add j) from rfl]; exact hown'.cells (g := g) rfl j u hj)
    have h63' : ¬ (9223372036854775807 < ((n : Int) + (m : Int))) := by omega
    have hfit := growslice_fits (need := n + m) (old := cap) (bytes := i.bytes) (by omega) (by omega)
    have h48' : ¬ (281474976710656 < Builtin.nextslicecap (n + m) cap * i.bytes) := by omega
    refine ⟨.slice (some ⟨w.heap.size, 0, none⟩) (n + m) (grownCap w (n + m) cap e), w.drew.alloc (.cells (xs.toArray ++ (Builtin.zeroCells z.cells m ++ Builtin.zeroCells z.cells (grownCap w (n + m) cap e - (n + m)))) e), ?_, ?_, ?_⟩
    · simp [Builtin.append_, run_underlying ht, run_underlying htn, sizeOf, typeInfo, zeroValue, hi, hz, asInt, asIntOf, hw, hnm, hneg, h48i, hroom, hsize, h63', h48', Question.forced, hold, newRow, grownCap]
    · refine ⟨by simp [hlen], .inr ⟨w.heap.size, _, _, rfl, hN, heap_alloc_new w.drew _, hge, hcm', ?_, ?_⟩⟩
      · simp only [Array.size_append, List.size_toArray, size_zeroCells, hzc, hlen]
        simp
        omega
      · simp only [Array.toList_append, zeroCells_one z hzc]
        have e1 : (xs ++ List.replicate m z).length = (n + m) * 1 := by simp [hlen]
        rw [← List.append_assoc, ← e1]
        exact List.take_left
    · exact ⟨rfl, rfl, rfl, by simp, fun x hx _ => Deep.blk_alloc_lt w.drew _ x hx⟩

end Go.Proofs.YtmcaejooaaahdaaGreat

namespace Go.Proofs.YtmcaejooaaahdaaGreat
open Go.RowKit

structure Work (w : World) (N b n c : Nat) (G K : Nat → Nat) (f : Nat → Nat → Nat) : Prop where
  top : RowC w b 59 n (fun r => .slice (some ⟨G r, 0, none⟩) c (K r))
  row : ∀ r, r < n → RowC w (G r) 5 c (fun k => .int .u8 (f r k : Nat))
  lob : N ≤ b
  low : ∀ r, r < n → N ≤ G r
  inj : ∀ r s, r < n → s < n → r ≠ s → G r ≠ G s

theorem Work.apart {w : World} {N b n c : Nat} {G K : Nat → Nat} {f : Nat → Nat → Nat} (h : Work w N b n c G K f) (r : Nat) (hr : r < n) : G r ≠ b := (h.row r hr).ne h.top (by decide)
theorem Work.below {w w' : World} {N b n c : Nat} {G K : Nat → Nat} {f : Nat → Nat → Nat} (h : Work w N b n c G K f) (hb : Below w.heap.size w w') : Work w' N b n c G K f :=
  ⟨h.top.below hb, fun r hr => (h.row r hr).below hb, h.lob, h.low, h.inj⟩
theorem Work.drew {w : World} {N b n c : Nat} {G K : Nat → Nat} {f : Nat → Nat → Nat} (h : Work w N b n c G K f) : Work w.drew N b n c G K f := ⟨h.top, h.row, h.lob, h.low, h.inj⟩
theorem Work.congr {w : World} {N b n c : Nat} {G K : Nat → Nat} {f f' : Nat → Nat → Nat} (h : Work w N b n c G K f) (he : ∀ i, i < n → ∀ j, j < c → f i j = f' i j) : Work w N b n c G K f' :=
  ⟨h.top, fun i hi => (h.row i hi).congr (fun j hj => by rw [he i hi j hj]), h.lob, h.low, h.inj⟩
theorem Work.swap {w : World} {N b n c a p : Nat} {G K : Nat → Nat} {f : Nat → Nat → Nat} (h : Work w N b n c G K f) (ha : a < n) (hp : p < n) :
    Work ((w.setCell ⟨b, a, none⟩ (.slice (some ⟨G p, 0, none⟩) c (K p))).setCell ⟨b, p, none⟩ (.slice (some ⟨G a, 0, none⟩) c (K a))) N b n c (swpG a p G) (swpG a p K) (Gf.swp a p f) := by
  have es : ∀ i, i < n → ∃ s, s < n ∧ swpG a p G i = G s ∧ Gf.swp a p f i = f s ∧ s = (if i = a then p else if i = p then a else i) := fun i hi => by
    unfold swpG Gf.swp
    by_cases h1 : i = a
    · exact ⟨p, hp, by rw [if_pos h1], by rw [if_pos h1], by rw [if_pos h1]⟩
    · by_cases h2 : i = p
      · exact ⟨a, ha, by rw [if_neg h1, if_pos h2], by rw [if_neg h1, if_pos h2], by rw [if_neg h1, if_pos h2]⟩
      · exact ⟨i, hi, by rw [if_neg h1, if_neg h2], by rw [if_neg h1, if_neg h2], by rw [if_neg h1, if_neg h2]⟩
  refine ⟨((h.top.set a _).set p _).congr (fun i _ => ?_), fun i hi => ?_, h.lob, fun i hi => ?_, fun i j hi hj hne => ?_⟩
  · unfold swpG
    by_cases h2 : i = p
    · rw [if_pos h2]
      by_cases h1 : i = a
      · rw [if_pos h1, if_pos h1, ← h1, ← h2]
      · rw [if_neg h1, if_pos h2, if_neg h1, if_pos h2]
    · rw [if_neg h2]
      by_cases h1 : i = a
      · rw [if_pos h1, if_pos h1, if_pos h1]
      · rw [if_neg h1, if_neg h1, if_neg h2, if_neg h1, if_neg h2]
  · obtain ⟨s, hs, e1, e2, _⟩ := es i hi
    rw [e1, e2]
    exact ((h.row s hs).setOther (h.apart s hs) _).setOther (h.apart s hs) _
  · obtain ⟨s, hs, e1, _, _⟩ := es i hi
    rw [e1]
    exact h.low s hs
  · obtain ⟨s, hs, e1, _, e3⟩ := es i hi
    obtain ⟨t, ht, d1, _, d3⟩ := es j hj
    rw [e1, d1]
    refine h.inj s t hs ht ?_
    rw [e3, d3]
    (repeat' split) <;> omega
/-- One byte of it rewritten. -/
theorem Work.put {w : World} {N b n c i k x : Nat} {G K : Nat → Nat} {f f' : Nat → Nat → Nat} (h : Work w N b n c G K f) (hi : i < n) (_hk : k < c) (he : ∀ r j, r < n → j < c → f' r j = if r = i ∧ j = k then x else f r j) :
    Work (w.setCell ⟨G i, k, none⟩ (.int .u8 (x : Int))) N b n c G K f' :=
  ⟨h.top.setOther (fun e => h.apart i hi e.symm) _, fun r hr => by
    by_cases e : r = i
    · subst e
      refine ((h.row r hr).set k _).congr (fun j hj => ?_)
      show (if j = k then _ else _) = _
      rw [he r j hr hj]
      by_cases ej : j = k
      · rw [if_pos ej, if_pos ⟨rfl, ej⟩]
      · rw [if_neg ej, if_neg (fun h => ej h.2)]
    · refine ((h.row r hr).setOther (h.inj r i hr hi e) _).congr (fun j hj => ?_)
      rw [he r j hr hj, if_neg (fun h => e h.1)], h.lob, h.low, h.inj⟩

theorem swp_comm (a p : Nat) (W : Nat → Nat → Nat) : Gf.swp a p W = Gf.swp p a W := by
  funext i
  unfold Gf.swp
  by_cases h1 : i = a
  · by_cases h2 : i = p
    · rw [if_pos h1, if_pos h2, ← h1, ← h2]
    · rw [if_pos h1, if_neg h2, if_pos h1]
  · by_cases h2 : i = p
    · rw [if_neg h1, if_pos h2, if_pos h2]
    · rw [if_neg h1, if_neg h2, if_neg h2, if_neg h1]

/-- A row's first t bytes multiplied. -/
def sclTo (c t x : Nat) (W : Nat → Nat → Nat) (i j : Nat) : Nat := if i = c ∧ j < t then Gf.mul (W i j) x else W i j
theorem sclTo_step (c t x : Nat) (W : Nat → Nat → Nat) (i j : Nat) : sclTo c (t + 1) x W i j = if i = c ∧ j = t then Gf.mul (W c t) x else sclTo c t x W i j := by
  unfold sclTo
  by_cases h : i = c ∧ j = t
  · rw [if_pos h, if_pos ⟨h.1, by omega⟩, h.1, h.2]
  · rw [if_neg h]
    by_cases h2 : i = c ∧ j < t
    · rw [if_pos h2, if_pos ⟨h2.1, by omega⟩]
    · rw [if_neg h2, if_neg (fun h3 => h2 ⟨h3.1, by
        have : j ≠ t := fun e => h ⟨h3.1, e⟩
        omega⟩)]
/-- The pivot added to rows before i, and to the first t bytes of row i. -/
def addAt (c i t : Nat) (W : Nat → Nat → Nat) (r j : Nat) : Nat := if r < i ∨ (r = i ∧ j < t) then Gf.add c W r j else W r j
theorem addAt_step (c i t : Nat) (W : Nat → Nat → Nat) (r j : Nat) : addAt c i (t + 1) W r j = if r = i ∧ j = t then Gf.add c W i t else addAt c i t W r j := by
  unfold addAt
  by_cases h : r = i ∧ j = t
  · rw [if_pos h, if_pos (Or.inr ⟨h.1, by omega⟩), h.1, h.2]
  · rw [if_neg h]
    by_cases h2 : r < i ∨ (r = i ∧ j < t)
    · rw [if_pos h2, if_pos (by omega)]
    · rw [if_neg h2, if_neg (by omega)]

end Go.Proofs.YtmcaejooaaahdaaGreat
