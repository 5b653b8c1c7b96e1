/-
  What the statements' own Same does at lists of lists that are the same.
-/
import Derived.Test.YtmlboaejkmffjadLlsEtc
import Derived.Test.YtmlboaejkmffjadBRef
import Derived.Test.YtmlboaejkmffjadDSpare
import Derived.Test.YtmlboaejkmffjadAppM
import Derived.Test.YtmlboaejkmffjadDMend
import Derived.Lib.ConvBytes
namespace Go.Proofs.Ytmlboaejkmffjad
open Go.RowKit

set_option maxHeartbeats 400000 in
theorem refRight_any (v : Value) (n : Nat) (g : Nat → Nat) (s : Int) (i : Nat) (w : World) (h : Byts w v n g) :
    Calls Try.prog 49 #[v, .int .i64 s, .int .i64 (i : Int)] w fun e w' => Tell e (Crc.parseE g n = 0 ∧ ((g 1 : Nat) : Int) = s ∧ g 2 = i) ∧ Below w.heap.size w w' := by
  have H1 := refParse_any v n g w h
  by_cases hE : Crc.parseE g n = 0
  · rw [hE, pk_ok rfl, pk_ok rfl, pk_ok rfl, pk_ok rfl] at H1
    have HE : Hid (Crc.parseE g n = 0) := hE
    generalize g 3 * 256 + g 4 = z at H1
    by_cases h1 : ((g 1 : Nat) : Int) = s
    · by_cases h2 : g 2 = i
      · have t1 : (((g 1 : Nat) : Int) == s) = true := by rw [beq_iff_eq]; exact h1
        have t2 : (((g 2 : Nat) : Int) == (i : Int)) = true := by rw [beq_iff_eq]; omega
        have HY : Hid (Crc.parseE g n = 0 ∧ ((g 1 : Nat) : Int) = s ∧ g 2 = i) := ⟨hE, h1, h2⟩
        clear hE h1 h2
        go_enter Try.func49, Try.ntmps49
        go_wp2_with fail
        refine H1.mono ?_
        rintro e w1 ⟨v1, rfl, ⟨d, rfl, hd⟩, b1⟩
        obtain ⟨A, C, rfl⟩ := hd.shape
        have b2 : Below w.heap.size w (w1.alloc (.cells #[.int .i64 (g 1 : Nat), .int .i64 (g 2 : Nat), .int .i64 (z : Nat), .slice A (n - 11) C] 75)) := b1.alloc b1.size _
        clear H1 hd
        go_wp2_with fail
        go_ret
        exact ⟨tell_yes HY.out, b2⟩
      · have t1 : (((g 1 : Nat) : Int) == s) = true := by rw [beq_iff_eq]; exact h1
        have t2 : (((g 2 : Nat) : Int) == (i : Int)) = false := by rw [beq_eq_false_iff_ne]; omega
        have HN : Hid (¬ (Crc.parseE g n = 0 ∧ ((g 1 : Nat) : Int) = s ∧ g 2 = i)) := fun q => h2 q.2.2
        clear hE h1 h2
        go_enter Try.func49, Try.ntmps49
        go_wp2_with fail
        refine H1.mono ?_
        rintro e w1 ⟨v1, rfl, ⟨d, rfl, hd⟩, b1⟩
        obtain ⟨A, C, rfl⟩ := hd.shape
        have b2 : Below w.heap.size w (w1.alloc (.cells #[.int .i64 (g 1 : Nat), .int .i64 (g 2 : Nat), .int .i64 (z : Nat), .slice A (n - 11) C] 75)) := b1.alloc b1.size _
        clear H1 hd
        go_wp2_with fail
        go_ret
        exact ⟨tell_no HN.out, b2⟩
    · have t1 : (((g 1 : Nat) : Int) == s) = false := by rw [beq_eq_false_iff_ne]; exact h1
      have HN : Hid (¬ (Crc.parseE g n = 0 ∧ ((g 1 : Nat) : Int) = s ∧ g 2 = i)) := fun q => h1 q.2.1
      clear hE h1
      go_enter Try.func49, Try.ntmps49
      go_wp2_with fail
      refine H1.mono ?_
      rintro e w1 ⟨v1, rfl, ⟨d, rfl, hd⟩, b1⟩
      obtain ⟨A, C, rfl⟩ := hd.shape
      have b2 : Below w.heap.size w (w1.alloc (.cells #[.int .i64 (g 1 : Nat), .int .i64 (g 2 : Nat), .int .i64 (z : Nat), .slice A (n - 11) C] 75)) := b1.alloc b1.size _
      clear H1 hd
      go_wp2_with fail
      go_ret
      exact ⟨tell_no HN.out, b2⟩
  · have HN : Hid (¬ (Crc.parseE g n = 0 ∧ ((g 1 : Nat) : Int) = s ∧ g 2 = i)) := fun q => hE q.1
    rw [pk_no hE, pk_no hE, pk_no hE, pk_no hE] at H1
    have hx' : (((Crc.parseE g n : Nat) : Int) == 0) = false := by rw [beq_eq_false_iff_ne]; omega
    obtain ⟨P, hP⟩ : ∃ P : Prop, P = (Crc.parseE g n = 0 ∧ ((g 1 : Nat) : Int) = s ∧ g 2 = i) := ⟨_, rfl⟩
    rw [← hP] at HN ⊢
    clear hP
    generalize Crc.parseE g n = E at H1 hx'
    clear hE
    go_enter Try.func49, Try.ntmps49
    go_wp2_with fail
    refine H1.mono ?_
    rintro e w1 ⟨v1, rfl, ⟨d, rfl, hd⟩, b1⟩
    obtain ⟨A, C, rfl⟩ := hd.shape
    have b2 : Below w.heap.size w (w1.alloc (.cells #[.int .i64 (0 : Nat), .int .i64 (0 : Nat), .int .i64 (0 : Nat), .slice A 0 C] 75)) := b1.alloc b1.size _
    clear H1 hd
    go_wp2_with fail
    go_ret
    exact ⟨tell_no HN.out, b2⟩

set_option maxHeartbeats 400000 in
theorem refBad_any (v : Value) (N : Nat) (L : Nat → Nat) (g : Nat → Nat → Nat) (s : Int) (w : World) (h : Lls w v N L g) (hN : (N + 1) * 8 ≤ 140737488355328) :
    Calls Try.prog 25 #[v, .int .i64 s] w fun e w' => ∃ v', e = .returned v' ∧ Nums w' w.heap.size v' (Seg.badL s L g N) ∧ Below w.heap.size w w' := by
  obtain ⟨i1, hi1, hh1⟩ := Option.map_eq_some_iff.1 Try.infoInt
  simp only [Prod.mk.injEq] at hh1
  obtain ⟨hy0, hy1, hy2⟩ := hh1
  obtain ⟨A, C, rfl⟩ := h.shape
  have HL : Hid (∀ w', Below w.heap.size w w' → ∀ r, r < N → ∃ b o R K, A = some ⟨b, o, none⟩ ∧ w'.cell? ⟨b, o + r, none⟩ = some (.slice R (L r) K) ∧ Byts w' (.slice R (L r) K) (L r) (g r)) := fun w' hb r hr => (h.below hb).at hr
  clear h
  go_enter Try.func25, Try.ntmps25
  go_wp2_with fail
  go_loopw [5, 9] (fun y x wr => ∃ k : Nat, k ≤ N ∧ x = .int .i64 k ∧ Nums wr w.heap.size y (Seg.badL s L g k) ∧ Below w.heap.size w wr) (fun _ x _ => N - (intOf x).toNat)
  case atStart => exact ⟨0, Nat.zero_le _, rfl, Nums.nil _ _, Below.refl _ _⟩
  case round =>
    obtain ⟨k, hk, rfl, BN, hb⟩ := hrel
    by_cases hlt : k < N
    · have hlt' : (k : Int) < (N : Int) := by omega
      obtain ⟨b, o, R, K, rfl, d0, hy⟩ := HL.out wr hb k hlt
      have HR := refRight_any _ _ (g k) s k wr hy
      have hln := badL_len s L g k
      obtain ⟨P, hP⟩ : ∃ P : Prop, P = (Crc.parseE (g k) (L k) = 0 ∧ ((g k 1 : Nat) : Int) = s ∧ g k 2 = k) := ⟨_, rfl⟩
      have HPy : Hid (P → Seg.badL s L g (k + 1) = Seg.badL s L g k) := fun q => Seg.badL_no (by rw [hP] at q; exact q)
      have HPn : Hid (¬ P → Seg.badL s L g (k + 1) = Seg.badL s L g k ++ [k]) := fun q => Seg.badL_yes (fun r => q (by rw [hP]; exact r))
      rw [← hP] at HR
      clear hy hP
      by_cases hp : P
      · have HPP : Hid P := hp
        clear hp
        go_wp2_with fail
        refine HR.mono ?_
        rintro e w1 ⟨⟨y, rfl, hyy⟩, b1⟩
        obtain rfl : y = true := hyy.2 HPP.out
        have BN := BN.below b1
        have b1 := bt hb b1
        rw [← HPy.out HPP.out] at BN
        clear HR hyy
        go_wp2_with fail
        exact ⟨⟨k + 1, by omega, by go_num, BN, b1⟩, by simp [intOf]; omega⟩
      · have HPP : Hid (¬ P) := hp
        clear hp
        go_wp2_with fail
        refine HR.mono ?_
        rintro e w1 ⟨⟨y, rfl, hyy⟩, b1⟩
        obtain rfl : y = false := by cases y with | false => rfl | true => exact absurd (hyy.1 rfl) HPP.out
        have BN := BN.below b1
        have b1 := bt hb b1
        have bX : Below w1.heap.size w1 (w1.alloc (.cells #[.int .i64 (k : Int)] 3)) := (Below.refl _ _).alloc (Nat.le_refl _) _
        have BX : (w1.alloc (.cells #[.int .i64 (k : Int)] 3)).ownsRow w.heap.size 3 1 u5 (Seg.badL s L g k).length ((Seg.badL s L g k).map fun x : Nat => Value.int .i64 (x : Int)) := BN.below bX
        have b2 := bt b1 bX
        have cn : ∀ j u, [Value.int .i64 (k : Int)][j]? = some u → (w1.alloc (.cells #[.int .i64 (k : Int)] 3)).cell? ((⟨w1.heap.size, 0, none⟩ : Addr).add j) = some u := cells_new w1 #[.int .i64 (k : Int)] 3
        have HLT := BX.lt
        clear HR hyy BN
        go_wp2_with (at_builtin; go_loud (refine wpList_append_own _ rfl (.tmp 20) (.tmp 22) 47 rfl w.heap.size 3 i1 (.int .i64 0) 1 8 Try.underlying47 hi1 hy0 hy1 hy2 rfl (by decide) _ _ _ rfl BX ⟨w1.heap.size, 0, none⟩ 1 1 [.int .i64 (k : Int)] rfl rfl cn (by intro u hu; simp at hu; rw [hu]; rfl) (by unfold maxLen; omega) (by omega) b2.size ?_; intro v3 w3 hown3 hgrow3 _))
        have B3 := Nums.one hown3
        rw [← HPn.out HPP.out] at B3
        have b3 : Below w.heap.size w w3 := b2.grown hgrow3 b2.size (fun y hy => (HLT y hy).1)
        exact ⟨⟨k + 1, by omega, by go_num, B3, b3⟩, by simp [intOf]; omega⟩
    · obtain rfl : k = N := by omega
      go_wp2_with fail
      go_ret
      exact ⟨_, rfl, BN, hb⟩

end Go.Proofs.Ytmlboaejkmffjad

namespace Go.Proofs.Ytmlboaejkmffjad
open Go.RowKit

/-- The document's own Spare, and what comes of its answer behind the data. -/
theorem refSpare_join (N : Nat) (v : Value) (d s n : Nat) (G K : Nat → Nat) (D : Nat → Nat → Nat) (w : World) (hA : Acc w N v d n G K D) (HK : ∀ j, j < d → K j = n) (bd : Gf.Bd2 D) (h1 : 1 ≤ d) (h2 : d ≤ 8) (h3 : s ≤ 4) (hn1 : 1 ≤ n) (hn2 : n ≤ 400) (hN : N ≤ w.heap.size) :
    Calls Try.prog 46 #[v, .int .i64 (s : Int)] w fun e w' => ∃ vm v9 w5, e = .returned (.tuple #[vm, .int .i64 0]) ∧ (Builtin.append_ #[43, 43] 43 #[v, vm]).run Try.prog w' = .ok v9 w5 ∧ Lls w5 v9 (d + s) (fun _ => n) (Gf.mm d (Gf.rowF d) D) ∧ Below N w w5 := by
  have hM := hA.mx bd ⟨h1, by omega, hn1, hn2⟩
  have hbd := Gf.mm_bd (Gf.rowF_bd d) d D
  by_cases hs : 1 ≤ s
  · refine (refSpare_acc v d s n D w hM h2 hs h3).mono ?_
    rintro e w' ⟨vm, N', G', K', rfl, hN', hA', HK', hb⟩
    obtain ⟨v9, w5, r9, b9, A9⟩ := app_more w' N v d s n G K G' K' D _ N' vm (by omega) (Nat.le_trans hN hb.size) (Nat.le_trans hN hN') (hA.below hb) hA' hs
    refine ⟨vm, v9, w5, rfl, r9, ?_, (hb.mono hN).trans b9⟩
    refine lls_congr (A9.lls (fun i k => ?_) (fun i hi => ?_)) hbd (fun i hi k _ => ?_)
    · show (if i < d then D i else Gf.mm d (spareF d) D (i - d)) k < 256
      by_cases e : i < d
      · rw [if_pos e]; exact bd i k
      · rw [if_neg e]; exact Gf.mm_bd (spareF_bd d) d D (i - d) k
    · show n ≤ (if i < d then K i else K' (i - d)) ∧ (if i < d then K i else K' (i - d)) ≤ maxLen
      by_cases e : i < d
      · rw [if_pos e, HK i e]; exact ⟨Nat.le_refl _, by unfold maxLen; omega⟩
      · rw [if_neg e, HK' (i - d) (by omega)]; exact ⟨Nat.le_refl _, by unfold maxLen; omega⟩
    · show (if i < d then D i else Gf.mm d (spareF d) D (i - d)) k = _
      by_cases e : i < d
      · rw [if_pos e, shard_data bd e]
      · rw [if_neg e]
        have e2 : spareF d (i - d) = Gf.rowF d i := by
          show Gf.rowF d (d + (i - d)) = _
          rw [show d + (i - d) = i by omega]
        show Gf.dot d (spareF d (i - d)) _ = Gf.dot d (Gf.rowF d i) _
        rw [e2]
  · obtain rfl : s = 0 := by omega
    have hE : spareE d (fun _ => n) ((0 : Nat) : Int) = 0 := by
      unfold spareE
      rw [if_neg (fun q => q (wrongC_ok (by omega)))]
      exact hM.ok
    refine (refSpareO v d (fun _ => n) D ((0 : Nat) : Int) w hM.arg).mono ?_
    rintro e w' ⟨vm, rfl, hO, hb⟩
    rw [hE] at hO ⊢
    obtain rfl : vm = .slice none 0 0 := by
      rcases hO with ⟨_, hx⟩ | ⟨_, hx⟩
      · exact absurd hx.dim.1 (by decide)
      · exact hx
    obtain ⟨g, cap, rfl, _, hcap, _⟩ := rowC_owns hA.own h1
    refine ⟨_, _, _, rfl, app_nil w' 43 43 Try.underlying43 Try.underlying43 g 0 d cap hcap 43, ?_, hb.mono hN⟩
    refine lls_congr ((hA.below hb).lls bd (fun i hi => ?_)) hbd (fun i hi k _ => (shard_data bd hi k).symm)
    rw [HK i hi]
    exact ⟨Nat.le_refl _, by unfold maxLen; omega⟩

theorem upto_at (k : Nat) (M N : Nat → Nat) : upto k M N k = N k := if_neg (Nat.lt_irrefl k)
theorem upto_put {k x : Nat} {M N : Nat → Nat} (h : M k = x) (y : Nat) : (if y = k then Value.int .u8 ((x : Nat) : Int) else .int .u8 ((upto k M N y : Nat) : Int)) = .int .u8 ((upto (k + 1) M N y : Nat) : Int) := by
  unfold upto
  by_cases e : y = k
  · rw [if_pos e, if_pos (by omega), e, h]
  · rw [if_neg e]
    by_cases e2 : y < k
    · rw [if_pos e2, if_pos (by omega)]
    · rw [if_neg e2, if_neg (by omega)]
theorem upto_same {k : Nat} {M : Nat → Nat} (h : M k = 0) (y : Nat) : Value.int .u8 ((upto k M (fun _ => 0) y : Nat) : Int) = .int .u8 ((upto (k + 1) M (fun _ => 0) y : Nat) : Int) := by
  unfold upto
  by_cases e : y < k
  · rw [if_pos e, if_pos (by omega)]
  · rw [if_neg e]
    by_cases e2 : y < k + 1
    · rw [if_pos e2, show y = k by omega, h]
    · rw [if_neg e2]
set_option maxHeartbeats 2000000 in
set_option maxRecDepth 100000 in
theorem refLay_ok (v : Value) (L : Nat) (r : Nat → Nat) (seg d s : Nat) (w : World) (h : Byts w v L r) (h1 : 1 ≤ d) (h2 : d ≤ 8) (h3 : s ≤ 4) (h4 : seg ≤ 39) (h5 : L ≤ 400 * d) :
    Calls Try.prog 22 #[v, .int .i64 (seg : Int), .int .i64 (d : Int), .int .i64 (s : Int)] w fun e w' => ∃ v', e = .returned (.tuple #[v', .int .i64 0]) ∧ Lls w' v' (d + s) (fun _ => Seg.layN L d + 11) (Seg.blk r L seg d) ∧ Below w.heap.size w w' := by
  have hn1 := Seg.layN_pos L d h1
  have hn2 := Seg.layN_le h1 h5
  have HW := fun w' => refWrongC_any (d : Int) (s : Int) w'
  rw [wrongC_ok (by omega)] at HW
  have hm1 : ¬ 400 * (d : Int) < (L : Int) := by omega
  have hm2 : (seg : Int) ≤ 39 := by omega
  have HYB : Hid (∀ w', Below w.heap.size w w' → Byts w' v L r) := fun w' hb => h.below hb
  have HRM : Hid (L ≤ Seg.layN L d * d) := Seg.layN_room L d h1
  have HRL : Hid (∀ n, 1 ≤ n → L ≤ n * d → Seg.layN L d ≤ n) := fun n q1 q2 => Seg.layN_least h1 q1 q2
  have HBD : Hid (Gf.Bd2 (Seg.layD r L (Seg.layN L d))) := Seg.layD_bd h.bd L _
  obtain ⟨A, C, rfl⟩ := h.shape
  have HYC : Hid (∀ w', Below w.heap.size w w' → ∀ k, k < L → ∃ b o, A = some ⟨b, o, none⟩ ∧ w'.cell? ⟨b, o + k, none⟩ = some (.int .u8 (r k : Nat))) := fun w' hb k hk => by
    obtain ⟨_, A', C', hv, _, _, hc⟩ := h.below hb
    cases hv
    exact hc k hk
  obtain ⟨i0, hi0, hh⟩ := Option.map_eq_some_iff.1 Try.infoRow
  simp only [Prod.mk.injEq] at hh
  obtain ⟨hz0, hz1, hz2⟩ := hh
  clear h
  go_enter Try.func22, Try.ntmps22
  go_wp2_with fail
  refine (HW _).mono ?_
  rintro e w1 ⟨rfl, b1⟩
  clear HW
  go_wp2_with fail
  go_loop [11] (fun x => ∃ n : Nat, 1 ≤ n ∧ n ≤ Seg.layN L d ∧ x = .int .i64 n) (fun x => Seg.layN L d - (intOf x).toNat)
  case atStart => exact ⟨1, Nat.le_refl _, hn1, rfl⟩
  case round =>
    obtain ⟨n, q1, q2, rfl⟩ := hrel
    have hmul : n * d ≤ 400 * 8 := Nat.mul_le_mul (by omega) h2
    have hcast : (n : Int) * (d : Int) = ((n * d : Nat) : Int) := by rw [Int.natCast_mul]
    have hw : IntKind.i64.wrap ((n : Int) * (d : Int)) = (n : Int) * (d : Int) := by rw [hcast, IntKind.wrap_i64]; omega
    have hw0 : -9223372036854775808 ≤ (n : Int) * (d : Int) := by rw [hcast]; omega
    have hw1 : (n : Int) * (d : Int) ≤ 9223372036854775807 := by rw [hcast]; omega
    by_cases hlt : n * d < L
    · have hlt' : (n : Int) * (d : Int) < (L : Int) := by rw [hcast]; omega
      have HLT : Hid (n < Seg.layN L d) := by
        show n < _
        refine Nat.lt_of_not_le (fun q => ?_)
        have := HRM.out
        have h9 := Nat.mul_le_mul_right d q
        omega
      clear hcast hlt hmul
      go_wp2_with fail
      have := HLT.out
      exact ⟨⟨n + 1, by omega, by omega, by go_num⟩, by simp [intOf]; omega⟩
    · have hlt' : ¬ (n : Int) * (d : Int) < (L : Int) := by rw [hcast]; omega
      obtain rfl : n = Seg.layN L d := Nat.le_antisymm q2 (HRL.out n q1 (by omega))
      generalize hnn : Seg.layN L d = n at *
      clear hcast hlt hmul q1 q2 HRM HRL
      go_wp2_with fail
      clear hw hw0 hw1 hlt'
      go_loopw [12, 13] (fun y x wr => ∃ i : Nat, i ≤ d ∧ x = .int .i64 i ∧ (∃ G K, Acc wr w1.heap.size y i n G K (Seg.layD r L n) ∧ Hid (∀ j, j < i → K j = n)) ∧ Below w1.heap.size w1 wr) (fun _ x _ => d - (intOf x).toNat)
      case atStart => exact ⟨0, Nat.zero_le _, rfl, ⟨fun _ => 0, fun _ => 0, Acc.start w1 _ n _ _ _, fun j hj => absurd hj (Nat.not_lt_zero j)⟩, Below.refl _ _⟩
      case round =>
        obtain ⟨i, hid, rfl, ⟨G2, K2, hA, HK⟩, hbo⟩ := hrel
        obtain ⟨wo, rfl⟩ : ∃ x, x = wr := ⟨wr, rfl⟩
        by_cases hi : i < d
        · have hi' : (i : Int) < (d : Int) := by omega
          have hmul : i * n ≤ 8 * 400 := Nat.mul_le_mul (by omega) hn2
          have hcast : (i : Int) * (n : Int) = ((i * n : Nat) : Int) := by rw [Int.natCast_mul]
          have hw : IntKind.i64.wrap ((i : Int) * (n : Int)) = (i : Int) * (n : Int) := by rw [hcast, IntKind.wrap_i64]; omega
          have hmk := run_make_row' (P := Try.prog) 25 5 (.int .u8 0) 1 Try.underlying25 Try.infoByte rfl .i64 .i64 n (by omega) (by omega)
          have HCS : Hid ((i : Int) * (n : Int) = ((i * n : Nat) : Int)) := hcast
          obtain ⟨q, hq⟩ : ∃ q, i * n = q := ⟨_, rfl⟩
          rw [hq] at hcast hmul
          have HQ : Hid (i * n = q) := hq
          have HIQ : Hid ((i : Int) * (n : Int) = (q : Int)) := hcast
          clear hcast hq
          go_wp2_with fail
          clear hmk
          go_loopw [57] (fun x wm => ∃ k : Nat, k ≤ n ∧ x = .int .i64 k ∧ wm.rowIs wo.heap.size 5 n (fun y => .int .u8 (upto k (Seg.layD r L n i) (fun _ => 0) y : Nat)) ∧ Below wo.heap.size wo wm) (fun x _ => n - (intOf x).toNat)
          case atStart => exact ⟨0, Nat.zero_le _, rfl, (World.rowIs_made wo (.int .u8 0) n 5).congr (fun j _ => by rw [show upto 0 (Seg.layD r L n i) (fun _ => 0) j = 0 from if_neg (Nat.not_lt_zero _)]; rfl), (Below.refl _ _).alloc (Nat.le_refl _) _⟩
          case round =>
            obtain ⟨k, hkc, rfl, hR, hbm⟩ := hrel
            by_cases hk : k < n
            · have hk' : (k : Int) < (n : Int) := by omega
              have hiq := HIQ.out
              have z1 := hR.frozen k
              have u1 := hR.cell hk
              rw [upto_at] at u1
              by_cases hin : q + k < L
              · have hin' : (q : Int) + (k : Int) < (L : Int) := by omega
                have HD : Hid (Seg.layD r L n i k = r (q + k)) := by
                  show Seg.layD r L n i k = r (q + k)
                  rw [Seg.layD_in hk (by rw [HQ.out]; exact hin), HQ.out]
                obtain ⟨bb, ob, rfl, t1⟩ := HYC.out wr (bt (bt b1 hbo) hbm) (q + k) hin
                have HP : Hid ((wr.setCell ⟨wo.heap.size, k, none⟩ (.int .u8 ((r (q + k) : Nat) : Int))).rowIs wo.heap.size 5 n (fun y => .int .u8 (upto (k + 1) (Seg.layD r L n i) (fun _ => 0) y : Nat))) := (hR.set k _).congr (fun y _ => upto_put HD.out y)
                have hbP := hbm.setCell (p := ⟨wo.heap.size, k, none⟩) (Nat.le_refl _) (.int .u8 ((r (q + k) : Nat) : Int))
                generalize r (q + k) = x at t1 HP hbP
                clear hR
                go_wp2_with fail
                exact ⟨⟨k + 1, by omega, by go_num, HP.out, hbP⟩, by simp [intOf]; omega⟩
              · have hin' : ¬ (q : Int) + (k : Int) < (L : Int) := by omega
                have HP : Hid (wr.rowIs wo.heap.size 5 n (fun y => .int .u8 (upto (k + 1) (Seg.layD r L n i) (fun _ => 0) y : Nat))) := hR.congr (fun y _ => upto_same (Seg.layD_out (by rw [HQ.out]; exact hin)) y)
                clear hR
                go_wp2_with fail
                exact ⟨⟨k + 1, by omega, by go_num, HP.out, hbm⟩, by simp [intOf]; omega⟩
            · obtain rfl : k = n := by omega
              have hF : RowC wr wo.heap.size 5 k (fun y => .int .u8 (Seg.layD r L k i y : Nat)) := rowC_of (hR.congr (fun y hy => by rw [show upto k (Seg.layD r L k i) (fun _ => 0) y = Seg.layD r L k i y from if_pos hy]))
              have hbX := (Below.refl wr.heap.size wr).alloc (Nat.le_refl _) (.cells #[.slice (some ⟨wo.heap.size, 0, none⟩) k k] 25)
              have AX := (hA.below hbm).below hbX
              have rX := hF.alloc (.cells #[.slice (some ⟨wo.heap.size, 0, none⟩) k k] 25)
              have bX := bt (bt hbo hbm) hbX
              clear hR hF hA
              go_wp2_with (at_builtin; refine wpList_append_own _ rfl (.tmp 80) (.tmp 82) 43 rfl w1.heap.size 25 i0 (.slice none 0 0) 1 24 Try.underlying43 hi0 hz0 hz1 hz2 rfl (by decide) _ _ _ rfl AX.own ⟨wr.heap.size, 0, none⟩ 1 1 [.slice (some ⟨wo.heap.size, 0, none⟩) k k] rfl rfl cell_one (by intro u hu; simp at hu; subst hu; rfl) (by unfold maxLen; omega) (by omega) bX.size ?_; intro v4 w4 hown1 hgrow1 _)
              have A1 := AX.step ⟨hbo.size, rX⟩ hown1 hgrow1
              have b4 : Below w1.heap.size w1 w4 := bX.grown hgrow1 bX.size (fun x hx => (AX.own.lt x hx).1)
              clear hown1 hgrow1 AX rX bX hbX hbm
              go_wp2_with fail
              exact ⟨⟨i + 1, by omega, by go_num, ⟨_, _, A1, fun j hj => by
                unfold updG
                by_cases e : j = i
                · rw [if_pos e]
                · rw [if_neg e]; exact HK.out j (by omega)⟩, b4⟩, by simp [intOf]; omega⟩
        · obtain rfl : i = d := by omega
          have HS := refSpare_join w1.heap.size u12 i s n G2 K2 (Seg.layD r L n) wo hA HK.out HBD.out h1 h2 h3 hn1 hn2 hbo.size
          have HSH : Hid (Gf.mm i (Gf.rowF i) (Seg.layD r L n) = Seg.shard r L i) := by
            show _ = Seg.shard r L i
            unfold Seg.shard
            rw [hnn]
          clear hA
          go_wp2_with fail
          refine HS.mono ?_
          rintro e w2 ⟨vm, v9, w5, rfl, r9, L9, b5⟩
          rw [HSH.out] at L9
          have b5 := hbo.trans b5
          obtain ⟨A9, C9, rfl⟩ := L9.shape
          have bw5 := bt b1 b5
          have hds : i + s ≤ 12 := by omega
          clear HS
          go_wp2_with (at_builtin; refine Lib.wpList_append_run _ rfl (.tmp 90) (.tmp 91) 43 43 rfl _ _ rfl rfl _ _ r9 ?_)
          clear r9
          have HL9 : Hid (∀ w', Below w5.heap.size w5 w' → ∀ j, j < i + s → ∃ b o R K, A9 = some ⟨b, o, none⟩ ∧ w'.cell? ⟨b, o + j, none⟩ = some (.slice R n K) ∧ Byts w' (.slice R n K) n (Seg.shard r L i j)) := fun w' hb j hj => (L9.below hb).at hj
          have HWB : Hid (∀ j, j < i + s → Crc.wrongB seg j L n = 0) := fun j hj => Crc.wrongB_ok (by omega) (by omega)
          have HBF : Hid (∀ j, j < i + s → encI (seg : Int) (j : Int) (L : Int) n (Seg.shard r L i j) = Seg.blk r L seg i j) := fun j hj => by
            unfold encI
            rw [Seg.blk_in (by omega), hnn]
            rfl
          clear L9
          go_loopw [18, 94] (fun y x wr => ∃ j : Nat, j ≤ i + s ∧ x = .int .i64 j ∧ (∃ G K, Acc wr w5.heap.size y j (n + 11) G K (Seg.blk r L seg i) ∧ Hid (∀ t, t < j → n + 11 ≤ K t ∧ K t ≤ maxLen)) ∧ Below w5.heap.size w5 wr) (fun _ x _ => i + s - (intOf x).toNat)
          case atStart => exact ⟨0, Nat.zero_le _, rfl, ⟨fun _ => 0, fun _ => 0, Acc.start w5 _ (n + 11) _ _ _, fun j hj => absurd hj (Nat.not_lt_zero j)⟩, Below.refl _ _⟩
          case round =>
            obtain ⟨j, hj, rfl, ⟨G3, K3, hA3, HK3⟩, hb3⟩ := hrel
            by_cases hjl : j < i + s
            · have hjl' : (j : Int) < (i : Int) + (s : Int) := by omega
              have hjl2 : (j : Int) < ((i + s : Nat) : Int) := by omega
              obtain ⟨b9, o9, R9, K9, rfl, t9, y9⟩ := HL9.out wr hb3 j hjl
              have HBB := refBytes_any (.agg #[.int .i64 (seg : Int), .int .i64 (j : Int), .int .i64 (L : Int), .slice R9 n K9]) seg j L n (Seg.shard r L i j) wr ⟨_, rfl, y9⟩
              rw [HWB.out j hjl, HBF.out j hjl] at HBB
              clear y9
              go_wp2_with fail
              refine HBB.mono ?_
              rintro e w6 ⟨v6, rfl, O6, b6⟩
              have hM6 : Made w6 wr.heap.size v6 (n + 11) (Seg.blk r L seg i j) := by
                rcases O6 with ⟨_, q⟩ | ⟨q, _⟩
                · exact q
                · exact absurd rfl q
              obtain ⟨g6, c6, rfl, hg6, hc6, hm6, R6⟩ := hM6
              have hbX := (Below.refl w6.heap.size w6).alloc (Nat.le_refl _) (.cells #[.slice (some ⟨g6, 0, none⟩) (n + 11) c6] 25)
              have AX := (hA3.below b6).below hbX
              have rX := R6.alloc (.cells #[.slice (some ⟨g6, 0, none⟩) (n + 11) c6] 25)
              have bX := bt (bt hb3 b6) hbX
              have HG6 : Hid (w5.heap.size ≤ g6) := Nat.le_trans hb3.size hg6
              clear HBB O6 hA3 R6
              go_wp2_with (at_builtin; refine wpList_append_own _ rfl (.tmp 109) (.tmp 111) 43 rfl w5.heap.size 25 i0 (.slice none 0 0) 1 24 Try.underlying43 hi0 hz0 hz1 hz2 rfl (by decide) _ _ _ rfl AX.own ⟨w6.heap.size, 0, none⟩ 1 1 [.slice (some ⟨g6, 0, none⟩) (n + 11) c6] rfl rfl cell_one (by intro u hu; simp at hu; subst hu; rfl) (by unfold maxLen; omega) (by omega) bX.size ?_; intro v7 w7 hown1 hgrow1 _)
              have A1 := AX.step ⟨HG6.out, rX⟩ hown1 hgrow1
              have b7 : Below w5.heap.size w5 w7 := bX.grown hgrow1 bX.size (fun x hx => (AX.own.lt x hx).1)
              clear hown1 hgrow1 AX rX bX hbX
              exact ⟨⟨j + 1, by omega, by go_num, ⟨_, _, A1, fun t ht => by
                unfold updG
                by_cases e : t = j
                · rw [if_pos e]; exact ⟨hc6, hm6⟩
                · rw [if_neg e]; exact HK3.out t (by omega)⟩, b7⟩, by simp [intOf]; omega⟩
            · obtain rfl : j = i + s := by omega
              have HR : Hid (Lls wr u18 (i + s) (fun _ => Seg.layN L i + 11) (Seg.blk r L seg i)) := by
                show Lls wr u18 (i + s) (fun _ => Seg.layN L i + 11) (Seg.blk r L seg i)
                rw [hnn]
                exact hA3.lls (Seg.blk_bd h1 h5 h4 h2) HK3.out
              have bz := bt bw5 hb3
              clear hA3
              go_wp2_with fail
              go_ret2
              exact ⟨_, rfl, HR.out, bz⟩

set_option maxHeartbeats 400000 in
set_option maxRecDepth 100000 in
theorem refLay_any (v : Value) (L : Nat) (r : Nat → Nat) (seg d s : Int) (w : World) (h : Byts w v L r) :
    Calls Try.prog 22 #[v, .int .i64 seg, .int .i64 d, .int .i64 s] w fun e w' => ∃ v', e = .returned (.tuple #[v', .int .i64 (Seg.layE L seg d s : Nat)]) ∧ LayO w' (Seg.layE L seg d s) v' (d.toNat + s.toNat) (Seg.layN L d.toNat + 11) (Seg.blk r L seg.toNat d.toNat) ∧ Below w.heap.size w w' := by
  have hL := h.len
  have HW := fun w' => refWrongC_any d s w'
  by_cases q1 : d < 1 ∨ 8 < d ∨ s < 0 ∨ 4 < s
  · have HE : Hid (Seg.layE L seg d s = 5) := if_pos q1
    rw [wrongC_bad q1] at HW
    clear q1
    go_enter Try.func22, Try.ntmps22
    go_wp2_with fail
    refine (HW _).mono ?_
    rintro e w1 ⟨rfl, b1⟩
    clear HW
    go_wp2_with fail
    go_ret2
    exact ⟨_, by rw [HE.out]; rfl, Or.inr ⟨by rw [HE.out]; decide, rfl⟩, b1⟩
  rw [wrongC_ok q1] at HW
  by_cases q2 : seg < 0 ∨ 39 < seg
  · have HE : Hid (Seg.layE L seg d s = 3) := by
      show Seg.layE L seg d s = 3
      unfold Seg.layE
      rw [if_neg q1, if_pos q2]
    by_cases q3 : seg < 0
    · clear q1 q2
      go_enter Try.func22, Try.ntmps22
      go_wp2_with fail
      refine (HW _).mono ?_
      rintro e w1 ⟨rfl, b1⟩
      clear HW
      go_wp2_with fail
      go_ret2
      exact ⟨_, by rw [HE.out]; rfl, Or.inr ⟨by rw [HE.out]; decide, rfl⟩, b1⟩
    · have q4 : 39 < seg := by omega
      clear q1 q2
      go_enter Try.func22, Try.ntmps22
      go_wp2_with fail
      refine (HW _).mono ?_
      rintro e w1 ⟨rfl, b1⟩
      clear HW
      go_wp2_with fail
      go_ret2
      exact ⟨_, by rw [HE.out]; rfl, Or.inr ⟨by rw [HE.out]; decide, rfl⟩, b1⟩
  by_cases q3 : 400 * d < (L : Int)
  · have HE : Hid (Seg.layE L seg d s = 4) := by
      show Seg.layE L seg d s = 4
      unfold Seg.layE
      rw [if_neg q1, if_neg q2, if_pos q3]
    obtain ⟨A, C, rfl⟩ := h.shape
    have p1 : ¬ seg < 0 := by omega
    have p2 : ¬ 39 < seg := by omega
    have p3 : 1 ≤ d := by omega
    have p4 : d ≤ 8 := by omega
    clear q1 q2 h
    go_enter Try.func22, Try.ntmps22
    go_wp2_with fail
    refine (HW _).mono ?_
    rintro e w1 ⟨rfl, b1⟩
    clear HW
    go_wp2_with fail
    go_ret2
    exact ⟨_, by rw [HE.out]; rfl, Or.inr ⟨by rw [HE.out]; decide, rfl⟩, b1⟩
  · obtain ⟨d', rfl⟩ := Int.eq_ofNat_of_zero_le (show 0 ≤ d by omega)
    obtain ⟨s', rfl⟩ := Int.eq_ofNat_of_zero_le (show 0 ≤ s by omega)
    obtain ⟨g', rfl⟩ := Int.eq_ofNat_of_zero_le (show 0 ≤ seg by omega)
    have HE : Seg.layE L g' d' s' = 0 := layE_ok (by omega) (by omega) (by omega) (by omega) (by omega)
    refine (refLay_ok v L r g' d' s' w h (by omega) (by omega) (by omega) (by omega) (by omega)).mono ?_
    rintro e w' ⟨v', rfl, hl, hb⟩
    exact ⟨v', by rw [HE]; rfl, Or.inl ⟨HE, hl⟩, hb⟩

end Go.Proofs.Ytmlboaejkmffjad

namespace Go.Proofs.Ytmlboaejkmffjad
open Go.RowKit

set_option maxHeartbeats 2000000 in
set_option maxRecDepth 100000 in
theorem refRead_ok (A : Option Addr) (cap n s : Nat) (L : Nat → Nat) (g : Nat → Nat → Nat) (seg : Int) (w : World) (h : Lls w (.slice A (n + s) cap) (n + s) L g) (h1 : 1 ≤ n) (h2 : n ≤ 8) (h3 : s ≤ 4) :
    Calls Try.prog 27 #[.slice A (n + s) cap, .int .i64 seg, .int .i64 (n : Int)] w fun e w' => ∃ v', e = .returned (.tuple #[v', .int .i64 (readE seg n (n + s) L g : Nat)]) ∧ ReadO w' (readE seg n (n + s) L g) v' n (n + s) (Seg.rl seg L g) (Seg.rf g) (Seg.rz g (thr (Seg.rl seg L g) (n + s) 0)) ∧ Below w.heap.size w w' := by
  have hsub : (n : Int) + (s : Int) - (n : Int) = (s : Int) := by omega
  have HW := fun w' => refWrongC_any (n : Int) (s : Int) w'
  rw [wrongC_ok (by omega)] at HW
  have bd := h.bd
  have hbf : Gf.Bd2 (Seg.rf g) := fun i k => bd i (k + 7)
  have HL : Hid (∀ w', Below w.heap.size w w' → ∀ r, r < n + s → ∃ b o R K, A = some ⟨b, o, none⟩ ∧ w'.cell? ⟨b, o + r, none⟩ = some (.slice R (L r) K) ∧ Byts w' (.slice R (L r) K) (L r) (g r)) := fun w' hb r hr => (h.below hb).at hr
  have HL0 : Hid (∀ r, r < n + s → ∀ R K b o, A = some ⟨b, o, none⟩ → w.cell? ⟨b, o + r, none⟩ = some (.slice R (L r) K) → Byts w (.slice R (L r) K) (L r) (g r)) := fun r hr R K b o e1 e2 => by
    obtain ⟨b', o', R', K', q1, q2, q3⟩ := h.at hr
    rw [e1] at q1
    cases q1
    rw [e2] at q2
    cases q2
    exact q3
  obtain ⟨i0, hi0, hh⟩ := Option.map_eq_some_iff.1 Try.infoRow
  simp only [Prod.mk.injEq] at hh
  obtain ⟨hz0, hz1, hz2⟩ := hh
  have HEW : Hid (wrongC (n : Int) (((n + s : Nat) : Int) - (n : Int)) = 0) := wrongC_ok (by omega)
  clear h
  go_enter Try.func27, Try.ntmps27
  go_wp2_with fail
  refine (HW _).mono ?_
  rintro e w1 ⟨rfl, b1⟩
  clear HW
  go_wp2_with fail
  go_loopw [9, 10, 11, 31] (fun y z b x wr => ∃ (k : Nat) (U : Nat → Value) (sz : Nat) (bb : Bool), k ≤ n + s ∧ x = .int .i64 k ∧ z = .int .i64 (sz : Nat) ∧ b = .bool bb ∧ wr.ownsRow w.heap.size 25 1 y k ((List.range k).map U) ∧ Hid (∀ i, i < k → Byts w (U i) (Seg.rl seg L g i) (Seg.rf g i)) ∧ Hid (∀ i, i < k → Seg.right seg L g i → Seg.rz g i = sz ∧ bb = true) ∧ Hid (bb = true → ∃ i, i < k ∧ Seg.right seg L g i) ∧ Below w.heap.size w wr) (fun _ _ _ x _ => n + s - (intOf x).toNat)
  case atStart => exact ⟨0, fun _ => .slice none 0 0, 0, false, Nat.zero_le _, rfl, rfl, rfl, World.ownsRow_nil _ _ _ 1, (fun i hi => absurd hi (Nat.not_lt_zero i)), (fun i hi => absurd hi (Nat.not_lt_zero i)), (fun q => by cases q), b1⟩
  case round =>
    obtain ⟨k, U, sz, bb, hk, rfl, rfl, rfl, ho, HU, HZ, HB, hbr⟩ := hrel
    by_cases hlt : k < n + s
    · have hlt' : (k : Int) < (n : Int) + (s : Int) := by omega
      have hlt2 : (k : Int) < ((n + s : Nat) : Int) := by omega
      obtain ⟨b, o, R, K, rfl, t0, hy⟩ := HL.out wr hbr k hlt
      have HLW : Hid (∀ k', k' = k → Byts w (.slice R (L k) K) (L k) (g k)) := fun _ _ => HL0.out k hlt R K b o rfl (by
        obtain ⟨b', o', R', K', q1, q2, q3⟩ := HL.out w (Below.refl _ _) k hlt
        cases q1
        rw [(hbr.cell (p := ⟨b, o + k, none⟩) (World.block_lt_of_cell? _ _ q2)).trans q2] at t0
        cases t0
        exact q2)
      have HR := refRight_any _ _ (g k) seg k wr hy
      have HPI := fun (w' : World) (hb' : Below wr.heap.size wr w') (q : Crc.parseE (g k) (L k) = 0) => refParse_in _ _ (g k) w' (hy.below hb') q
      obtain ⟨P, hP⟩ : ∃ P : Prop, P = Seg.right seg L g k := ⟨_, rfl⟩
      have HPQ : Hid (P = Seg.right seg L g k) := hP
      have hP2 : P = (Crc.parseE (g k) (L k) = 0 ∧ ((g k 1 : Nat) : Int) = seg ∧ g k 2 = k) := hP
      rw [← hP2] at HR
      clear hP hP2
      by_cases hp : P
      case neg =>
        have HPP : Hid (¬ P) := hp
        clear hp hy HPI
        go_wp2_with fail
        refine HR.mono ?_
        rintro e w2 ⟨⟨y, rfl, hyy⟩, b2⟩
        obtain rfl : y = false := by cases y with | false => rfl | true => exact absurd (hyy.1 rfl) HPP.out
        have hbX := (Below.refl w2.heap.size w2).alloc (Nat.le_refl _) (.cells #[.slice none 0 0] 25)
        have ox := owns_below (owns_below ho b2) hbX
        have bX := bt (bt hbr b2) hbX
        have HLT := ox.lt
        clear HR hyy ho t0
        go_wp2_with (at_builtin; refine wpList_append_own _ rfl (.tmp 41) (.tmp 42) 43 rfl w.heap.size 25 i0 (.slice none 0 0) 1 24 Try.underlying43 hi0 hz0 hz1 hz2 rfl (by decide) _ _ _ rfl ox ⟨w2.heap.size, 0, none⟩ 1 1 [.slice none 0 0] rfl rfl cell_one (by intro u hu; simp at hu; subst hu; rfl) (by unfold maxLen; omega) (by omega) bX.size ?_; intro v7 w7 hown1 hgrow1 _)
        have b7 : Below w.heap.size w w7 := bX.grown hgrow1 bX.size (fun x hx => (HLT x hx).1)
        rw [← range_upd] at hown1
        refine ⟨⟨k + 1, _, sz, bb, by omega, by go_num, rfl, rfl, hown1, (fun i hi => ?_), (fun i hi q => ?_), (fun q => ?_), b7⟩, by simp [intOf]; omega⟩
        · by_cases e : i = k
          · rw [e, updV_at, Seg.rl_no (fun q => HPP.out (by rw [HPQ.out]; exact q))]
            exact Byts.none w (hbf k)
          · rw [updV_ne _ _ e]
            exact HU.out i (by omega)
        · by_cases e : i = k
          · rw [e] at q
            exact absurd (show P by rw [HPQ.out]; exact q) HPP.out
          · exact HZ.out i (by omega) q
        · obtain ⟨i, hi, q2⟩ := HB.out q
          exact ⟨i, by omega, q2⟩
      case pos =>
        have HPP : Hid P := hp
        have HRT : Hid (Seg.right seg L g k) := by
          show Seg.right seg L g k
          rw [← HPQ.out]
          exact hp
        have HPI := fun (w' : World) (hb' : Below wr.heap.size wr w') => HPI w' hb' HRT.out.1
        clear hp
        go_wp2_with fail
        refine HR.mono ?_
        rintro e w2 ⟨⟨y, rfl, hyy⟩, b2⟩
        obtain rfl : y = true := hyy.2 HPP.out
        have ho := owns_below ho b2
        have HPI := HPI _ b2
        have hbr := bt hbr b2
        clear HR hyy t0 hy
        go_wp2_with fail
        refine HPI.mono ?_
        rintro e w3 ⟨A3, C3, rfl, D3, b3⟩
        have HD3 : Hid (Byts w (.slice A3 (L k - 11) C3) (L k - 11) (Seg.rf g k)) := D3 w (HLW.out k rfl)
        have ho := owns_below ho b3
        have hbr := bt hbr b3
        have bV := (Below.refl w3.heap.size w3).alloc (Nat.le_refl _) (.cells #[.int .i64 (g k 1 : Nat), .int .i64 (g k 2 : Nat), .int .i64 (g k 3 * 256 + g k 4 : Nat), .slice A3 (L k - 11) C3] 75)
        have ho := owns_below ho bV
        have hbr := bt hbr bV
        have hz : g k 3 * 256 + g k 4 = Seg.rz g k := rfl
        rw [hz] at bV ho hbr ⊢
        have hbX := (Below.refl (w3.alloc (.cells #[.int .i64 (g k 1 : Nat), .int .i64 (g k 2 : Nat), .int .i64 (Seg.rz g k : Nat), .slice A3 (L k - 11) C3] 75)).heap.size (w3.alloc (.cells #[.int .i64 (g k 1 : Nat), .int .i64 (g k 2 : Nat), .int .i64 (Seg.rz g k : Nat), .slice A3 (L k - 11) C3] 75))).alloc (Nat.le_refl _) (.cells #[.slice A3 (L k - 11) C3] 25)
        have ox := owns_below ho hbX
        have bX := bt hbr hbX
        have HLT := ox.lt
        have cx : ∀ j u, [Value.slice A3 (L k - 11) C3][j]? = some u → ((w3.alloc (.cells #[.int .i64 (g k 1 : Nat), .int .i64 (g k 2 : Nat), .int .i64 (Seg.rz g k : Nat), .slice A3 (L k - 11) C3] 75)).alloc (.cells #[.slice A3 (L k - 11) C3] 25)).cell? ((⟨w3.heap.size + 1, 0, none⟩ : Addr).add j) = some u := fun j u hj => by
          have q := cell_one (w := w3.alloc (.cells #[.int .i64 (g k 1 : Nat), .int .i64 (g k 2 : Nat), .int .i64 (Seg.rz g k : Nat), .slice A3 (L k - 11) C3] 75)) (t := 25) j u hj
          have sz9 : (w3.alloc (.cells #[.int .i64 (g k 1 : Nat), .int .i64 (g k 2 : Nat), .int .i64 (Seg.rz g k : Nat), .slice A3 (L k - 11) C3] 75)).heap.size = w3.heap.size + 1 := by simp
          rw [sz9] at q
          exact q
        clear HPI D3 hz hbX ho b3 bV
        cases bb with
        | false =>
          have HSZ : Hid (∀ i, i < k → Seg.right seg L g i → Seg.rz g i = Seg.rz g k) := fun i hi q => by
            have := (HZ.out i hi q).2
            cases this
          generalize hzk : Seg.rz g k = zk at *
          go_wp2_with (at_builtin; refine wpList_append_own _ rfl (.tmp 58) (.tmp 61) 43 rfl w.heap.size 25 i0 (.slice none 0 0) 1 24 Try.underlying43 hi0 hz0 hz1 hz2 rfl (by decide) _ _ _ rfl ox ⟨w3.heap.size + 1, 0, none⟩ 1 1 [.slice A3 (L k - 11) C3] rfl rfl cx (by intro u hu; simp at hu; subst hu; rfl) (by unfold maxLen; omega) (by omega) bX.size ?_; intro v7 w7 hown1 hgrow1 _)
          have b7 : Below w.heap.size w w7 := bX.grown hgrow1 bX.size (fun x hx => (HLT x hx).1)
          rw [← range_upd] at hown1
          refine ⟨⟨k + 1, _, zk, true, by omega, by go_num, rfl, rfl, hown1, (fun i hi => ?_), (fun i hi q => ?_), (fun _ => ⟨k, by omega, HRT.out⟩), b7⟩, by simp [intOf]; omega⟩
          · by_cases e : i = k
            · rw [e, updV_at, Seg.rl_yes HRT.out]
              exact HD3.out
            · rw [updV_ne _ _ e]
              exact HU.out i (by omega)
          · by_cases e : i = k
            · rw [e]
              exact ⟨hzk, rfl⟩
            · exact ⟨HSZ.out i (by omega) q, rfl⟩
        | true =>
          by_cases hzz : Seg.rz g k = sz
          · have HSZ : Hid (∀ i, i < k → Seg.right seg L g i → Seg.rz g i = Seg.rz g k) := fun i hi q => by
              rw [hzz]
              exact (HZ.out i hi q).1
            have tz : (((Seg.rz g k : Nat) : Int) != ((sz : Nat) : Int)) = false := by rw [hzz]; simp
            clear hzz
            generalize hzk : Seg.rz g k = zk at *
            go_wp2_with (at_builtin; refine wpList_append_own _ rfl (.tmp 58) (.tmp 61) 43 rfl w.heap.size 25 i0 (.slice none 0 0) 1 24 Try.underlying43 hi0 hz0 hz1 hz2 rfl (by decide) _ _ _ rfl ox ⟨w3.heap.size + 1, 0, none⟩ 1 1 [.slice A3 (L k - 11) C3] rfl rfl cx (by intro u hu; simp at hu; subst hu; rfl) (by unfold maxLen; omega) (by omega) bX.size ?_; intro v7 w7 hown1 hgrow1 _)
            have b7 : Below w.heap.size w w7 := bX.grown hgrow1 bX.size (fun x hx => (HLT x hx).1)
            rw [← range_upd] at hown1
            refine ⟨⟨k + 1, _, zk, true, by omega, by go_num, rfl, rfl, hown1, (fun i hi => ?_), (fun i hi q => ?_), (fun _ => ⟨k, by omega, HRT.out⟩), b7⟩, by simp [intOf]; omega⟩
            · by_cases e : i = k
              · rw [e, updV_at, Seg.rl_yes HRT.out]
                exact HD3.out
              · rw [updV_ne _ _ e]
                exact HU.out i (by omega)
            · by_cases e : i = k
              · rw [e]
                exact ⟨hzk, rfl⟩
              · exact ⟨HSZ.out i (by omega) q, rfl⟩
          · have HE : Hid (readE seg n (n + s) L g = 8) := by
              show readE seg n (n + s) L g = 8
              obtain ⟨i, hi, q⟩ := HB.out rfl
              unfold readE
              rw [if_neg (fun q => q HEW.out), if_pos (fun q2 => hzz (by
                rw [← (HZ.out i hi q).1]
                exact q2 k hlt i (by omega) HRT.out q))]
            have tz : (((Seg.rz g k : Nat) : Int) != ((sz : Nat) : Int)) = true := by rw [bne_iff_ne]; omega
            generalize hzk : Seg.rz g k = zk at *
            clear hzz ox bX HLT cx
            go_wp2_with fail
            go_ret2
            exact ⟨_, by rw [HE.out]; rfl, Or.inr ⟨by rw [HE.out]; decide, rfl⟩, hbr⟩
    · obtain rfl : k = n + s := by omega
      have HSS : Hid (Seg.sizes seg L g (n + s)) := fun i hi j hj q1 q2 => by rw [(HZ.out i hi q1).1, (HZ.out j hj q2).1]
      have LS := lls_own ho HU.out hbr hbf
      have HM := refMendO u9 (n + s) (Seg.rl seg L g) (Seg.rf g) (n : Int) wr LS.arg (by unfold maxLen; omega)
      rw [Int.toNat_natCast] at HM
      clear ho LS HU HL HL0
      by_cases hE : mendE (n : Int) (n + s) (Seg.rl seg L g) = 0
      case neg =>
        have HE : Hid (readE seg n (n + s) L g = mendE (n : Int) (n + s) (Seg.rl seg L g)) := by
          show readE seg n (n + s) L g = _
          unfold readE
          rw [if_neg (fun q => q HEW.out), if_neg (fun q => q HSS.out), if_pos hE]
        have HE0 : Hid (readE seg n (n + s) L g ≠ 0) := by
          show readE seg n (n + s) L g ≠ 0
          rw [HE.out]
          exact hE
        generalize mendE (n : Int) (n + s) (Seg.rl seg L g) = E at HM HE hE
        have hx' : ((E : Int) == 0) = false := by rw [beq_eq_false_iff_ne]; omega
        have hxn : ((E : Int) != 0) = true := by rw [bne, hx']; rfl
        clear hE
        go_wp2_with fail
        refine HM.mono ?_
        rintro e w2 ⟨v2, r, rfl, _, _, b2⟩
        have b2 := bt hbr b2
        clear HM
        go_wp2_with fail
        go_ret2
        exact ⟨_, by rw [HE.out]; rfl, Or.inr ⟨HE0.out, rfl⟩, b2⟩
      case pos =>
        have hth : 0 < (there (Seg.rl seg L g) (n + s)).length := by
          refine Nat.pos_of_ne_zero fun q => ?_
          unfold mendE at hE
          rw [if_neg (fun q => q HEW.out), if_pos (by rw [q, Int.toNat_natCast]; omega)] at hE
          cases hE
        obtain ⟨ht1, ht2⟩ := thr_mem hth
        have HSZ : Hid (sz = Seg.rz g (thr (Seg.rl seg L g) (n + s) 0)) := ((HZ.out _ ht1 (Seg.rl_right ht2)).1).symm
        have HE : Hid (readE seg n (n + s) L g = if n * Seg.rl seg L g (thr (Seg.rl seg L g) (n + s) 0) < Seg.rz g (thr (Seg.rl seg L g) (n + s) 0) then 8 else 0) := by
          show readE seg n (n + s) L g = _
          unfold readE
          rw [if_neg (fun q => q HEW.out), if_neg (fun q => q HSS.out), if_neg (fun q => q hE), Int.toNat_natCast]
        rw [hE] at HM
        generalize hc : Seg.rl seg L g (thr (Seg.rl seg L g) (n + s) 0) = c at *
        clear hE hth ht1
        go_wp2_with fail
        refine HM.mono ?_
        rintro e w2 ⟨v2, r, rfl, hrU, hO, b2⟩
        obtain ⟨hr1, hr2⟩ := hrU trivial
        have hM2 : Mx w2 v2 (n + s) c (Gf.mm n (Gf.rowF n) (Gf.mm n r (fun p => Seg.rf g (thr (Seg.rl seg L g) (n + s) p)))) := by
          rcases hO with ⟨_, q⟩ | ⟨q, _⟩
          · exact q
          · omega
        have b2 := bt hbr b2
        obtain ⟨_, _, c1, c2⟩ := hM2.dim
        have hFb := hM2.bd
        obtain ⟨bm, om, cm, G, O, K, rfl, hm⟩ := hM2.lies
        have HFN : Hid (∃ r, Gf.Bd2 r ∧ Gf.Und n (fun p => Gf.rowF n (thr (Seg.rl seg L g) (n + s) p)) r ∧ Gf.mm n (Gf.rowF n) (Gf.mm n r (fun p => Seg.rf g (thr (Seg.rl seg L g) (n + s) p))) = Gf.mm n (Gf.rowF n) (Gf.mm n r (fun p => Seg.rf g (thr (Seg.rl seg L g) (n + s) p)))) := ⟨r, hr1, hr2, rfl⟩
        generalize hF : Gf.mm n (Gf.rowF n) (Gf.mm n r (fun p => Seg.rf g (thr (Seg.rl seg L g) (n + s) p))) = F at *
        clear HM hO hrU HFN
        go_wp2_with fail
        go_loop [18, 19] (fun y x => ∃ i : Nat, i ≤ n ∧ x = .int .i64 i ∧ y = .string (strL ((List.range i).flatMap (fun p => (List.range c).map (F p))))) (fun _ x => n - (intOf x).toNat)
        case atStart => exact ⟨0, Nat.zero_le _, rfl, rfl⟩
        case round =>
          obtain ⟨i, hi, rfl, rfl⟩ := hrel
          have HLN : (strL ((List.range i).flatMap (fun p => (List.range c).map (F p)))).size = i * c := by
            rw [strL_size, flat_len _ c _ (fun _ _ => by simp), List.length_range]
          by_cases hlt : i < n
          · have hlt' : (i : Int) < (n : Int) := by omega
            have hlt3 : (i : Int) < (n : Int) + (s : Int) := by omega
            have hlt4 : i < n + s := by omega
            have t1 := hm.top i (by omega)
            have q1 : (convert 25 9 (.slice (some ⟨G i, O i, none⟩) c (K i))).run Try.prog w2 = .ok (.string (strB (F i) c)) w2 := run_convert_bytes_arg (P := Try.prog) w2 25 5 Try.underlying25 Try.underlying5 (G i) (O i) c (K i) ((List.range c).map fun j => (F i j : Int)) (by simp) (fun j hj => by rw [bytes_getD _ _ _ hj]; exact hm.row i (by omega) j hj) 9 Try.underlying9
            rw [strB_list] at q1
            have HCT : Hid (strL ((List.range i).flatMap (fun p => (List.range c).map (F p))) ++ strL ((List.range c).map (F i)) = strL ((List.range (i + 1)).flatMap (fun p => (List.range c).map (F p)))) := by
              show _ = _
              rw [strL_cat, List.range_succ, List.flatMap_append]
              simp
            have hz2 : (strL ((List.range c).map (F i))).size = c := by rw [strL_size]; simp
            have hmul : i * c ≤ 8 * 400 := Nat.mul_le_mul (by omega) c2
            have hadd : ¬ 9223372036854775807 < (strL ((List.range i).flatMap (fun p => (List.range c).map (F p)))).size + (strL ((List.range c).map (F i))).size := by rw [HLN, hz2]; omega
            generalize strL ((List.range i).flatMap (fun p => (List.range c).map (F p))) = S at HCT hadd HLN
            generalize strL ((List.range c).map (F i)) = T at HCT hadd q1 hz2
            clear hm
            go_wp2_with fail
            exact ⟨⟨i + 1, by omega, by go_num, by rw [HCT.out]⟩, by simp [intOf]; omega⟩
          · obtain rfl : i = n := by omega
            have hmul : i * c ≤ 8 * 400 := Nat.mul_le_mul h2 c2
            have HGT : Hid (∀ j, j < i * c → ((List.range i).flatMap (fun p => (List.range c).map (F p))).getD j 0 = F (j / c) (j % c)) := fun j hj => flat_at F i c j (by omega) hj
            have HBY : Hid (∀ x, x ∈ (List.range i).flatMap (fun p => (List.range c).map (F p)) → x < 256) := fun x hx => by
              obtain ⟨p, _, hx⟩ := List.mem_flatMap.1 hx
              obtain ⟨k, _, rfl⟩ := List.mem_map.1 hx
              exact hFb p k
            have HLL : Hid (((List.range i).flatMap (fun p => (List.range c).map (F p))).length = i * c) := by
              show _ = _
              rw [flat_len _ c _ (fun _ _ => by simp), List.length_range]
            generalize (List.range i).flatMap (fun p => (List.range c).map (F p)) = fl at HGT HBY HLL HLN
            generalize hic : i * c = ic at *
            by_cases hsz : ic < sz
            · have hsz' : (ic : Int) < (sz : Int) := by omega
              have HE8 : Hid (readE seg i (i + s) L g = 8) := by
                show readE seg i (i + s) L g = 8
                rw [HE.out, ← HSZ.out, if_pos hsz]
              generalize strL fl = S at HLN
              clear hm
              go_wp2_with fail
              go_ret2
              exact ⟨_, by rw [HE8.out]; rfl, Or.inr ⟨by rw [HE8.out]; decide, rfl⟩, b2⟩
            · have hsz' : ¬ (ic : Int) < (sz : Int) := by omega
              have HE8 : Hid (readE seg i (i + s) L g = 0) := by
                show readE seg i (i + s) L g = 0
                rw [HE.out, ← HSZ.out, if_neg hsz]
              have hsz2 : (sz : Int) ≤ (ic : Int) := by omega
              have HXS : ((strL fl).extract 0 sz).size = sz := by
                rw [ByteArray.size_extract, HLN]
                omega
              have hcv := Lib.run_convert_string_bytes (P := Try.prog) w2 9 25 5 ((strL fl).extract 0 sz) Try.underlying9 Try.underlying25 Try.underlying5
              have b3 := bytesWorld_below w2 5 ((strL fl).extract 0 sz)
              have hcm := grownCap_le_maxLen w2 sz 0 5 (by unfold maxLen; omega)
              have hcg := grownCap_ge w2 sz 0 5
              have HBT : Hid (Byts (Lib.bytesWorld w2 5 ((strL fl).extract 0 sz)) (.slice (some ⟨w2.heap.size, 0, none⟩) sz (grownCap w2 sz 0 5)) sz (fun k => F (k / c) (k % c))) := by
                refine ⟨fun k => hFb _ _, some ⟨w2.heap.size, 0, none⟩, _, rfl, hcg, hcm, fun j hj => ⟨w2.heap.size, 0, rfl, ?_⟩⟩
                rw [Nat.zero_add, Lib.bytesWorld_cell _ _ _ _ (by rw [HXS]; exact hj), extract_at HBY.out (by rw [HLL.out]; omega) hj, HGT.out j (by omega)]
              rw [HXS] at hcv
              generalize Lib.bytesWorld w2 5 ((strL fl).extract 0 sz) = w3 at hcv b3 HBT
              generalize grownCap w2 sz 0 5 = C3 at hcv HBT
              have b3 := bt b2 b3
              generalize strL fl = S at HLN hcv
              have HFI : Hid (∃ r, Gf.Bd2 r ∧ Gf.Und i (fun p => Gf.rowF i (thr (Seg.rl seg L g) (i + s) p)) r ∧ Byts w3 (.slice (some ⟨w2.heap.size, 0, none⟩) sz C3) (Seg.rz g (thr (Seg.rl seg L g) (i + s) 0)) (fun k => Gf.mm i (Gf.rowF i) (Gf.mm i r (fun p => Seg.rf g (thr (Seg.rl seg L g) (i + s) p))) (k / Seg.rl seg L g (thr (Seg.rl seg L g) (i + s) 0)) (k % Seg.rl seg L g (thr (Seg.rl seg L g) (i + s) 0)))) := by
                refine ⟨r, hr1, hr2, ?_⟩
                rw [hF, hc, ← HSZ.out]
                exact HBT.out
              clear hm hcm hcg HXS
              go_wp2_with fail
              go_ret2
              exact ⟨_, by rw [HE8.out]; rfl, Or.inl ⟨HE8.out, HFI.out⟩, b3⟩

end Go.Proofs.Ytmlboaejkmffjad

namespace Go.Proofs.Ytmlboaejkmffjad
open Go.RowKit

set_option maxHeartbeats 400000 in
set_option maxRecDepth 100000 in
theorem refRead_bad (A : Option Addr) (N cap : Nat) (seg d : Int) (w : World) (hN : N ≤ maxLen) (h : wrongC d ((N : Int) - d) ≠ 0) :
    Calls Try.prog 27 #[.slice A N cap, .int .i64 seg, .int .i64 d] w fun e w' => e = .returned (.tuple #[.slice none 0 0, .int .i64 5]) ∧ Below w.heap.size w w' := by
  unfold maxLen at hN
  have H : Hid (∀ w, Calls Try.prog 45 #[.int .i64 d, .int .i64 (wrap64 ((N : Int) - d))] w fun e w' => e = .returned (.int .i64 5) ∧ Below w.heap.size w w') := fun w => by
    have := refWrongC_any d (wrap64 ((N : Int) - d)) w
    rw [wrongC_bad (by
      unfold wrongC at h
      split at h
      · rename_i hb
        unfold wrap64
        omega
      · exact absurd rfl h)] at this
    exact this
  clear h hN
  go_enter Try.func27, Try.ntmps27
  go_wp2_with fail
  refine (H.out _).mono ?_
  rintro e w1 ⟨rfl, b1⟩
  go_wp2_with fail
  go_ret2
  exact ⟨rfl, b1⟩

/-- What Read tells of whatever blocks. -/
theorem refRead_any (v : Value) (N : Nat) (L : Nat → Nat) (g : Nat → Nat → Nat) (seg d : Int) (w : World) (h : Lls w v N L g) :
    Calls Try.prog 27 #[v, .int .i64 seg, .int .i64 d] w fun e w' => ∃ v', e = .returned (.tuple #[v', .int .i64 (readE seg d N L g : Nat)]) ∧ ReadO w' (readE seg d N L g) v' d.toNat N (Seg.rl seg L g) (Seg.rf g) (Seg.rz g (thr (Seg.rl seg L g) N 0)) ∧ Below w.heap.size w w' := by
  have hN := h.len
  obtain ⟨A, C, rfl⟩ := h.shape
  by_cases hw : wrongC d ((N : Int) - d) = 0
  · have hb : ¬ (d < 1 ∨ 8 < d ∨ (N : Int) - d < 0 ∨ 4 < (N : Int) - d) := fun q => by rw [wrongC_bad q] at hw; cases hw
    obtain ⟨n, rfl⟩ := Int.eq_ofNat_of_zero_le (show 0 ≤ d by omega)
    obtain ⟨s, rfl⟩ : ∃ s, N = n + s := ⟨N - n, by omega⟩
    exact refRead_ok A C n s L g seg w h (by omega) (by omega) (by omega)
  · have hE : readE seg d N L g = 5 := if_pos hw
    refine (refRead_bad A N C seg d w (by unfold maxLen; omega) hw).mono ?_
    rintro e w' ⟨rfl, hb⟩
    exact ⟨_, by rw [hE]; rfl, Or.inr ⟨by rw [hE]; decide, rfl⟩, hb⟩

set_option maxHeartbeats 400000 in
set_option maxRecDepth 100000 in
theorem refSMend_any (v : Value) (N : Nat) (L : Nat → Nat) (g : Nat → Nat → Nat) (seg d : Int) (w : World) (h : Lls w v N L g) :
    Calls Try.prog 29 #[v, .int .i64 seg, .int .i64 d] w fun e w' => SMendP seg d N L g e w' ∧ Below w.heap.size w w' := by
  have HR := refRead_any v N L g seg d w h
  have hN := h.len
  obtain ⟨A, C, rfl⟩ := h.shape
  by_cases hE : readE seg d N L g = 0
  case neg =>
    have HE : Hid (readE seg d N L g ≠ 0) := hE
    have HP : Hid (∀ w', SMendP seg d N L g (.returned (.tuple #[.slice none 0 0, .int .i64 (readE seg d N L g : Nat)])) w') := fun w' => Or.inl ⟨hE, rfl⟩
    have hx' : (((readE seg d N L g : Nat) : Int) == 0) = false := by rw [beq_eq_false_iff_ne]; omega
    have hxn : (((readE seg d N L g : Nat) : Int) != 0) = true := by rw [bne, hx']; rfl
    clear hE h
    go_enter Try.func29, Try.ntmps29
    go_wp2_with fail
    refine HR.mono ?_
    rintro e w1 ⟨v1, rfl, _, b1⟩
    clear HR
    go_wp2_with fail
    go_ret2
    exact ⟨HP.out _, b1⟩
  case pos =>
    have hw : wrongC d ((N : Int) - d) = 0 := by
      refine Classical.byContradiction fun q => ?_
      rw [show readE seg d N L g = 5 from if_pos q] at hE
      cases hE
    have hb : ¬ (d < 1 ∨ 8 < d ∨ (N : Int) - d < 0 ∨ 4 < (N : Int) - d) := fun q => by rw [wrongC_bad q] at hw; cases hw
    have p1 : 1 ≤ d := by omega
    have p2 : d ≤ 8 := by omega
    have p3 : (0 : Int) ≤ (N : Int) - d := by omega
    have p4 : (N : Int) - d ≤ 4 := by omega
    have HE : Hid (readE seg d N L g = 0) := hE
    rw [hE] at HR
    clear hE hw hb h
    go_enter Try.func29, Try.ntmps29
    go_wp2_with fail
    refine HR.mono ?_
    rintro e w1 ⟨v1, rfl, hO, b1⟩
    obtain ⟨r, hr1, hr2, hy⟩ : ∃ r, Gf.Bd2 r ∧ Gf.Und d.toNat (fun p => Gf.rowF d.toNat (thr (Seg.rl seg L g) N p)) r ∧ Byts w1 v1 (Seg.rz g (thr (Seg.rl seg L g) N 0)) (readF d.toNat N (Seg.rl seg L g) (Seg.rf g) r) := by
      rcases hO with ⟨_, q⟩ | ⟨q, _⟩
      · exact q
      · exact absurd rfl q
    have HL := refLay_any v1 _ _ seg d ((N : Int) - d) w1 hy
    have HP : Hid (∀ e w', (∃ v', e = .returned (.tuple #[v', .int .i64 (Seg.layE (Seg.rz g (thr (Seg.rl seg L g) N 0)) seg d ((N : Int) - d) : Nat)]) ∧ LayO w' (Seg.layE (Seg.rz g (thr (Seg.rl seg L g) N 0)) seg d ((N : Int) - d)) v' (d.toNat + ((N : Int) - d).toNat) (Seg.layN (Seg.rz g (thr (Seg.rl seg L g) N 0)) d.toNat + 11) (Seg.blk (readF d.toNat N (Seg.rl seg L g) (Seg.rf g) r) (Seg.rz g (thr (Seg.rl seg L g) N 0)) seg.toNat d.toNat)) → SMendP seg d N L g e w') := fun e w' ⟨v', q1, q2⟩ => Or.inr ⟨HE.out, v', r, hr1, hr2, q1, q2⟩
    obtain ⟨A1, C1, rfl⟩ := hy.shape
    clear HR hO hy
    go_wp2_with fail
    refine HL.mono ?_
    rintro e w2 ⟨v2, rfl, O2, b2⟩
    have HP := HP.out _ w2 ⟨v2, rfl, O2⟩
    have HPH : Hid (SMendP seg d N L g (.returned (.tuple #[v2, .int .i64 (Seg.layE (Seg.rz g (thr (Seg.rl seg L g) N 0)) seg d ((N : Int) - d) : Nat)])) w2) := HP
    have b2 := bt b1 b2
    clear HL O2 HP
    go_wp2_with fail
    go_ret2
    exact ⟨HPH.out, b2⟩

end Go.Proofs.Ytmlboaejkmffjad

namespace Go.Proofs.Ytmlboaejkmffjad
open Go.RowKit

set_option maxHeartbeats 1000000 in
set_option maxRecDepth 100000 in
theorem same_lls (vx vy : Value) (n : Nat) (L : Nat → Nat) (f g : Nat → Nat → Nat) (w : World) (hx : Lls w vx n L f) (hy : Lls w vy n L g) (he : ∀ r, r < n → ∀ k, k < L r → f r k = g r k) :
    Calls Try.prog 23 #[vx, vy] w fun e w' => e = .returned (.bool true) ∧ Below w.heap.size w w' := by
  have hn := hx.len
  obtain ⟨A, C, rfl⟩ := hx.shape
  obtain ⟨A', C', rfl⟩ := hy.shape
  have HX : Hid (∀ w', Below w.heap.size w w' → Lls w' (.slice A n C) n L f) := fun w' hb => hx.below hb
  have HY : Hid (∀ w', Below w.heap.size w w' → Lls w' (.slice A' n C') n L g) := fun w' hb => hy.below hb
  have HE : Hid (∀ r, r < n → ∀ k, k < L r → f r k = g r k) := he
  clear hx hy he
  go_enter Try.func23, Try.ntmps23
  go_wp2_with fail
  go_loopw [13] (fun i wr => ∃ k : Nat, k ≤ n ∧ i = .int .i64 k ∧ Below w.heap.size w wr) (fun i _ => n - (intOf i).toNat)
  case atStart => exact ⟨0, Nat.zero_le _, rfl, Below.refl _ _⟩
  case round =>
    obtain ⟨k, hk, rfl, hb⟩ := hrel
    by_cases hlt : k < n
    · have hlt' : (k : Int) < (n : Int) := by omega
      obtain ⟨b, o, R, K, rfl, t1, y1⟩ := (HX.out wr hb).at hlt
      obtain ⟨b', o', R', K', rfl, t2, y2⟩ := (HY.out wr hb).at hlt
      have q1 := conv_any (y1.below (Below.refl wr.heap.size wr).drew)
      have q2 := conv_any (y2.below (Below.refl wr.heap.size wr).drew)
      rw [strB_congr (HE.out k hlt)] at q1
      generalize strB (g k) (L k) = S at q1 q2
      clear y1 y2
      go_wp2_with fail
      go_region
      all_goals go_wp2_with fail
      all_goals exact ⟨⟨k + 1, by omega, by go_num, hb.drew⟩, by simp [intOf]; omega⟩
    · obtain rfl : k = n := by omega
      go_wp2_with fail
      go_ret
      exact ⟨rfl, hb⟩

end Go.Proofs.Ytmlboaejkmffjad
