/-
  Texts of the proof, joined: JApp, JLay, EStep.
-/
import Derived.Test.YtmcaejooaaahdaaGreatZ63
import Derived.Test.YtmcaejooaaahdaaGreatZ17
import Derived.Deep.RegionHeld3
import Derived.Maps.AppendAt
import Derived.Lib.AppendStr
import Derived.Deep.Cut
import Derived.Deep.CutRange
namespace Go.Proofs.YtmcaejooaaahdaaGreat
open Go.RowKit

/-- A row of the call's own behind world W. -/
structure RG (W w : World) (e : TypeId) (sz : Nat) (v : Value) (n : Nat) (us : List Value) : Prop where
  bel : Below W.heap.size W w
  own : w.ownsRow W.heap.size e sz v n us
theorem RG.below {W w w' : World} {e : TypeId} {sz : Nat} {v : Value} {n : Nat} {us : List Value} (h : RG W w e sz v n us) (hb : Below w.heap.size w w') : RG W w' e sz v n us := ⟨bt h.bel hb, owns_below h.own hb⟩
section
variable {t e : TypeId} {sz bytes : Nat} {z : Value} (ht : Tryz.prog.underlying t = some (.slice e)) (hin : (Tryz.prog.info? e).map (fun i => (i.zero, i.size, i.bytes)) = some (some z, sz, bytes)) (hzs : z.cells.size = sz) (hsz : 0 < sz) (hby : bytes ≤ 1000)
include ht hin hzs hsz hby
/-- One append to it. -/
theorem RG.app {W w : World} {v : Value} {n : Nat} {us : List Value} (h : RG W w e sz v n us) (A : Option Addr) (m c : Nat) (hA : A = none → m = 0) (news : List Value) (hl : news.length = m * sz) (hc : ∀ a, A = some a → ∀ j u, news[j]? = some u → w.cell? (a.add j) = some u) (h1 : ∀ u, u ∈ news → u.oneCell' = true) (hnm : n + m ≤ 100000) :
    ∃ v' w', (Builtin.append_ #[t, t] t #[v, .slice A m c]).run Tryz.prog w = .ok v' w' ∧ RG W w' e sz v' (n + m) (us ++ news) ∧ ∀ B t' cs, VarN w B t' cs → v.ownBlock ≠ some B → VarN w' B t' cs := by
  obtain ⟨v', w', hr, h2, h3, _⟩ := app_gen t ht hin hzs hsz hby h.own A m c hA news hl hc h1 hnm h.bel.size
  exact ⟨v', w', hr, ⟨h.bel.trans (grown_below h3 (fun g hg => (h.own.lt g hg).1) h.bel.size), h2⟩, fun B t' cs hV hn => hV.off (off_of_grown h3) hn⟩
/-- Both appends, in each order. -/
theorem app_orders (W : World) (A : Option Addr) (m c : Nat) (hA : A = none → m = 0) (news : List Value) (hl : news.length = m * sz) (hc : ∀ a, A = some a → ∀ j u, news[j]? = some u → W.cell? (a.add j) = some u) (h1 : ∀ u, u ∈ news → u.oneCell' = true) (hm : m ≤ 1000) (lit : Array Value) (hlit : lit.size = sz) (h1l : ∀ u, u ∈ lit.toList → u.oneCell' = true) :
    (∃ A6 n6 C6 w6 A7 n7 C7 w7, (Builtin.append_ #[t, t] t #[.slice (some ⟨W.heap.size, 0, none⟩) 0 0, .slice A m c]).run Tryz.prog (W.alloc (.cells #[] e)).drew = .ok (.slice A6 n6 C6) w6 ∧ Below W.heap.size W w6 ∧ (Builtin.append_ #[t, t] t #[.slice A6 n6 C6, .slice (some ⟨w6.heap.size, 0, none⟩) 1 1]).run Tryz.prog (w6.alloc (.cells lit e)) = .ok (.slice A7 n7 C7) w7 ∧ RG W w7 e sz (.slice A7 n7 C7) (m + 1) (news ++ lit.toList)) ∧
    (∃ A6 n6 C6 w6 A7 n7 C7 w7, (Builtin.append_ #[t, t] t #[.slice (some ⟨W.heap.size, 0, none⟩) 0 0, .slice A m c]).run Tryz.prog ((W.alloc (.cells #[] e)).alloc (.cells lit e)).drew = .ok (.slice A6 n6 C6) w6 ∧ Below W.heap.size W w6 ∧ (Builtin.append_ #[t, t] t #[.slice A6 n6 C6, .slice (some ⟨W.heap.size + 1, 0, none⟩) 1 1]).run Tryz.prog w6 = .ok (.slice A7 n7 C7) w7 ∧ RG W w7 e sz (.slice A7 n7 C7) (m + 1) (news ++ lit.toList)) ∧
    (∃ A6 n6 C6 w6 A7 n7 C7 w7, (Builtin.append_ #[t, t] t #[.slice (some ⟨W.heap.size + 1, 0, none⟩) 0 0, .slice A m c]).run Tryz.prog ((W.alloc (.cells lit e)).alloc (.cells #[] e)).drew = .ok (.slice A6 n6 C6) w6 ∧ Below W.heap.size W w6 ∧ (Builtin.append_ #[t, t] t #[.slice A6 n6 C6, .slice (some ⟨W.heap.size, 0, none⟩) 1 1]).run Tryz.prog w6 = .ok (.slice A7 n7 C7) w7 ∧ RG W w7 e sz (.slice A7 n7 C7) (m + 1) (news ++ lit.toList)) := by
  have bR : ∀ w' : World, Below w'.heap.size w' w'.drew := fun w' => (Below.refl _ _).drew
  have bA : ∀ (w' : World) o, Below w'.heap.size w' (w'.alloc o) := fun w' o => (Below.refl _ _).alloc (Nat.le_refl _) o
  have hs1 : ∀ o, (W.alloc o).heap.size = W.heap.size + 1 := fun o => Array.size_push _
  have hcB : ∀ w', Below W.heap.size W w' → ∀ a, A = some a → ∀ j u, news[j]? = some u → w'.cell? (a.add j) = some u := fun w' hb a ha j u hj => (hb.cell (p := a.add j) (World.block_lt_of_cell? _ _ (hc a ha j u hj))).trans (hc a ha j u hj)
  have hE : ∀ w', Below W.heap.size W w' → RG W (w'.alloc (.cells #[] e)) e sz (.slice (some ⟨w'.heap.size, 0, none⟩) 0 0) 0 [] := fun w' hb => ⟨hb.alloc hb.size _, World.ownsRow_made w' #[] 0 hb.size (by unfold maxLen; omega) (by simp)⟩
  have hlc : ∀ (w' : World) (B : Nat), VarN w' B e lit.toList → ∀ a, some (⟨B, 0, none⟩ : Addr) = some a → ∀ j u, lit.toList[j]? = some u → w'.cell? (a.add j) = some u := fun w' B hV a ha j u hj => by
    cases ha
    rw [WideShapes.add_plain, Nat.zero_add]
    exact hV.cell hj
  have hll : lit.toList.length = 1 * sz := by rw [Array.length_toList, hlit, Nat.one_mul]
  refine ⟨?_, ?_, ?_⟩
  · have R0 := (hE W (Below.refl _ _)).below (bR _)
    obtain ⟨v6, w6, r6, R6, _⟩ := R0.app ht hin hzs hsz hby A m c hA news hl (hcB _ R0.bel) h1 (by omega)
    have R6' := R6.below (bA w6 (.cells lit e))
    obtain ⟨v7, w7, r7, R7, _⟩ := R6'.app ht hin hzs hsz hby (some ⟨w6.heap.size, 0, none⟩) 1 1 (fun e => by cases e) lit.toList hll (hlc _ _ (varN_new w6 lit e)) h1l (by omega)
    rw [Nat.zero_add, List.nil_append] at R7
    obtain ⟨A6, C6, e6, _⟩ := row_shape R6.own
    obtain ⟨A7, C7, e7, _⟩ := row_shape R7.own
    subst e6 e7
    exact ⟨A6, _, C6, w6, A7, _, C7, w7, r6, R6.bel, r7, R7⟩
  · have R0 := ((hE W (Below.refl _ _)).below (bA _ (.cells lit e))).below (bR _)
    have V0 := (varN_new (W.alloc (.cells #[] e)) lit e).below (bR _)
    rw [hs1] at V0
    obtain ⟨v6, w6, r6, R6, K6⟩ := R0.app ht hin hzs hsz hby A m c hA news hl (hcB _ R0.bel) h1 (by omega)
    have V6 := K6 _ _ _ V0 (fun q => by
      have q : some W.heap.size = some (W.heap.size + 1) := q
      have := Option.some.inj q
      omega)
    obtain ⟨v7, w7, r7, R7, _⟩ := R6.app ht hin hzs hsz hby (some ⟨W.heap.size + 1, 0, none⟩) 1 1 (fun e => by cases e) lit.toList hll (hlc _ _ V6) h1l (by omega)
    rw [Nat.zero_add, List.nil_append] at R7
    obtain ⟨A6, C6, e6, _⟩ := row_shape R6.own
    obtain ⟨A7, C7, e7, _⟩ := row_shape R7.own
    subst e6 e7
    exact ⟨A6, _, C6, w6, A7, _, C7, w7, r6, R6.bel, r7, R7⟩
  · have hb1 := bA W (.cells lit e)
    have R0 := (hE _ hb1).below (bR _)
    have V0 := ((varN_new W lit e).below (bA _ (.cells #[] e))).below (bR _)
    rw [hs1] at R0
    obtain ⟨v6, w6, r6, R6, K6⟩ := R0.app ht hin hzs hsz hby A m c hA news hl (hcB _ R0.bel) h1 (by omega)
    have V6 := K6 _ _ _ V0 (fun q => by
      have q : some (W.heap.size + 1) = some W.heap.size := q
      have := Option.some.inj q
      omega)
    obtain ⟨v7, w7, r7, R7, _⟩ := R6.app ht hin hzs hsz hby (some ⟨W.heap.size, 0, none⟩) 1 1 (fun e => by cases e) lit.toList hll (hlc _ _ V6) h1l (by omega)
    rw [Nat.zero_add, List.nil_append] at R7
    obtain ⟨A6, C6, e6, _⟩ := row_shape R6.own
    obtain ⟨A7, C7, e7, _⟩ := row_shape R7.own
    subst e6 e7
    exact ⟨A6, _, C6, w6, A7, _, C7, w7, r6, R6.bel, r7, R7⟩
end

end Go.Proofs.YtmcaejooaaahdaaGreat

namespace Go.Proofs.YtmcaejooaaahdaaGreat
open Go.RowKit

/-- Rows of bytes, all of them in blocks from M on. -/
def LayG (w : World) (M : Nat) (v : Value) (n m : Nat) (F : Nat → Nat → Nat) : Prop := ∃ N G K, M ≤ N ∧ Acc w N v n m G K F ∧ Gf.Bd2 F ∧ ∀ i, i < n → m ≤ K i ∧ K i ≤ maxLen
theorem acc_blank {w : World} {N : Nat} {S : Nat → Bool} {v : Value} {k c : Nat} {G K : Nat → Nat} {f : Nat → Nat → Nat} (h : Acc w N v k c G K f) (hS : ∀ k, S k = true → k < N) : Acc (blank S w) N v k c G K f := by
  have hf : ∀ g, N ≤ g → S g = false := fun g hg => by
    cases q : S g with
    | false => rfl
    | true =>
      have := hS g q
      omega
  refine ⟨?_, fun i hi => ⟨(h.row i hi).1, (h.row i hi).2.of_block (blank_block (hf _ (h.row i hi).1))⟩⟩
  obtain ⟨hl, ho⟩ := h.own
  refine ⟨hl, ho.imp id ?_⟩
  rintro ⟨g, cap, cur, hv, hN, hg, hr⟩
  exact ⟨g, cap, cur, hv, hN, (blank_block (hf g hN)).trans hg, hr⟩
theorem LayG.lls {w : World} {M : Nat} {v : Value} {n m : Nat} {F : Nat → Nat → Nat} (h : LayG w M v n m F) : Lls w v n (fun _ => m) F ∧ ∀ S : Nat → Bool, (∀ k, S k = true → k < M) → Lls (blank S w) v n (fun _ => m) F := by
  obtain ⟨N, G, K, h1, h2, h3, h4⟩ := h
  exact ⟨h2.lls h3 h4, fun S hS => (acc_blank h2 (fun k hk => Nat.lt_of_lt_of_le (hS k hk) h1)).lls h3 h4⟩
/-- Lists of bytes, none of them below M. -/
def BlM (w : World) (M : Nat) (v : Value) (L : List (List Nat)) : Prop := BlL w v L ∧ ∀ S : Nat → Bool, (∀ k, S k = true → k < M) → BlL (blank S w) v L
theorem BlM.below {w w' : World} {M : Nat} {v : Value} {L : List (List Nat)} (h : BlM w M v L) (hb : Below w.heap.size w w') : BlM w' M v L := ⟨h.1.below hb, fun S hS => (h.2 S hS).sub (blank_below hb)⟩
theorem BlM.lower {w : World} {M M' : Nat} {v : Value} {L : List (List Nat)} (h : BlM w M v L) (hm : M' ≤ M) : BlM w M' v L := ⟨h.1, fun S hS => h.2 S fun k hk => Nat.lt_of_lt_of_le (hS k hk) hm⟩
def BlP (e : Ending) (w : World) (M : Nat) (x : Nat × List (List Nat)) : Prop := ∃ v, e = .returned (.tuple #[v, .int .i64 (x.1 : Nat)]) ∧ ((x.1 = 0 ∧ BlM w M v x.2) ∨ (x.1 ≠ 0 ∧ v = .slice none 0 0))
set_option maxHeartbeats 2000000 in
set_option maxRecDepth 100000 in
theorem layJ_ok (v : Value) (L : Nat) (r : Nat → Nat) (seg d s : Nat) (w : World) (h : Byts w v L r) (h1 : 1 ≤ d) (h2 : d ≤ 8) (h3 : s ≤ 4) (h4 : seg ≤ 39) (h5 : L ≤ 400 * d) :
    Calls Tryz.prog 62 #[v, .int .i64 (seg : Int), .int .i64 (d : Int), .int .i64 (s : Int)] w fun e w' => ∃ v', e = .returned (.tuple #[v', .int .i64 0]) ∧ LayG w' w.heap.size v' (d + s) (Seg.layN L d + 11) (Seg.blk r L seg d) ∧ Below w.heap.size w w' := by
  have hn1 := Seg.layN_pos L d h1
  have hn2 := Seg.layN_le h1 h5
  have HW := fun w' => refWrongC_any (d : Int) (s : Int) w'
  rw [wrongC_ok (by omega)] at HW
  have hm1 : ¬ 400 * (d : Int) < (L : Int) := by omega
  have hm2 : (seg : Int) ≤ 39 := by omega
  have HYB : Hid (∀ w', Below w.heap.size w w' → Byts w' v L r) := fun w' hb => h.below hb
  have HRM : Hid (L ≤ Seg.layN L d * d) := Seg.layN_room L d h1
  have HRL : Hid (∀ n, 1 ≤ n → L ≤ n * d → Seg.layN L d ≤ n) := fun n q1 q2 => Seg.layN_least h1 q1 q2
  have HBD : Hid (Gf.Bd2 (Seg.layD r L (Seg.layN L d))) := Seg.layD_bd h.bd L _
  obtain ⟨A, C, rfl⟩ := h.shape
  have HYC : Hid (∀ w', Below w.heap.size w w' → ∀ k, k < L → ∃ b o, A = some ⟨b, o, none⟩ ∧ w'.cell? ⟨b, o + k, none⟩ = some (.int .u8 (r k : Nat))) := fun w' hb k hk => by
    obtain ⟨_, A', C', hv, _, _, hc⟩ := h.below hb
    cases hv
    exact hc k hk
  obtain ⟨i0, hi0, hh⟩ := Option.map_eq_some_iff.1 Tryz.infoRow
  simp only [Prod.mk.injEq] at hh
  obtain ⟨hz0, hz1, hz2⟩ := hh
  clear h
  go_enter Tryz.func62, Tryz.ntmps62
  go_wp2_with fail
  refine (HW _).mono ?_
  rintro e w1 ⟨rfl, b1⟩
  clear HW
  go_wp2_with fail
  go_loop [11] (fun x => ∃ n : Nat, 1 ≤ n ∧ n ≤ Seg.layN L d ∧ x = .int .i64 n) (fun x => Seg.layN L d - (intOf x).toNat)
  case atStart => exact ⟨1, Nat.le_refl _, hn1, rfl⟩
  case round =>
    obtain ⟨n, q1, q2, rfl⟩ := hrel
    have hmul : n * d ≤ 400 * 8 := Nat.mul_le_mul (by omega) h2
    have hcast : (n : Int) * (d : Int) = ((n * d : Nat) : Int) := by rw [Int.natCast_mul]
    have hw : IntKind.i64.wrap ((n : Int) * (d : Int)) = (n : Int) * (d : Int) := by rw [hcast, IntKind.wrap_i64]; omega
    have hw0 : -9223372036854775808 ≤ (n : Int) * (d : Int) := by rw [hcast]; omega
    have hw1 : (n : Int) * (d : Int) ≤ 9223372036854775807 := by rw [hcast]; omega
    by_cases hlt : n * d < L
    · have hlt' : (n : Int) * (d : Int) < (L : Int) := by rw [hcast]; omega
      have HLT : Hid (n < Seg.layN L d) := by
        show n < _
        refine Nat.lt_of_not_le (fun q => ?_)
        have := HRM.out
        have h9 := Nat.mul_le_mul_right d q
        omega
      clear hcast hlt hmul
      go_wp2_with fail
      have := HLT.out
      exact ⟨⟨n + 1, by omega, by omega, by go_num⟩, by simp [intOf]; omega⟩
    · have hlt' : ¬ (n : Int) * (d : Int) < (L : Int) := by rw [hcast]; omega
      obtain rfl : n = Seg.layN L d := Nat.le_antisymm q2 (HRL.out n q1 (by omega))
      generalize hnn : Seg.layN L d = n at *
      clear hcast hlt hmul q1 q2 HRM HRL
      go_wp2_with fail
      clear hw hw0 hw1 hlt'
      go_loopw [12, 13] (fun y x wr => ∃ i : Nat, i ≤ d ∧ x = .int .i64 i ∧ (∃ G K, Acc wr w1.heap.size y i n G K (Seg.layD r L n) ∧ Hid (∀ j, j < i → K j = n)) ∧ Below w1.heap.size w1 wr) (fun _ x _ => d - (intOf x).toNat)
      case atStart => exact ⟨0, Nat.zero_le _, rfl, ⟨fun _ => 0, fun _ => 0, Acc.start w1 _ n _ _ _, fun j hj => absurd hj (Nat.not_lt_zero j)⟩, Below.refl _ _⟩
      case round =>
        obtain ⟨i, hid, rfl, ⟨G2, K2, hA, HK⟩, hbo⟩ := hrel
        obtain ⟨wo, rfl⟩ : ∃ x, x = wr := ⟨wr, rfl⟩
        by_cases hi : i < d
        · have hi' : (i : Int) < (d : Int) := by omega
          have hmul : i * n ≤ 8 * 400 := Nat.mul_le_mul (by omega) hn2
          have hcast : (i : Int) * (n : Int) = ((i * n : Nat) : Int) := by rw [Int.natCast_mul]
          have hw : IntKind.i64.wrap ((i : Int) * (n : Int)) = (i : Int) * (n : Int) := by rw [hcast, IntKind.wrap_i64]; omega
          have hmk := run_make_row' (P := Tryz.prog) 59 5 (.int .u8 0) 1 Tryz.underlying59 Tryz.infoByte rfl .i64 .i64 n (by omega) (by omega)
          have HCS : Hid ((i : Int) * (n : Int) = ((i * n : Nat) : Int)) := hcast
          obtain ⟨q, hq⟩ : ∃ q, i * n = q := ⟨_, rfl⟩
          rw [hq] at hcast hmul
          have HQ : Hid (i * n = q) := hq
          have HIQ : Hid ((i : Int) * (n : Int) = (q : Int)) := hcast
          clear hcast hq
          go_wp2_with fail
          clear hmk
          go_loopw [57] (fun x wm => ∃ k : Nat, k ≤ n ∧ x = .int .i64 k ∧ wm.rowIs wo.heap.size 5 n (fun y => .int .u8 (upto k (Seg.layD r L n i) (fun _ => 0) y : Nat)) ∧ Below wo.heap.size wo wm) (fun x _ => n - (intOf x).toNat)
          case atStart => exact ⟨0, Nat.zero_le _, rfl, (World.rowIs_made wo (.int .u8 0) n 5).congr (fun j _ => by rw [show upto 0 (Seg.layD r L n i) (fun _ => 0) j = 0 from if_neg (Nat.not_lt_zero _)]; rfl), (Below.refl _ _).alloc (Nat.le_refl _) _⟩
          case round =>
            obtain ⟨k, hkc, rfl, hR, hbm⟩ := hrel
            by_cases hk : k < n
            · have hk' : (k : Int) < (n : Int) := by omega
              have hiq := HIQ.out
              have z1 := hR.frozen k
              have u1 := hR.cell hk
              rw [upto_at] at u1
              by_cases hin : q + k < L
              · have hin' : (q : Int) + (k : Int) < (L : Int) := by omega
                have HD : Hid (Seg.layD r L n i k = r (q + k)) := by
                  show Seg.layD r L n i k = r (q + k)
                  rw [Seg.layD_in hk (by rw [HQ.out]; exact hin), HQ.out]
                obtain ⟨bb, ob, rfl, t1⟩ := HYC.out wr (bt (bt b1 hbo) hbm) (q + k) hin
                have HP : Hid ((wr.setCell ⟨wo.heap.size, k, none⟩ (.int .u8 ((r (q + k) : Nat) : Int))).rowIs wo.heap.size 5 n (fun y => .int .u8 (upto (k + 1) (Seg.layD r L n i) (fun _ => 0) y : Nat))) := (hR.set k _).congr (fun y _ => upto_put HD.out y)
                have hbP := hbm.setCell (p := ⟨wo.heap.size, k, none⟩) (Nat.le_refl _) (.int .u8 ((r (q + k) : Nat) : Int))
                generalize r (q + k) = x at t1 HP hbP
                clear hR
                go_wp2_with fail
                exact ⟨⟨k + 1, by omega, by go_num, HP.out, hbP⟩, by simp [intOf]; omega⟩
              · have hin' : ¬ (q : Int) + (k : Int) < (L : Int) := by omega
                have HP : Hid (wr.rowIs wo.heap.size 5 n (fun y => .int .u8 (upto (k + 1) (Seg.layD r L n i) (fun _ => 0) y : Nat))) := hR.congr (fun y _ => upto_same (Seg.layD_out (by rw [HQ.out]; exact hin)) y)
                clear hR
                go_wp2_with fail
                exact ⟨⟨k + 1, by omega, by go_num, HP.out, hbm⟩, by simp [intOf]; omega⟩
            · obtain rfl : k = n := by omega
              have hF : RowC wr wo.heap.size 5 k (fun y => .int .u8 (Seg.layD r L k i y : Nat)) := rowC_of (hR.congr (fun y hy => by rw [show upto k (Seg.layD r L k i) (fun _ => 0) y = Seg.layD r L k i y from if_pos hy]))
              have hbX := (Below.refl wr.heap.size wr).alloc (Nat.le_refl _) (.cells #[.slice (some ⟨wo.heap.size, 0, none⟩) k k] 59)
              have AX := (hA.below hbm).below hbX
              have rX := hF.alloc (.cells #[.slice (some ⟨wo.heap.size, 0, none⟩) k k] 59)
              have bX := bt (bt hbo hbm) hbX
              clear hR hF hA
              go_wp2_with (at_builtin; refine wpList_append_own _ rfl (.tmp 80) (.tmp 82) 86 rfl w1.heap.size 59 i0 (.slice none 0 0) 1 24 Tryz.underlying86 hi0 hz0 hz1 hz2 rfl (by decide) _ _ _ rfl AX.own ⟨wr.heap.size, 0, none⟩ 1 1 [.slice (some ⟨wo.heap.size, 0, none⟩) k k] rfl rfl cell_one (by intro u hu; simp at hu; subst hu; rfl) (by unfold maxLen; omega) (by omega) bX.size ?_; intro v4 w4 hown1 hgrow1 _)
              have A1 := AX.step ⟨hbo.size, rX⟩ hown1 hgrow1
              have b4 : Below w1.heap.size w1 w4 := bX.grown hgrow1 bX.size (fun x hx => (AX.own.lt x hx).1)
              clear hown1 hgrow1 AX rX bX hbX hbm
              go_wp2_with fail
              exact ⟨⟨i + 1, by omega, by go_num, ⟨_, _, A1, fun j hj => by
                unfold updG
                by_cases e : j = i
                · rw [if_pos e]
                · rw [if_neg e]; exact HK.out j (by omega)⟩, b4⟩, by simp [intOf]; omega⟩
        · obtain rfl : i = d := by omega
          have HS := refSpare_join w1.heap.size u12 i s n G2 K2 (Seg.layD r L n) wo hA HK.out HBD.out h1 h2 h3 hn1 hn2 hbo.size
          have HSH : Hid (Gf.mm i (Gf.rowF i) (Seg.layD r L n) = Seg.shard r L i) := by
            show _ = Seg.shard r L i
            unfold Seg.shard
            rw [hnn]
          clear hA
          go_wp2_with fail
          refine HS.mono ?_
          rintro e w2 ⟨vm, v9, w5, rfl, r9, L9, b5⟩
          rw [HSH.out] at L9
          have b5 := hbo.trans b5
          obtain ⟨A9, C9, rfl⟩ := L9.shape
          have bw5 := bt b1 b5
          have hds : i + s ≤ 12 := by omega
          clear HS
          go_wp2_with (at_builtin; refine Lib.wpList_append_run _ rfl (.tmp 90) (.tmp 91) 86 86 rfl _ _ rfl rfl _ _ r9 ?_)
          clear r9
          have HL9 : Hid (∀ w', Below w5.heap.size w5 w' → ∀ j, j < i + s → ∃ b o R K, A9 = some ⟨b, o, none⟩ ∧ w'.cell? ⟨b, o + j, none⟩ = some (.slice R n K) ∧ Byts w' (.slice R n K) n (Seg.shard r L i j)) := fun w' hb j hj => (L9.below hb).at hj
          have HWB : Hid (∀ j, j < i + s → Crc.wrongB seg j L n = 0) := fun j hj => Crc.wrongB_ok (by omega) (by omega)
          have HBF : Hid (∀ j, j < i + s → encI (seg : Int) (j : Int) (L : Int) n (Seg.shard r L i j) = Seg.blk r L seg i j) := fun j hj => by
            unfold encI
            rw [Seg.blk_in (by omega), hnn]
            rfl
          clear L9
          go_loopw [18, 94] (fun y x wr => ∃ j : Nat, j ≤ i + s ∧ x = .int .i64 j ∧ (∃ G K, Acc wr w5.heap.size y j (n + 11) G K (Seg.blk r L seg i) ∧ Hid (∀ t, t < j → n + 11 ≤ K t ∧ K t ≤ maxLen)) ∧ Below w5.heap.size w5 wr) (fun _ x _ => i + s - (intOf x).toNat)
          case atStart => exact ⟨0, Nat.zero_le _, rfl, ⟨fun _ => 0, fun _ => 0, Acc.start w5 _ (n + 11) _ _ _, fun j hj => absurd hj (Nat.not_lt_zero j)⟩, Below.refl _ _⟩
          case round =>
            obtain ⟨j, hj, rfl, ⟨G3, K3, hA3, HK3⟩, hb3⟩ := hrel
            by_cases hjl : j < i + s
            · have hjl' : (j : Int) < (i : Int) + (s : Int) := by omega
              have hjl2 : (j : Int) < ((i + s : Nat) : Int) := by omega
              obtain ⟨b9, o9, R9, K9, rfl, t9, y9⟩ := HL9.out wr hb3 j hjl
              have HBB := refBytes_any (.agg #[.int .i64 (seg : Int), .int .i64 (j : Int), .int .i64 (L : Int), .slice R9 n K9]) seg j L n (Seg.shard r L i j) wr ⟨_, rfl, y9⟩
              rw [HWB.out j hjl, HBF.out j hjl] at HBB
              clear y9
              go_wp2_with fail
              refine HBB.mono ?_
              rintro e w6 ⟨v6, rfl, O6, b6⟩
              have hM6 : Made w6 wr.heap.size v6 (n + 11) (Seg.blk r L seg i j) := by
                rcases O6 with ⟨_, q⟩ | ⟨q, _⟩
                · exact q
                · exact absurd rfl q
              obtain ⟨g6, c6, rfl, hg6, hc6, hm6, R6⟩ := hM6
              have hbX := (Below.refl w6.heap.size w6).alloc (Nat.le_refl _) (.cells #[.slice (some ⟨g6, 0, none⟩) (n + 11) c6] 59)
              have AX := (hA3.below b6).below hbX
              have rX := R6.alloc (.cells #[.slice (some ⟨g6, 0, none⟩) (n + 11) c6] 59)
              have bX := bt (bt hb3 b6) hbX
              have HG6 : Hid (w5.heap.size ≤ g6) := Nat.le_trans hb3.size hg6
              clear HBB O6 hA3 R6
              go_wp2_with (at_builtin; refine wpList_append_own _ rfl (.tmp 109) (.tmp 111) 86 rfl w5.heap.size 59 i0 (.slice none 0 0) 1 24 Tryz.underlying86 hi0 hz0 hz1 hz2 rfl (by decide) _ _ _ rfl AX.own ⟨w6.heap.size, 0, none⟩ 1 1 [.slice (some ⟨g6, 0, none⟩) (n + 11) c6] rfl rfl cell_one (by intro u hu; simp at hu; subst hu; rfl) (by unfold maxLen; omega) (by omega) bX.size ?_; intro v7 w7 hown1 hgrow1 _)
              have A1 := AX.step ⟨HG6.out, rX⟩ hown1 hgrow1
              have b7 : Below w5.heap.size w5 w7 := bX.grown hgrow1 bX.size (fun x hx => (AX.own.lt x hx).1)
              clear hown1 hgrow1 AX rX bX hbX
              exact ⟨⟨j + 1, by omega, by go_num, ⟨_, _, A1, fun t ht => by
                unfold updG
                by_cases e : t = j
                · rw [if_pos e]; exact ⟨hc6, hm6⟩
                · rw [if_neg e]; exact HK3.out t (by omega)⟩, b7⟩, by simp [intOf]; omega⟩
            · obtain rfl : j = i + s := by omega
              have HR : Hid (LayG wr w.heap.size u18 (i + s) (Seg.layN L i + 11) (Seg.blk r L seg i)) := by
                show LayG wr w.heap.size u18 (i + s) (Seg.layN L i + 11) (Seg.blk r L seg i)
                rw [hnn]
                exact ⟨w5.heap.size, _, _, bw5.size, hA3, Seg.blk_bd h1 h5 h4 h2, HK3.out⟩
              have bz := bt bw5 hb3
              clear hA3
              go_wp2_with fail
              go_ret2
              exact ⟨_, rfl, HR.out, bz⟩
section
variable {X : Sto.Six}
theorem layJ_any (hX : Sto.SixOk X) (v : Value) (r : List Nat) (seg : Nat) (c : Sto.Cfg) (w : World) (h : BytL w v r) :
    Calls Tryz.prog 62 #[v, .int .i64 (seg : Int), .int .i64 (c.d : Int), .int .i64 (c.s : Int)] w fun e w' => BlP e w' w.heap.size (X.lay r seg c) ∧ Below w.heap.size w w' := by
  by_cases hE : Seg.layE r.length seg c.d c.s = 0
  · obtain ⟨h1, h2, h3, h4, h5⟩ := Sto.layE_inv hE
    refine (layJ_ok v r.length (fun j => r.getD j 0) seg c.d c.s w h.byts h1 h2 h3 h4 h5).mono ?_
    rintro e w' ⟨v', rfl, hl, hb⟩
    have hx : X.lay r seg c = (0, (List.range (c.d + c.s)).map fun i => bl (Seg.blk (fun j => r.getD j 0) r.length seg c.d i) (Seg.layN r.length c.d + 11)) := by
      rw [hX.lay]
      unfold Sto.layX
      rw [if_pos hE]
    rw [hx]
    exact ⟨⟨v', rfl, Or.inl ⟨rfl, hl.lls.1.blL, fun S hS => (hl.lls.2 S hS).blL⟩⟩, hb⟩
  · refine (layR_any hX v r seg c w h).mono ?_
    rintro e w' ⟨⟨v', rfl, hO⟩, hb⟩
    refine ⟨⟨v', rfl, Or.inr ?_⟩, hb⟩
    rcases hO with ⟨q, _⟩ | q
    · rw [hX.lay] at q
      unfold Sto.layX at q
      rw [if_neg hE] at q
      exact absurd q hE
    · exact q
set_option maxHeartbeats 400000 in
set_option maxRecDepth 100000 in
theorem mendJ_any (hX : Sto.SixOk X) (v : Value) (bs : List (List Nat)) (seg : Nat) (c : Sto.Cfg) (w : World) (h : BlL w v bs) (hl : bs.length = c.d + c.s) (h8 : c.d ≤ 8) (h4 : c.s ≤ 4) :
    Calls Tryz.prog 39 #[v, .int .i64 (seg : Int), .int .i64 (c.d : Int)] w fun e w' => BlP e w' w.heap.size (X.mend bs seg c) ∧ Below w.heap.size w w' := by
  have HR := readR_any hX v bs seg c w h
  obtain ⟨A, C, rfl⟩ := h.shape
  have HM := hX.mend bs seg c
  by_cases hE : (X.read bs seg c).1 = 0
  case neg =>
    rw [if_pos hE] at HM
    generalize (X.read bs seg c).1 = x at HR HM hE
    have HP : Hid (∀ w', BlP (.returned (.tuple #[.slice none 0 0, .int .i64 (x : Nat)])) w' w.heap.size (X.mend bs seg c)) := fun w' => by
      show BlP _ _ _ _
      rw [HM]
      exact ⟨_, rfl, Or.inr ⟨hE, rfl⟩⟩
    have hx' : ((x : Int) == 0) = false := by rw [beq_eq_false_iff_ne]; omega
    have hxn : ((x : Int) != 0) = true := by rw [bne, hx']; rfl
    clear hE h HM hl h8 h4
    go_enter Tryz.func39, Tryz.ntmps39
    go_wp2_with fail
    refine HR.mono ?_
    rintro e w1 ⟨v1, rfl, _, b1⟩
    clear HR
    go_wp2_with fail
    go_ret2
    exact ⟨HP.out _, b1⟩
  case pos =>
    rw [if_neg (fun q => q hE)] at HM
    rw [hE] at HR
    have HLX : Hid (∀ v1 w1, BytL w1 v1 (X.read bs seg c).2 → Calls Tryz.prog 62 #[v1, .int .i64 (seg : Int), .int .i64 (c.d : Int), .int .i64 (((bs.length : Nat) : Int) - (c.d : Int))] w1 fun e w' => BlP e w' w1.heap.size (X.mend bs seg c) ∧ Below w1.heap.size w1 w') := fun v1 w1 q => by
      have := layJ_any hX v1 (X.read bs seg c).2 seg c w1 q
      rw [hX.lay, ← HM] at this
      rw [show ((bs.length : Nat) : Int) - (c.d : Int) = (c.s : Int) by omega]
      exact this
    obtain ⟨N, hN⟩ : ∃ N, N = bs.length := ⟨_, rfl⟩
    rw [← hN] at HR HLX
    rw [← hN]
    have hN1 : N ≤ 12 := by omega
    have hN2 : c.d ≤ N := by omega
    clear HM hE h hl hN
    go_enter Tryz.func39, Tryz.ntmps39
    go_wp2_with fail
    refine HR.mono ?_
    rintro e w1 ⟨v1, rfl, hy, b1⟩
    have HL := HLX.out v1 w1 hy
    obtain ⟨A1, C1, rfl⟩ := hy.byts.shape
    clear HR HLX hy
    go_wp2_with fail
    refine HL.mono ?_
    rintro e w2 ⟨⟨v2, rfl, hO⟩, b2⟩
    have HP : Hid (BlP (.returned (.tuple #[v2, .int .i64 ((X.mend bs seg c).1 : Nat)])) w2 w.heap.size (X.mend bs seg c)) := ⟨v2, rfl, hO.imp (fun z => ⟨z.1, z.2.lower b1.size⟩) id⟩
    have b2 := bt b1 b2
    clear HL hO
    go_wp2_with fail
    go_ret2
    exact ⟨HP.out, b2⟩
end

end Go.Proofs.YtmcaejooaaahdaaGreat

namespace Go.Proofs.YtmcaejooaaahdaaGreat
open Go.RowKit

/-- Bytes that are appended to since world W; blocks below N, and all that are none of bytes, are as they were. -/
structure RA (W w : World) (N : Nat) (v : Value) (bs : List Nat) : Prop where
  off : OffB N W w
  buf : BufL w N v bs
  hN : N ≤ w.heap.size
theorem RA.below {W w w' : World} {N : Nat} {v : Value} {bs : List Nat} (h : RA W w N v bs) (hb : Below w.heap.size w w') : RA W w' N v bs := ⟨h.off.trans (OffB.of_below hb), h.buf.below hb, Nat.le_trans h.hN hb.size⟩
theorem RA.alloc {W w : World} {N : Nat} {v : Value} {bs : List Nat} (h : RA W w N v bs) (o : Obj) : RA W (w.alloc o) N v bs := h.below ((Below.refl _ _).alloc (Nat.le_refl _) o)
theorem RA.drew {W w : World} {N : Nat} {v : Value} {bs : List Nat} (h : RA W w N v bs) : RA W w.drew N v bs := h.below ((Below.refl _ _).drew)
/-- A short row of bytes beside what is appended to. -/
structure Tmp (w : World) (v : Value) (g : Nat) (xs : List Nat) : Prop where
  row : w.rowIs g 5 xs.length (fun j => .int .u8 ((xs.getD j 0 : Nat) : Int))
  ne : v.ownBlock ≠ some g
  le : xs.length ≤ 3
theorem Tmp.below {w w' : World} {v : Value} {g : Nat} {xs : List Nat} (h : Tmp w v g xs) (hb : Below w.heap.size w w') : Tmp w' v g xs := ⟨h.row.of_block (hb.block g h.row.lt), h.ne, h.le⟩
theorem Tmp.alloc {w : World} {v : Value} {g : Nat} {xs : List Nat} (h : Tmp w v g xs) (o : Obj) : Tmp (w.alloc o) v g xs := h.below ((Below.refl _ _).alloc (Nat.le_refl _) o)
theorem Tmp.drew {w : World} {v : Value} {g : Nat} {xs : List Nat} (h : Tmp w v g xs) : Tmp w.drew v g xs := h.below ((Below.refl _ _).drew)
theorem Tmp.cells {w : World} {v : Value} {g : Nat} {xs : List Nat} (h : Tmp w v g xs) : ∀ j u, (clB xs)[j]? = some u → w.cell? ((⟨g, 0, none⟩ : Addr).add j) = some u := fun j u hj => by
  have hj' : j < xs.length := by
    have := (List.getElem?_eq_some_iff.1 hj).1
    simpa [clB] using this
  rw [WideShapes.add_plain, Nat.zero_add, h.row.cell hj']
  simp [clB, hj'] at hj
  rw [← hj]
  simp [List.getD, hj']
theorem rowB_new (w : World) (xs : List Nat) : (w.alloc (.cells (clB xs).toArray 5)).rowIs w.heap.size 5 xs.length (fun j => .int .u8 ((xs.getD j 0 : Nat) : Int)) := by
  have hs : (clB xs).toArray.size = xs.length := by simp [clB]
  have := World.rowIs_alloc w (clB xs).toArray 5 (fun j => .int .u8 ((xs.getD j 0 : Nat) : Int)) (fun i hi => by
    have hi' : i < xs.length := by simpa [clB] using hi
    simp [clB, hi', List.getD])
  rw [hs] at this
  exact this
theorem tmp_new {W w : World} {N : Nat} {v : Value} {bs : List Nat} (h : RA W w N v bs) (xs : List Nat) (hl : xs.length ≤ 3) : Tmp (w.alloc (.cells (clB xs).toArray 5)) v w.heap.size xs := by
  refine ⟨rowB_new w xs, fun e => ?_, hl⟩
  have := (h.buf.lt _ e).2
  omega
theorem clB_one (xs : List Nat) : ∀ u ∈ clB xs, u.oneCell' = true := fun u hu => by
  obtain ⟨_, _, rfl⟩ := List.mem_map.1 hu
  rfl
theorem tmp_app {w w' : World} {v v' : Value} {g : Nat} {xs : List Nat} (hg : w.grownBy w' v.ownBlock) (hl : v'.ownBlock = v.ownBlock ∨ v'.ownBlock = some w.heap.size) (ht : Tmp w v g xs) : Tmp w' v' g xs := by
  refine ⟨ht.row.of_block (hg.block g ht.row.lt (fun e => ht.ne e.symm)), fun e => ?_, ht.le⟩
  rcases hl with hl | hl
  · rw [hl] at e
    exact ht.ne e
  · rw [hl] at e
    have := ht.row.lt
    simp at e
    omega
theorem tmp_app_str {w w' : World} {N n : Nat} {v v' : Value} {ys : List Value} {g : Nat} {xs : List Nat} (h : w'.ownsRow N 5 1 v' n ys) (hn : 4 ≤ n) (hg : w.grownBy w' v.ownBlock) (ht : Tmp w v g xs) : Tmp w' v' g xs := by
  have hr := ht.row.of_block (hg.block g ht.row.lt (fun e => ht.ne e.symm))
  refine ⟨hr, fun e => ?_, ht.le⟩
  have h3 := ht.le
  obtain ⟨c, e1, e2, _⟩ := hr
  rcases h.2 with ⟨rfl, _⟩ | ⟨g', cap, cur, rfl, _, q1, q2, _, q4, _⟩
  · simp [Value.ownBlock] at e
  · simp [Value.ownBlock] at e
    subst e
    rw [q1] at e1
    cases e1
    omega
/-- An append of a row beside it. -/
theorem app_step {ops : Array Oper} {o : Oper} {a : Act} {w : World} {K : Act → World → Prop} {Q : Exit → Act → World → Prop} {E : Prop}
    (hg : o.guard = none) (s x : Operand) (hop : o.op = Op.call { callee := Callee.builtin Builtin.append, args := #[s, x], argTypes := #[59, 59] })
    {W : World} {N : Nat} {v : Value} {bs : List Nat} {g c : Nat} {xs : List Nat} (hs : a.eval s = v) (hx : a.eval x = .slice (some ⟨g, 0, none⟩) xs.length c) (hA : RA W w N v bs) (hT : Tmp w v g xs) (hb : bs.length + xs.length ≤ 2000000)
    (hK : ∀ v' w', RA W w' N v' (bs ++ xs) → (∀ g' xs', Tmp w v g' xs' → Tmp w' v' g' xs') → K (a.put o.dst v') w') :
    if Region.wanted o (yielded ops a.tmps) = true then Oper.wp Tryz.prog o a w K Q else E := by
  have hw : Region.wanted o (yielded ops a.tmps) = true := by simp [Region.wanted, hg]
  rw [if_pos hw]
  obtain ⟨i1, hi1, hh1⟩ := Option.map_eq_some_iff.1 Tryz.infoByte
  simp only [Prod.mk.injEq] at hh1
  obtain ⟨hy0, hy1, hy2⟩ := hh1
  obtain ⟨v', w', hr, h2, h3, _, h5⟩ := run_append_own_at (P := Tryz.prog) w N 59 o.type 5 i1 (.int .u8 0) 1 1 Tryz.underlying59 hi1 hy0 hy1 hy2 rfl (by decide) v bs.length (clB bs) hA.buf ⟨g, 0, none⟩ xs.length c (clB xs) (by simp [clB]) hT.cells (clB_one xs) (by unfold maxLen; omega) (by omega) hA.hN
  unfold Oper.wp execOp
  simp only [hop, resolve, invoke, builtin, Sem.run_bind, Sem.run_pure, Result.andThen_ok, List.map_toArray, List.map_cons, List.map_nil, hs, hx, hr]
  exact hK v' w' ⟨hA.off.trans (OffB.grown hA.buf h3), BufL.more h2 rfl rfl, Nat.le_trans hA.hN h3.size⟩ (fun g' xs' ht => tmp_app h3 h5 ht)
/-- An append of a string. -/
theorem app_step_str {ops : Array Oper} {o : Oper} {a : Act} {w : World} {K : Act → World → Prop} {Q : Exit → Act → World → Prop} {E : Prop}
    (hg : o.guard = none) (s x : Operand) (hop : o.op = Op.call { callee := Callee.builtin Builtin.append, args := #[s, x], argTypes := #[59, 9] })
    {W : World} {N : Nat} {v : Value} {bs : List Nat} {st : ByteArray} (hs : a.eval s = v) (hx : a.eval x = .string st) (hA : RA W w N v bs) (hb : bs.length + st.size ≤ 2000000) (h4 : 4 ≤ bs.length)
    (hK : ∀ v' w', RA W w' N v' (bs ++ nb st) → (∀ g' xs', Tmp w v g' xs' → Tmp w' v' g' xs') → K (a.put o.dst v') w') :
    if Region.wanted o (yielded ops a.tmps) = true then Oper.wp Tryz.prog o a w K Q else E := by
  have hw : Region.wanted o (yielded ops a.tmps) = true := by simp [Region.wanted, hg]
  rw [if_pos hw]
  obtain ⟨i1, hi1, hh1⟩ := Option.map_eq_some_iff.1 Tryz.infoByte
  simp only [Prod.mk.injEq] at hh1
  obtain ⟨hy0, hy1, hy2⟩ := hh1
  obtain ⟨v', w', hr, h2, h3, _⟩ := Lib.run_append_own_string (P := Tryz.prog) w N 59 9 o.type 5 i1 Tryz.underlying59 Tryz.underlying9 hi1 hy0 hy1 hy2 v bs.length (clB bs) hA.buf st (by unfold maxLen; omega) (by omega) hA.hN
  unfold Oper.wp execOp
  simp only [hop, resolve, invoke, builtin, Sem.run_bind, Sem.run_pure, Result.andThen_ok, List.map_toArray, List.map_cons, List.map_nil, hs, hx, hr]
  exact hK v' w' ⟨hA.off.trans (OffB.grown hA.buf h3), BufL.more h2 (strCells_nb st) (nb_len st), Nat.le_trans hA.hN h3.size⟩ (fun g' xs' ht => tmp_app_str h2 (by omega) h3 ht)

/-- What the document's own Three does: a row beside it. -/
theorem refThree_tmp (n : Nat) (w : World) (hn : n < 16777216) :
    Calls Tryz.prog 93 #[.int .i64 (n : Int)] w fun e w' => ∃ g, e = .returned (.slice (some ⟨g, 0, none⟩) 3 3) ∧ Below w.heap.size w w' ∧ ∀ {W N v bs}, RA W w N v bs → Tmp w' v g (Evt.three n) := by
  refine (refThree_any n w hn).mono ?_
  rintro e w' ⟨rfl, rfl⟩
  refine ⟨w.heap.size, rfl, (Below.refl _ _).alloc (Nat.le_refl _) _, fun h => ?_⟩
  exact tmp_new h (Evt.three n) (by simp [Evt.three])

end Go.Proofs.YtmcaejooaaahdaaGreat
