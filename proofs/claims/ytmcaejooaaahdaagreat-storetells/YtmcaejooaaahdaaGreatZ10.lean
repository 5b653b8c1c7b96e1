/-
  Texts of the proof, joined: CMend, Str, BSum.
-/
import Derived.Test.YtmcaejooaaahdaaGreatZ09
import Derived.Test.YtmcaejooaaahdaaGreatZ04
import Derived.Lib.ConvBytes
import Derived.Test.YtmcaejooaaahdaaGreatZ08
namespace Go.Proofs.YtmcaejooaaahdaaGreat
open Go.RowKit

/-- The number of the shard that is there, p others ahead of it. -/
def thr (L : Nat → Nat) (N p : Nat) : Nat := (there L N).getD p 0
theorem thr_mem {L : Nat → Nat} {N p : Nat} (h : p < (there L N).length) : thr L N p < N ∧ 0 < L (thr L N p) := by
  refine there_mem.1 ?_
  unfold thr
  simp [List.getD, h]
theorem thr_inj {L : Nat → Nat} {N p q : Nat} (hp : p < (there L N).length) (hq : q < (there L N).length) (hne : p ≠ q) : thr L N p ≠ thr L N q := fun e => by
  unfold thr at e
  simp only [List.getD, List.getElem?_eq_getElem hp, List.getElem?_eq_getElem hq, Option.getD_some] at e
  exact hne ((List.getElem_inj (there_nodup L N)).1 e)

/-- Whether the shards that are there have one length, and none is too long. -/
abbrev FormOk (L : Nat → Nat) (N : Nat) : Prop := L (thr L N 0) ≤ 400 ∧ ∀ p, p < (there L N).length → L (thr L N p) = L (thr L N 0)
/-- What code.Mend tells. -/
def mendE (d : Int) (N : Nat) (L : Nat → Nat) : Nat := if wrongC d ((N : Int) - d) ≠ 0 then 5 else if (there L N).length < d.toNat then 10 else if FormOk L N then 0 else 2

theorem Arg.take {w : World} {A : Option Addr} {m n cap cap' : Nat} {L : Nat → Nat} {f : Nat → Nat → Nat} (h : Arg w (.slice A m cap) m L f) (hn : n ≤ m) : Arg w (.slice A n cap') n L f := by
  obtain ⟨A', c, R, C, hv, hr⟩ := h.lies
  cases hv
  exact ⟨h.bd, A, cap', R, C, rfl, fun r hr' => hr r (by omega)⟩

set_option maxHeartbeats 400000 in
theorem mend_bad (v : Value) (N : Nat) (A : Option Addr) (cap : Nat) (hv : v = .slice A N cap) (d : Int) (w : World) (hN : N ≤ maxLen) (h : wrongC d ((N : Int) - d) ≠ 0) :
    Calls Tryz.prog 117 #[v, .int .i64 d] w fun e w' => e = .returned (.tuple #[.slice none 0 0, .int .i64 5]) ∧ Below w.heap.size w w' := by
  subst hv
  unfold maxLen at hN
  have H : Hid (∀ w, Calls Tryz.prog 135 #[.int .i64 d, .int .i64 (wrap64 ((N : Int) - d))] w fun e w' => e = .returned (.tuple #[.slice none 0 0, .int .i64 5]) ∧ Below w.heap.size w w') := fun w => by
    refine codeRows_bad d _ w ?_
    unfold wrongC at h
    split at h
    · rename_i hb
      unfold wrap64
      omega
    · exact absurd rfl h
  clear h hN
  go_enter Tryz.func117, Tryz.ntmps117
  go_wp2_with fail
  refine (H.out _).mono ?_
  rintro e w1 ⟨rfl, b1⟩
  go_wp2_with fail
  go_ret2
  exact ⟨rfl, b1⟩

set_option maxHeartbeats 1000000 in
theorem mend_lost (A : Option Addr) (cap n s : Nat) (L : Nat → Nat) (f : Nat → Nat → Nat) (w : World) (h : Arg w (.slice A (n + s) cap) (n + s) L f) (h1 : 1 ≤ n) (h2 : n ≤ 8) (h3 : s ≤ 4) (hl : (there L (n + s)).length < n) :
    Calls Tryz.prog 117 #[.slice A (n + s) cap, .int .i64 (n : Int)] w fun e w' => e = .returned (.tuple #[.slice none 0 0, .int .i64 10]) ∧ Below w.heap.size w w' := by
  have HR := fun w => codeRows_any n s w h1 h2 h3
  have hsub : (n : Int) + (s : Int) - (n : Int) = (s : Int) := by omega
  have hl' : ((there L (n + s)).length : Int) < (n : Int) := by omega
  go_enter Tryz.func117, Tryz.ntmps117
  go_wp2_with fail
  refine (HR _).mono ?_
  rintro e w1 ⟨g, cp, rfl, _, ⟨G, K, hm⟩, b1⟩
  have HT := thoseThere_any A cap (n + s) n L f g cp G (fun _ => 0) K (Gf.rowF n) w1 (h.below b1) (Gf.rowF_bd n) hm (by omega) (by omega)
  clear HR h
  go_wp2_with fail
  refine HT.mono ?_
  rintro e w2 ⟨v4, v5, rfl, a4, a5, c4, c5, b2⟩
  obtain ⟨A4, p4, R4, C4, rfl, _⟩ := a4.lies
  obtain ⟨A5, p5, R5, C5, rfl, _⟩ := a5.lies
  clear HT a4 a5
  go_wp2_with fail
  go_ret2
  exact ⟨rfl, bt b1 b2⟩

set_option maxHeartbeats 1000000 in
theorem mend_form (A : Option Addr) (cap n s : Nat) (L : Nat → Nat) (f : Nat → Nat → Nat) (w : World) (h : Arg w (.slice A (n + s) cap) (n + s) L f) (h1 : 1 ≤ n) (h2 : n ≤ 8) (h3 : s ≤ 4) (hl : n ≤ (there L (n + s)).length) (hf : ¬ FormOk L (n + s)) :
    Calls Tryz.prog 117 #[.slice A (n + s) cap, .int .i64 (n : Int)] w fun e w' => e = .returned (.tuple #[.slice none 0 0, .int .i64 2]) ∧ Below w.heap.size w w' := by
  have HR := fun w => codeRows_any n s w h1 h2 h3
  have hsub : (n : Int) + (s : Int) - (n : Int) = (s : Int) := by omega
  have hl' : ¬ ((there L (n + s)).length : Int) < (n : Int) := by omega
  have hlen := there_len L (n + s)
  have HF : Hid (¬ FormOk L (n + s)) := hf
  clear hf
  go_enter Tryz.func117, Tryz.ntmps117
  go_wp2_with fail
  refine (HR _).mono ?_
  rintro e w1 ⟨g, cp, rfl, _, ⟨G, K, hm⟩, b1⟩
  have HT := thoseThere_any A cap (n + s) n L f g cp G (fun _ => 0) K (Gf.rowF n) w1 (h.below b1) (Gf.rowF_bd n) hm (by omega) (by omega)
  clear HR h
  go_wp2_with fail
  refine HT.mono ?_
  rintro e w2 ⟨v4, v5, rfl, a4, a5, c4, c5, b2⟩
  have hWF := wellFormed_any v4 _ _ _ w2 a4 (by omega) (by omega)
  obtain ⟨A4, p4, R4, C4, rfl, _⟩ := a4.lies
  obtain ⟨A5, p5, R5, C5, rfl, _⟩ := a5.lies
  have b2 := bt b1 b2
  clear HT a4 a5
  go_wp2_with fail
  refine hWF.mono ?_
  rintro e w3 ⟨y, rfl, hy, b3⟩
  cases y with
  | true => exact absurd (hy.1 rfl) HF.out
  | false =>
    clear hy hWF
    go_wp2_with fail
    go_ret2
    exact ⟨rfl, bt b2 b3⟩

/-- All shards, of data. -/
theorem allF_data {n : Nat} {D : Nat → Nat → Nat} (hD : Gf.Bd2 D) {i : Nat} (hi : i < n) (k : Nat) : Gf.mm n (Gf.rowF n) D i k = D i k := by
  rw [show Gf.mm n (Gf.rowF n) D i k = Gf.mm n Gf.one D i k from Gf.mm_congr (fun l _ => Gf.rowF_one hi l) (fun _ _ => rfl), Gf.one_mm hD k hi]

set_option maxHeartbeats 2000000 in
theorem mend_ok (A : Option Addr) (cap n s : Nat) (L : Nat → Nat) (f : Nat → Nat → Nat) (w : World) (h : Arg w (.slice A (n + s) cap) (n + s) L f) (h1 : 1 ≤ n) (h2 : n ≤ 8) (h3 : s ≤ 4) (hl : n ≤ (there L (n + s)).length) (hf : FormOk L (n + s)) :
    Calls Tryz.prog 117 #[.slice A (n + s) cap, .int .i64 (n : Int)] w fun e w' => ∃ v r, e = .returned (.tuple #[v, .int .i64 0]) ∧ Cap v ∧ Gf.Bd2 r ∧ Gf.Und n (fun p => Gf.rowF n (thr L (n + s) p)) r ∧
      Mx w' v (n + s) (L (thr L (n + s) 0)) (Gf.mm n (Gf.rowF n) (Gf.mm n r (fun p => f (thr L (n + s) p)))) ∧ Below w.heap.size w w' := by
  have HR := fun w => codeRows_any n s w h1 h2 h3
  have hsub : (n : Int) + (s : Int) - (n : Int) = (s : Int) := by omega
  have hl' : ¬ ((there L (n + s)).length : Int) < (n : Int) := by omega
  have hlen := there_len L (n + s)
  have HF : Hid (FormOk L (n + s)) := hf
  clear hf
  have hNS : Hid (∀ w v, Arg w v n (fun _ => n) (fun p => Gf.rowF n (thr L (n + s) p)) → Calls Tryz.prog 143 #[v] w fun e w' => ∃ v' r, e = .returned (.tuple #[v', .int .i64 0]) ∧ Mx w' v' n n r ∧ Gf.Und n (fun p => Gf.rowF n (thr L (n + s) p)) r ∧ Below w.heap.size w w') := fun w v ha => by
    have mx := ha.mx (wrongE_ok h1 (by omega) h1 (by omega) (fun _ _ => rfl))
    refine (undo_any v n _ w mx).mono fun e w' ⟨hh, hb⟩ => ?_
    rcases hh with ⟨v', r, q1, q2, q3⟩ | ⟨_, hs⟩
    · exact ⟨v', r, q1, q2, q3, hb⟩
    · exact (Gf.rows_not_sing (by omega) (fun p hp => by have := (thr_mem (show p < (there L (n + s)).length by omega)).1; omega) (fun p q hp hq hne => thr_inj (by omega) (by omega) hne) hs).elim
  go_enter Tryz.func117, Tryz.ntmps117
  go_wp2_with fail
  refine (HR _).mono ?_
  rintro e w1 ⟨g, cp, rfl, _, ⟨G, K, hm⟩, b1⟩
  have HT := thoseThere_any A cap (n + s) n L f g cp G (fun _ => 0) K (Gf.rowF n) w1 (h.below b1) (Gf.rowF_bd n) hm (by omega) (by omega)
  clear HR h hm
  go_wp2_with fail
  refine HT.mono ?_
  rintro e w2 ⟨v4, v5, rfl, a4, a5, c4, c5, b2⟩
  have hWF := wellFormed_any v4 _ _ _ w2 a4 (by omega) (by omega)
  have b2 := bt b1 b2
  obtain ⟨A4, p4, R4, C4, hv4, hr4⟩ := a4.lies
  subst hv4
  obtain ⟨A5, p5, R5, C5, hv5, hr5⟩ := a5.lies
  subst hv5
  obtain ⟨b4, o4, rfl, _, _⟩ := hr4 0 (by omega)
  obtain ⟨b5, o5, rfl, _, _⟩ := hr5 0 (by omega)
  obtain ⟨_, _, _, hc4, k4⟩ := c4
  cases hc4
  obtain ⟨_, _, _, hc5, k5⟩ := c5
  cases hc5
  have t4 := a4.take (n := n) (cap' := p4) hl
  have t5 := a5.take (n := n) (cap' := p5) hl
  have f4 : (n : Int) ≤ (p4 : Int) := by omega
  have f5 : (n : Int) ≤ (p5 : Int) := by omega
  clear HT a4 a5 hr4 hr5 b1
  go_wp2_with fail
  refine hWF.mono ?_
  rintro e w3 ⟨y, rfl, hy, b3⟩
  cases y with
  | false => exact absurd (hy.2 HF.out) (by decide)
  | true =>
    have t4 := t4.below b3
    have t5 := t5.below b3
    have b3 := bt b2 b3
    clear hy hWF b2
    go_wp2_with fail
    refine (hNS.out _ _ t5).mono ?_
    rintro e w4 ⟨vU, r, rfl, mU, hU, b4'⟩
    have t4 := t4.below b4'
    have b4' := bt b3 b4'
    have hF := HF.out
    have mT : Mx w4 (.slice (some ⟨b4, o4, none⟩) n p4) n (L (thr L (n + s) 0)) (fun p => f (thr L (n + s) p)) := t4.mx (wrongE_ok h1 (by omega) (thr_mem (show 0 < (there L (n + s)).length by omega)).2 hF.1 (fun p hp => hF.2 p (by omega)))
    have rU := mU.bd
    have HU : Hid (Gf.Und n (fun p => Gf.rowF n (thr L (n + s) p)) r) := hU
    have hMul := mulM_own vU _ n n n _ r _ w4 mU mT rfl
    have bdA : Gf.Bd2 (Gf.mm n r (fun p => f (thr L (n + s) p))) := Gf.mm_bd rU n _
    have dim := mT.dim
    clear t4 t5 b3 hU mU mT hF
    generalize hall : Gf.mm n r (fun p => f (thr L (n + s) p)) = all at hMul bdA
    generalize hcc : L (thr L (n + s) 0) = c at hMul dim
    have HALL : Hid (Gf.mm n r (fun p => f (thr L (n + s) p)) = all) := hall
    have HCC : Hid (L (thr L (n + s) 0) = c) := hcc
    obtain ⟨_, d2, d3, d4⟩ := dim
    clear hall hcc
    go_wp2_with fail
    refine hMul.mono ?_
    rintro e w5 ⟨bA, G5, rfl, hoA, b5'⟩
    have b5' := bt b4' b5'
    have mA := hoA.mx bdA ⟨h1, d2, d3, d4⟩
    clear hMul b4'
    go_wp2_with fail
    by_cases hs : s = 0
    · refine (spare_none' _ n s (fun _ => c) all w5 mA.arg h1 h2 mA.ok hs).mono ?_
      rintro e w6 ⟨rfl, b6⟩
      have hoA := hoA.below b6
      have b6 := bt b5' b6
      have HRES : Hid (Mx w6 (.slice (some ⟨bA, 0, none⟩) n n) (n + s) c (Gf.mm n (Gf.rowF n) all)) := ⟨Gf.mm_bd (Gf.rowF_bd n) n all, ⟨by omega, by omega, d3, d4⟩, bA, 0, n, G5, fun _ => 0, fun _ => c, by rw [hs]; rfl, fun i hi => hoA.mat.top i (by omega), fun i hi k hk => by
        rw [allF_data bdA (show i < n by omega)]
        exact hoA.mat.row i (by omega) k hk⟩
      have hrun := fun W ty => app_nil W 169 86 Tryz.underlying169 Tryz.underlying86 bA 0 n n (Nat.le_refl _) ty
      clear hoA mA hs
      go_wp2_with (at_builtin; refine Lib.wpList_append_run _ rfl (.tmp 70) (.tmp 71) 169 86 rfl _ _ rfl rfl _ _ (hrun _ _) ?_)
      go_wp2_with fail
      go_ret2
      exact ⟨_, r, rfl, ⟨_, _, _, rfl, Nat.le_refl _⟩, rU, HU.out, by rw [HALL.out, HCC.out]; exact HRES.out, b6⟩
    · refine (spare_own _ n s c all w5 mA h2 (by omega) h3).mono ?_
      rintro e w6 ⟨bS, G6, rfl, hoS, b6⟩
      have hoA := hoA.below b6
      have b6 := bt b5' b6
      obtain ⟨C, q, hq, hC1, hC2, hrun⟩ := app_two w6 169 86 Tryz.underlying169 Tryz.underlying86 bA 0 n n (fun i => .slice (some ⟨G5 i, 0, none⟩) c c) bS 0 s s (fun i => .slice (some ⟨G6 i, 0, none⟩) c c)
        (fun i hi => hoA.mat.top i hi) (fun i hi => hoS.mat.top i hi) (fun _ _ => rfl) (by omega) (by omega)
      have b7 : Below w6.heap.size w6 (w6.drew.alloc (.cells C 59)) := (Below.refl _ _).drew.alloc (Nat.le_refl _) _
      have oA7 := hoA.below b7
      have oS7 := hoS.below b7
      have hnew := World.rowIs_alloc w6.drew C 59 (fun i => C.getD i (.slice none 0 0)) (fun i hi => by simp [hi])
      have HRES : Hid (Mx (w6.drew.alloc (.cells C 59)) (.slice (some ⟨w6.heap.size, 0, none⟩) (n + s) q) (n + s) c (Gf.mm n (Gf.rowF n) all)) := by
        refine ⟨Gf.mm_bd (Gf.rowF_bd n) n all, ⟨by omega, by omega, d3, d4⟩, w6.heap.size, 0, q, fun i => if i < n then G5 i else G6 (i - n), fun _ => 0, fun _ => c, rfl, fun i hi => ?_, fun i hi k hk => ?_⟩
        · by_cases hin : i < n
          · have h8 := hC1 i hin
            obtain ⟨h9, h10⟩ := Array.getElem?_eq_some_iff.1 h8
            rw [Nat.zero_add, if_pos hin]
            refine (hnew.cell h9).trans ?_
            simp [h9, h10]
          · obtain ⟨j, rfl⟩ : ∃ j, i = n + j := ⟨i - n, by omega⟩
            have h8 := hC2 j (by omega)
            obtain ⟨h9, h10⟩ := Array.getElem?_eq_some_iff.1 h8
            rw [Nat.zero_add, if_neg hin, Nat.add_sub_cancel_left]
            refine (hnew.cell h9).trans ?_
            simp [h9, h10]
        · by_cases hin : i < n
          · rw [if_pos hin, allF_data bdA hin]
            exact oA7.mat.row i hin k hk
          · obtain ⟨j, rfl⟩ : ∃ j, i = n + j := ⟨i - n, by omega⟩
            rw [if_neg hin, Nat.add_sub_cancel_left]
            exact oS7.mat.row j (by omega) k hk
      have b7 := bt b6 b7
      clear hoA mA hoS hC1 hC2 oA7 oS7 hnew
      go_wp2_with (at_builtin; refine Lib.wpList_append_run _ rfl (.tmp 70) (.tmp 71) 169 86 rfl _ _ rfl rfl _ _ (hrun _) ?_)
      go_wp2_with fail
      go_ret2
      exact ⟨_, r, rfl, ⟨_, _, _, rfl, hq⟩, rU, HU.out, by rw [HALL.out, HCC.out]; exact HRES.out, b7⟩

/-- What code.Mend tells, whatever it is handed. -/
theorem mendO (v : Value) (N : Nat) (L : Nat → Nat) (f : Nat → Nat → Nat) (d : Int) (w : World) (h : Arg w v N L f) (hN : N ≤ maxLen) :
    Calls Tryz.prog 117 #[v, .int .i64 d] w fun e w' => ∃ v' r, e = .returned (.tuple #[v', .int .i64 (mendE d N L : Nat)]) ∧ Cap v' ∧ (mendE d N L = 0 → Gf.Bd2 r ∧ Gf.Und d.toNat (fun p => Gf.rowF d.toNat (thr L N p)) r) ∧
      Out w' (mendE d N L) v' N (L (thr L N 0)) (Gf.mm d.toNat (Gf.rowF d.toNat) (Gf.mm d.toNat r (fun p => f (thr L N p)))) ∧ Below w.heap.size w w' := by
  obtain ⟨A, cap, R, C, hv, _⟩ := h.lies
  subst hv
  by_cases hw : wrongC d ((N : Int) - d) ≠ 0
  · rw [show mendE d N L = 5 from if_pos hw]
    exact (mend_bad _ N A cap rfl d w hN hw).mono fun e w' ⟨h1, h2⟩ => ⟨_, f, h1, ⟨_, _, _, rfl, Nat.le_refl _⟩, fun h => absurd h (by decide), Or.inr ⟨Or.inl (by decide), rfl⟩, h2⟩
  · have hw' : ¬ (d < 1 ∨ 8 < d ∨ (N : Int) - d < 0 ∨ 4 < (N : Int) - d) := fun h => hw (by rw [wrongC_bad h]; decide)
    obtain ⟨n, rfl⟩ := Int.eq_ofNat_of_zero_le (show 0 ≤ d by omega)
    obtain ⟨s, rfl⟩ : ∃ s, N = n + s := ⟨N - n, by omega⟩
    by_cases hl : (there L (n + s)).length < n
    · rw [show mendE n (n + s) L = 10 from (if_neg hw).trans (if_pos hl)]
      exact (mend_lost A cap n s L f w h (by omega) (by omega) (by omega) hl).mono fun e w' ⟨h1, h2⟩ => ⟨_, f, h1, ⟨_, _, _, rfl, Nat.le_refl _⟩, fun h => absurd h (by decide), Or.inr ⟨Or.inl (by decide), rfl⟩, h2⟩
    · by_cases hf : FormOk L (n + s)
      · rw [show mendE n (n + s) L = 0 from (if_neg hw).trans ((if_neg hl).trans (if_pos hf))]
        exact (mend_ok A cap n s L f w h (by omega) (by omega) (by omega) (by omega) hf).mono fun e w' ⟨v', r, h1, h2, h3, h4, h5, h6⟩ => ⟨v', r, h1, h2, fun _ => ⟨h3, h4⟩, Or.inl ⟨rfl, h5⟩, h6⟩
      · rw [show mendE n (n + s) L = 2 from (if_neg hw).trans ((if_neg hl).trans (if_neg hf))]
        exact (mend_form A cap n s L f w h (by omega) (by omega) (by omega) (by omega) hf).mono fun e w' ⟨h1, h2⟩ => ⟨_, f, h1, ⟨_, _, _, rfl, Nat.le_refl _⟩, fun h => absurd h (by decide), Or.inr ⟨Or.inl (by decide), rfl⟩, h2⟩

/-- Shards that are those of D are mended to be so. -/
theorem mended {n N : Nat} {L : Nat → Nat} {f D r : Nat → Nat → Nat} (hD : Gf.Bd2 D) (hr : Gf.Bd2 r) (hu : Gf.Und n (fun p => Gf.rowF n (thr L N p)) r) {k : Nat} (h : ∀ p, p < n → f (thr L N p) k = Gf.mm n (Gf.rowF n) D (thr L N p) k) (i : Nat) :
    Gf.mm n (Gf.rowF n) (Gf.mm n r (fun p => f (thr L N p))) i k = Gf.mm n (Gf.rowF n) D i k := by
  refine Gf.mm_congr (fun _ _ => rfl) (fun j hj => ?_)
  have e := Gf.und_data (m := fun p => Gf.rowF n (thr L N p)) (fun p => Gf.rowF_bd n _) hr hD hu j k hj
  refine Eq.trans (Gf.mm_congr (fun _ _ => rfl) (fun p hp => ?_)) e
  exact h p hp

end Go.Proofs.YtmcaejooaaahdaaGreat

namespace Go.Proofs.YtmcaejooaaahdaaGreat
open Go.RowKit

theorem Byts.shape {w : World} {v : Value} {n : Nat} {f : Nat → Nat} (h : Byts w v n f) : ∃ A C, v = .slice A n C := by
  obtain ⟨_, A, C, hv, _⟩ := h
  exact ⟨A, C, hv⟩

/-- Bytes as a string. -/
def strB (f : Nat → Nat) (n : Nat) : ByteArray := strOfNums ((List.range n).map fun k => (f k : Int))
theorem conv_zero (w : World) (A : Option Addr) (cap : Nat) : (convert 59 9 (.slice A 0 cap)).run Tryz.prog w = .ok (.string ByteArray.empty) w := by
  rw [run_convert_bytes_string w 59 9 5 _ 0 cap Tryz.underlying59 Tryz.underlying5 Tryz.underlying9]
  cases A with
  | none => simp [Conv.bytesToString]
  | some x => simp [Conv.bytesToString, loadCells]; rfl
theorem conv_any {w : World} {v : Value} {n : Nat} {f : Nat → Nat} (h : Byts w v n f) : (convert 59 9 v).run Tryz.prog w = .ok (.string (strB f n)) w := by
  by_cases hn : 1 ≤ n
  · obtain ⟨b, o, cap, rfl, _, _, hc⟩ := h.some hn
    exact run_convert_bytes_arg (P := Tryz.prog) w 59 5 Tryz.underlying59 Tryz.underlying5 b o n cap ((List.range n).map fun j => (f j : Int)) (by simp) (fun i hi => by rw [bytes_getD _ _ _ hi]; exact hc i hi) 9 Tryz.underlying9
  · obtain rfl : n = 0 := by omega
    obtain ⟨A, cap, rfl⟩ := h.zero
    exact conv_zero w A cap

theorem cells_new (w : World) (c : Array Value) (t : TypeId) : ∀ j u, c.toList[j]? = some u → (w.alloc (.cells c t)).cell? ((⟨w.heap.size, 0, none⟩ : Addr).add j) = some u := fun j u hj => by
  have hj' : c[j]? = some u := by simpa using hj
  obtain ⟨hlt, he⟩ := Array.getElem?_eq_some_iff.1 hj'
  have hr := World.rowIs_alloc w c t (fun i => c.getD i (.slice none 0 0)) (fun i hi => by simp [hi])
  rw [WideShapes.add_plain, Nat.zero_add, hr.cell hlt]
  simp [Array.getD, hlt, he]

/-- The string of bytes. -/
def strL (t : List Nat) : ByteArray := strB (fun k => t.getD k 0) t.length
theorem strL_list (t : List Nat) : (strL t).toList = t.map UInt8.ofNat := by
  unfold strL strB
  rw [str_list]
  apply List.ext_getElem?
  intro i
  by_cases hi : i < t.length
  · simp [hi, List.getD]
  · rw [List.getElem?_eq_none (by simpa using hi), List.getElem?_eq_none (by simpa using hi)]
theorem strL_size (t : List Nat) : (strL t).size = t.length := by
  have h := congrArg List.length (strL_list t)
  rw [List.length_map, ByteArray.toList_eq, Array.length_toList] at h
  exact h
theorem strL_app (a b : List Nat) : (strL a ++ strL b).toList = (strL (a ++ b)).toList := by
  rw [strL_list, List.map_append, ← strL_list, ← strL_list]
  simp only [ByteArray.toList_eq, ByteArray.data_append, Array.toList_append]
theorem strL_cat (a b : List Nat) : strL a ++ strL b = strL (a ++ b) := by
  refine ByteArray.ext (Array.ext' ?_)
  rw [← ByteArray.toList_eq, ← ByteArray.toList_eq]
  exact strL_app a b
/-- The first n of g. -/
theorem strB_list (g : Nat → Nat) (n : Nat) : strB g n = strL ((List.range n).map g) := by
  unfold strL strB
  rw [List.length_map, List.length_range]
  congr 1
  refine List.map_congr_left (fun k hk => ?_)
  have := List.mem_range.1 hk
  simp [List.getD, this]

theorem flat_get {α β : Type} (f : α → List β) (m : Nat) : ∀ (l : List α), (∀ a, a ∈ l → (f a).length = m) → ∀ (i t : Nat), t < m → ∀ a, l[i]? = some a → (l.flatMap f)[i * m + t]? = (f a)[t]?
  | [], _, i, t, _, a, h => by cases h
  | x :: l, hm, 0, t, ht, a, h => by
    cases h
    rw [List.flatMap_cons, Nat.zero_mul, Nat.zero_add, List.getElem?_append_left (by rw [hm x List.mem_cons_self]; exact ht)]
  | x :: l, hm, i + 1, t, ht, a, h => by
    have hx := hm x List.mem_cons_self
    rw [List.flatMap_cons, List.getElem?_append_right (by rw [hx, Nat.succ_mul]; omega), hx, show (i + 1) * m + t - m = i * m + t by rw [Nat.succ_mul]; omega]
    exact flat_get f m l (fun a ha => hm a (List.mem_cons_of_mem _ ha)) i t ht a (by simpa using h)
theorem flat_len {α β : Type} (f : α → List β) (m : Nat) : ∀ (l : List α), (∀ a, a ∈ l → (f a).length = m) → (l.flatMap f).length = l.length * m
  | [], _ => by simp
  | x :: l, hm => by
    rw [List.flatMap_cons, List.length_append, hm x List.mem_cons_self, flat_len f m l (fun a ha => hm a (List.mem_cons_of_mem _ ha)), List.length_cons, Nat.succ_mul]
    omega
theorem bytesWorld_below (w : World) (e : TypeId) (s : ByteArray) : Below w.heap.size w (Lib.bytesWorld w e s) :=
  ⟨rfl, rfl, rfl, by rw [Lib.bytesWorld_size]; omega, fun k hk => Lib.bytesWorld_at_old w e s k hk⟩

end Go.Proofs.YtmcaejooaaahdaaGreat

namespace Go.Proofs.YtmcaejooaaahdaaGreat
open Go.RowKit

theorem u32x (a b : Nat) (ha : a < 4294967296) (hb : b < 4294967296) : bits .xor .u32 (a : Int) (b : Int) = ((a ^^^ b : Nat) : Int) := u32_xor_nat a b ha hb
theorem half_even {c : Nat} (h : ¬ c % 2 = 1) : Crc.half c = c / 2 := by unfold Crc.half; rw [if_neg h, Nat.xor_zero]
theorem half_odd {c : Nat} (h : c % 2 = 1) : Crc.half c = c / 2 ^^^ 2197175160 := by unfold Crc.half; rw [if_pos h]; rfl

set_option maxHeartbeats 400000 in
theorem shifted_any (c : Nat) (w : World) (hc : c < 4294967296) :
    Calls Tryz.prog 174 #[.int .u32 (c : Int)] w fun e w' => e = .returned (.int .u32 (Crc.half c : Nat)) ∧ w' = w := by
  have h1 : bits .and .u32 (c : Int) 1 = ((c % 2 : Nat) : Int) := by
    rw [show (1 : Int) = ((1 : Nat) : Int) from rfl, u32_and_nat c 1 hc (by decide), nat_mask1]
  by_cases ho : c % 2 = 1
  · have h2 : bits .xor .u32 ((c : Int) / 2) 2197175160 = ((Crc.half c : Nat) : Int) := by
      rw [half_odd ho, ← u32x (c / 2) 2197175160 (by omega) (by decide)]
      rfl
    have h3 : (((c % 2 : Nat) : Int) == 1) = true := by rw [ho]; rfl
    generalize Crc.half c = y at h2
    generalize c % 2 = z at h1 h3
    clear ho
    go_enter Tryz.func174, Tryz.ntmps174
    go_wp2_with fail
    go_ret
    exact ⟨rfl, rfl⟩
  · have h2 : (Crc.half c : Int) = (c : Int) / 2 := by
      rw [half_even ho]
      rfl
    have h3 : (((c % 2 : Nat) : Int) == 1) = false := by rw [beq_eq_false_iff_ne]; omega
    have H : Hid ((Crc.half c : Int) = (c : Int) / 2) := h2
    generalize c % 2 = z at h1 h3
    clear ho h2
    go_enter Tryz.func174, Tryz.ntmps174
    go_wp2_with fail
    go_ret
    exact ⟨ret_int H.out.symm, rfl⟩

set_option maxHeartbeats 1000000 in
theorem sum_some (b o n cap : Nat) (f : Nat → Nat) (w : World) (hf : Bd f) (hn : n ≤ 9223372036854775807) (hc : ∀ i, i < n → w.cell? ⟨b, o + i, none⟩ = some (.int .u8 (f i : Nat))) :
    Calls Tryz.prog 148 #[.slice (some ⟨b, o, none⟩) n cap] w fun e w' => e = .returned (.int .u32 (Crc.sum f n : Nat)) ∧ w' = w := by
  go_enter Tryz.func148, Tryz.ntmps148
  go_wp2_with fail
  go_loop [3, 8] (fun c x => ∃ k : Nat, k ≤ n ∧ x = .int .i64 k ∧ c = .int .u32 (Crc.run f k : Nat)) (fun _ x => n - (intOf x).toNat)
  case atStart => exact ⟨0, Nat.zero_le _, rfl, rfl⟩
  case round =>
    obtain ⟨k, hk, rfl, rfl⟩ := hrel
    by_cases hlt : k < n
    · have hlt' : (k : Int) < (n : Int) := by omega
      have t := hc k hlt
      have hfk := hf k
      have hx := u32x (Crc.run f k) (f k) (Crc.run_lt hf k) (by omega)
      have hy : Crc.run f k ^^^ f k < 4294967296 := Crc.xor32 (Crc.run_lt hf k) (by omega)
      have HZ : Hid (Crc.run f (k + 1) = Crc.halves 8 (Crc.run f k ^^^ f k)) := rfl
      generalize Crc.run f k ^^^ f k = y at hx hy HZ
      clear hc
      go_wp2_with fail
      go_loop [3, 16] (fun c x => ∃ j : Nat, j ≤ 8 ∧ x = .int .i64 j ∧ c = .int .u32 (Crc.halves j y : Nat)) (fun _ x => 8 - (intOf x).toNat)
      case atStart => exact ⟨0, Nat.zero_le _, rfl, rfl⟩
      case round =>
        obtain ⟨j, hj, rfl, rfl⟩ := hrel
        by_cases hlj : j < 8
        · have hlj' : (j : Int) < 8 := by omega
          go_wp2_with fail
          refine (shifted_any _ _ (Crc.halves_lt hy j)).mono ?_
          rintro e w1 ⟨rfl, rfl⟩
          go_wp2_with fail
          exact ⟨⟨j + 1, by omega, by go_num, rfl⟩, by simp [intOf]; omega⟩
        · have e8 : j = 8 := by omega
          subst e8
          go_wp2_with fail
          exact ⟨⟨k + 1, by omega, by go_num, by rw [HZ.out]⟩, by simp [intOf]; omega⟩
    · have e8 : k = n := by omega
      subst e8
      clear hc
      go_wp2_with fail
      go_ret
      refine ⟨ret_int (?_ : bits .xor .u32 IntKind.u32.max (Crc.run f k : Nat) = _), rfl⟩
      rw [show IntKind.u32.max = ((4294967295 : Nat) : Int) by decide, u32x _ _ (by decide) (Crc.run_lt hf k), Nat.xor_comm]
      rfl

set_option maxHeartbeats 400000 in
theorem sum_none (A : Option Addr) (cap : Nat) (f : Nat → Nat) (w : World) :
    Calls Tryz.prog 148 #[.slice A 0 cap] w fun e w' => e = .returned (.int .u32 (Crc.sum f 0 : Nat)) ∧ w' = w := by
  go_enter Tryz.func148, Tryz.ntmps148
  go_wp2_with fail
  refine wp_loop_rounds 1 ?_
  rw [rounds_succ]
  go_wp2_with fail
  go_ret
  refine ⟨ret_int (?_ : bits .xor .u32 IntKind.u32.max 4294967295 = _), rfl⟩
  rw [show Crc.sum f 0 = 0 from Nat.xor_self 4294967295]
  decide

theorem sum_any (v : Value) (n : Nat) (f : Nat → Nat) (w : World) (h : Byts w v n f) :
    Calls Tryz.prog 148 #[v] w fun e w' => e = .returned (.int .u32 (Crc.sum f n : Nat)) ∧ w' = w := by
  by_cases hn : 1 ≤ n
  · obtain ⟨b, o, cap, rfl, _, _, hc⟩ := h.some hn
    exact sum_some b o n cap f w h.bd h.len hc
  · obtain rfl : n = 0 := by omega
    obtain ⟨A, cap, rfl⟩ := h.zero
    exact sum_none A cap f w

theorem half_mul (c : Nat) (hc : c < 4294967296) : bits .xor .u32 ((c : Int) / 2) ((c : Int) % 2 * 2197175160) = ((Crc.half c : Nat) : Int) := by
  rcases Nat.mod_two_eq_zero_or_one c with e | e
  · rw [half_even (by omega), show (c : Int) % 2 * 2197175160 = ((0 : Nat) : Int) by omega, show (c : Int) / 2 = ((c / 2 : Nat) : Int) by omega, u32x _ _ (by omega) (by decide), Nat.xor_zero]
  · rw [half_odd e, show (c : Int) % 2 * 2197175160 = ((2197175160 : Nat) : Int) by omega, show (c : Int) / 2 = ((c / 2 : Nat) : Int) by omega, u32x _ _ (by omega) (by decide)]

set_option maxHeartbeats 1000000 in
theorem refSum_some (b o n cap : Nat) (f : Nat → Nat) (w : World) (hf : Bd f) (hn : n ≤ 9223372036854775807) (hc : ∀ i, i < n → w.cell? ⟨b, o + i, none⟩ = some (.int .u8 (f i : Nat))) :
    Calls Tryz.prog 127 #[.slice (some ⟨b, o, none⟩) n cap] w fun e w' => e = .returned (.int .u32 (Crc.sum f n : Nat)) ∧ w' = w := by
  go_enter Tryz.func127, Tryz.ntmps127
  go_wp2_with fail
  go_loop [3, 10] (fun c x => ∃ k : Nat, k ≤ n ∧ x = .int .i64 k ∧ c = .int .u32 (Crc.run f k : Nat)) (fun _ x => n - (intOf x).toNat)
  case atStart => exact ⟨0, Nat.zero_le _, rfl, rfl⟩
  case round =>
    obtain ⟨k, hk, rfl, rfl⟩ := hrel
    by_cases hlt : k < n
    · have hlt' : (k : Int) < (n : Int) := by omega
      have t := hc k hlt
      have hfk := hf k
      have hrk := Crc.run_lt hf k
      have hx := u32x (Crc.run f k) (f k) hrk (by omega)
      have hy : Crc.run f k ^^^ f k < 4294967296 := Crc.xor32 hrk (by omega)
      have HZ : Hid (Crc.run f (k + 1) = Crc.run f k / 256 ^^^ Crc.halves 8 ((Crc.run f k ^^^ f k) % 256)) := by
        show Crc.step (Crc.run f k) (f k) = _
        rw [Crc.step_table, Nat.xor_comm]
        congr 1
        have h8 : (Crc.run f k ^^^ f k) / 2 ^ 8 = Crc.run f k / 2 ^ 8 ^^^ f k / 2 ^ 8 := Nat.xor_div_two_pow
        rw [show f k / 2 ^ 8 = 0 by omega, Nat.xor_zero] at h8
        exact h8
      have hm : bits .and .u32 ((Crc.run f k ^^^ f k : Nat) : Int) 255 = (((Crc.run f k ^^^ f k) % 256 : Nat) : Int) := by
        rw [show (255 : Int) = ((255 : Nat) : Int) from rfl, u32_and_nat _ 255 hy (by decide), nat_mask8]
      have hl : (Crc.run f k ^^^ f k) % 256 < 4294967296 := by omega
      generalize Crc.run f k ^^^ f k = y at hx hy HZ hm hl
      generalize y % 256 = z at HZ hm hl
      clear hc
      go_wp2_with fail
      go_loop [6, 7] (fun c x => ∃ j : Nat, j ≤ 8 ∧ x = .int .i64 j ∧ c = .int .u32 (Crc.halves j z : Nat)) (fun _ x => 8 - (intOf x).toNat)
      case atStart => exact ⟨0, Nat.zero_le _, rfl, rfl⟩
      case round =>
        obtain ⟨j, hj, rfl, rfl⟩ := hrel
        by_cases hlj : j < 8
        · have hlj' : (j : Int) < 8 := by omega
          have hq := Crc.halves_lt hl j
          have hm2 : bits .and .u32 ((Crc.halves j z : Nat) : Int) 1 = ((Crc.halves j z % 2 : Nat) : Int) := by
            rw [show (1 : Int) = ((1 : Nat) : Int) from rfl, u32_and_nat _ 1 hq (by decide), nat_mask1]
          have HM : Hid (bits .xor .u32 ((Crc.halves j z : Nat) / 2 : Int) ((Crc.halves j z : Nat) % 2 * 2197175160 : Int) = ((Crc.halves (j + 1) z : Nat) : Int)) := half_mul _ hq
          go_wp2_with fail
          exact ⟨⟨j + 1, by omega, by go_num, val_int HM.out⟩, by simp [intOf]; omega⟩
        · have e8 : j = 8 := by omega
          subst e8
          have hq := Crc.halves_lt hl 8
          have hz2 : bits .xor .u32 ((Crc.run f k : Int) / 256) ((Crc.halves 8 z : Nat) : Int) = ((Crc.run f (k + 1) : Nat) : Int) := by
            rw [HZ.out, ← u32x _ _ (by omega) hq]
            rfl
          have HE : ∃ r', r' = Crc.run f (k + 1) := ⟨_, rfl⟩
          obtain ⟨r', hr'⟩ := HE
          rw [← hr'] at hz2
          have HR : Hid (r' = Crc.run f (k + 1)) := hr'
          clear hr'
          go_wp2_with fail
          exact ⟨⟨k + 1, by omega, by go_num, val_int (by rw [HR.out])⟩, by simp [intOf]; omega⟩
    · have e8 : k = n := by omega
      subst e8
      clear hc
      have hz : bits .xor .u32 ((Crc.run f k : Nat) : Int) 4294967295 = ((Crc.sum f k : Nat) : Int) := u32x _ 4294967295 (Crc.run_lt hf k) (by decide)
      go_wp2_with fail
      go_ret
      exact ⟨rfl, rfl⟩

set_option maxHeartbeats 400000 in
theorem refSum_none (A : Option Addr) (cap : Nat) (f : Nat → Nat) (w : World) :
    Calls Tryz.prog 127 #[.slice A 0 cap] w fun e w' => e = .returned (.int .u32 (Crc.sum f 0 : Nat)) ∧ w' = w := by
  go_enter Tryz.func127, Tryz.ntmps127
  go_wp2_with fail
  refine wp_loop_rounds 1 ?_
  rw [rounds_succ]
  go_wp2_with fail
  go_ret
  refine ⟨ret_int (?_ : bits .xor .u32 4294967295 4294967295 = _), rfl⟩
  rw [show Crc.sum f 0 = 0 from Nat.xor_self 4294967295]
  decide

theorem refSum_any (v : Value) (n : Nat) (f : Nat → Nat) (w : World) (h : Byts w v n f) :
    Calls Tryz.prog 127 #[v] w fun e w' => e = .returned (.int .u32 (Crc.sum f n : Nat)) ∧ w' = w := by
  by_cases hn : 1 ≤ n
  · obtain ⟨b, o, cap, rfl, _, _, hc⟩ := h.some hn
    exact refSum_some b o n cap f w h.bd h.len hc
  · obtain rfl : n = 0 := by omega
    obtain ⟨A, cap, rfl⟩ := h.zero
    exact refSum_none A cap f w

end Go.Proofs.YtmcaejooaaahdaaGreat
