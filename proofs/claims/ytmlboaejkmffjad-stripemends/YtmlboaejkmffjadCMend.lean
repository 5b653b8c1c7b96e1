/-
  What code.Mend does, call by call.
-/
import Derived.Test.YtmlboaejkmffjadCSpare
import Derived.Test.YtmlboaejkmffjadAppM
namespace Go.Proofs.Ytmlboaejkmffjad
open Go.RowKit

/-- The number of the shard that is there, p others ahead of it. -/
def thr (L : Nat → Nat) (N p : Nat) : Nat := (there L N).getD p 0
theorem thr_mem {L : Nat → Nat} {N p : Nat} (h : p < (there L N).length) : thr L N p < N ∧ 0 < L (thr L N p) := by
  refine there_mem.1 ?_
  unfold thr
  simp [List.getD, h]
theorem thr_inj {L : Nat → Nat} {N p q : Nat} (hp : p < (there L N).length) (hq : q < (there L N).length) (hne : p ≠ q) : thr L N p ≠ thr L N q := fun e => by
  unfold thr at e
  simp only [List.getD, List.getElem?_eq_getElem hp, List.getElem?_eq_getElem hq, Option.getD_some] at e
  exact hne ((List.getElem_inj (there_nodup L N)).1 e)

/-- Whether the shards that are there have one length, and none is too long. -/
abbrev FormOk (L : Nat → Nat) (N : Nat) : Prop := L (thr L N 0) ≤ 400 ∧ ∀ p, p < (there L N).length → L (thr L N p) = L (thr L N 0)
/-- What code.Mend tells. -/
def mendE (d : Int) (N : Nat) (L : Nat → Nat) : Nat := if wrongC d ((N : Int) - d) ≠ 0 then 5 else if (there L N).length < d.toNat then 10 else if FormOk L N then 0 else 2

theorem Arg.take {w : World} {A : Option Addr} {m n cap cap' : Nat} {L : Nat → Nat} {f : Nat → Nat → Nat} (h : Arg w (.slice A m cap) m L f) (hn : n ≤ m) : Arg w (.slice A n cap') n L f := by
  obtain ⟨A', c, R, C, hv, hr⟩ := h.lies
  cases hv
  exact ⟨h.bd, A, cap', R, C, rfl, fun r hr' => hr r (by omega)⟩

set_option maxHeartbeats 400000 in
theorem mend_bad (v : Value) (N : Nat) (A : Option Addr) (cap : Nat) (hv : v = .slice A N cap) (d : Int) (w : World) (hN : N ≤ maxLen) (h : wrongC d ((N : Int) - d) ≠ 0) :
    Calls Try.prog 53 #[v, .int .i64 d] w fun e w' => e = .returned (.tuple #[.slice none 0 0, .int .i64 5]) ∧ Below w.heap.size w w' := by
  subst hv
  unfold maxLen at hN
  have H : Hid (∀ w, Calls Try.prog 60 #[.int .i64 d, .int .i64 (wrap64 ((N : Int) - d))] w fun e w' => e = .returned (.tuple #[.slice none 0 0, .int .i64 5]) ∧ Below w.heap.size w w') := fun w => by
    refine codeRows_bad d _ w ?_
    unfold wrongC at h
    split at h
    · rename_i hb
      unfold wrap64
      omega
    · exact absurd rfl h
  clear h hN
  go_enter Try.func53, Try.ntmps53
  go_wp2_with fail
  refine (H.out _).mono ?_
  rintro e w1 ⟨rfl, b1⟩
  go_wp2_with fail
  go_ret2
  exact ⟨rfl, b1⟩

set_option maxHeartbeats 1000000 in
theorem mend_lost (A : Option Addr) (cap n s : Nat) (L : Nat → Nat) (f : Nat → Nat → Nat) (w : World) (h : Arg w (.slice A (n + s) cap) (n + s) L f) (h1 : 1 ≤ n) (h2 : n ≤ 8) (h3 : s ≤ 4) (hl : (there L (n + s)).length < n) :
    Calls Try.prog 53 #[.slice A (n + s) cap, .int .i64 (n : Int)] w fun e w' => e = .returned (.tuple #[.slice none 0 0, .int .i64 10]) ∧ Below w.heap.size w w' := by
  have HR := fun w => codeRows_any n s w h1 h2 h3
  have hsub : (n : Int) + (s : Int) - (n : Int) = (s : Int) := by omega
  have hl' : ((there L (n + s)).length : Int) < (n : Int) := by omega
  go_enter Try.func53, Try.ntmps53
  go_wp2_with fail
  refine (HR _).mono ?_
  rintro e w1 ⟨g, cp, rfl, _, ⟨G, K, hm⟩, b1⟩
  have HT := thoseThere_any A cap (n + s) n L f g cp G (fun _ => 0) K (Gf.rowF n) w1 (h.below b1) (Gf.rowF_bd n) hm (by omega) (by omega)
  clear HR h
  go_wp2_with fail
  refine HT.mono ?_
  rintro e w2 ⟨v4, v5, rfl, a4, a5, c4, c5, b2⟩
  obtain ⟨A4, p4, R4, C4, rfl, _⟩ := a4.lies
  obtain ⟨A5, p5, R5, C5, rfl, _⟩ := a5.lies
  clear HT a4 a5
  go_wp2_with fail
  go_ret2
  exact ⟨rfl, bt b1 b2⟩

set_option maxHeartbeats 1000000 in
theorem mend_form (A : Option Addr) (cap n s : Nat) (L : Nat → Nat) (f : Nat → Nat → Nat) (w : World) (h : Arg w (.slice A (n + s) cap) (n + s) L f) (h1 : 1 ≤ n) (h2 : n ≤ 8) (h3 : s ≤ 4) (hl : n ≤ (there L (n + s)).length) (hf : ¬ FormOk L (n + s)) :
    Calls Try.prog 53 #[.slice A (n + s) cap, .int .i64 (n : Int)] w fun e w' => e = .returned (.tuple #[.slice none 0 0, .int .i64 2]) ∧ Below w.heap.size w w' := by
  have HR := fun w => codeRows_any n s w h1 h2 h3
  have hsub : (n : Int) + (s : Int) - (n : Int) = (s : Int) := by omega
  have hl' : ¬ ((there L (n + s)).length : Int) < (n : Int) := by omega
  have hlen := there_len L (n + s)
  have HF : Hid (¬ FormOk L (n + s)) := hf
  clear hf
  go_enter Try.func53, Try.ntmps53
  go_wp2_with fail
  refine (HR _).mono ?_
  rintro e w1 ⟨g, cp, rfl, _, ⟨G, K, hm⟩, b1⟩
  have HT := thoseThere_any A cap (n + s) n L f g cp G (fun _ => 0) K (Gf.rowF n) w1 (h.below b1) (Gf.rowF_bd n) hm (by omega) (by omega)
  clear HR h
  go_wp2_with fail
  refine HT.mono ?_
  rintro e w2 ⟨v4, v5, rfl, a4, a5, c4, c5, b2⟩
  have hWF := wellFormed_any v4 _ _ _ w2 a4 (by omega) (by omega)
  obtain ⟨A4, p4, R4, C4, rfl, _⟩ := a4.lies
  obtain ⟨A5, p5, R5, C5, rfl, _⟩ := a5.lies
  have b2 := bt b1 b2
  clear HT a4 a5
  go_wp2_with fail
  refine hWF.mono ?_
  rintro e w3 ⟨y, rfl, hy, b3⟩
  cases y with
  | true => exact absurd (hy.1 rfl) HF.out
  | false =>
    clear hy hWF
    go_wp2_with fail
    go_ret2
    exact ⟨rfl, bt b2 b3⟩

/-- All shards, of data. -/
theorem allF_data {n : Nat} {D : Nat → Nat → Nat} (hD : Gf.Bd2 D) {i : Nat} (hi : i < n) (k : Nat) : Gf.mm n (Gf.rowF n) D i k = D i k := by
  rw [show Gf.mm n (Gf.rowF n) D i k = Gf.mm n Gf.one D i k from Gf.mm_congr (fun l _ => Gf.rowF_one hi l) (fun _ _ => rfl), Gf.one_mm hD k hi]

set_option maxHeartbeats 2000000 in
theorem mend_ok (A : Option Addr) (cap n s : Nat) (L : Nat → Nat) (f : Nat → Nat → Nat) (w : World) (h : Arg w (.slice A (n + s) cap) (n + s) L f) (h1 : 1 ≤ n) (h2 : n ≤ 8) (h3 : s ≤ 4) (hl : n ≤ (there L (n + s)).length) (hf : FormOk L (n + s)) :
    Calls Try.prog 53 #[.slice A (n + s) cap, .int .i64 (n : Int)] w fun e w' => ∃ v r, e = .returned (.tuple #[v, .int .i64 0]) ∧ Cap v ∧ Gf.Bd2 r ∧ Gf.Und n (fun p => Gf.rowF n (thr L (n + s) p)) r ∧
      Mx w' v (n + s) (L (thr L (n + s) 0)) (Gf.mm n (Gf.rowF n) (Gf.mm n r (fun p => f (thr L (n + s) p)))) ∧ Below w.heap.size w w' := by
  have HR := fun w => codeRows_any n s w h1 h2 h3
  have hsub : (n : Int) + (s : Int) - (n : Int) = (s : Int) := by omega
  have hl' : ¬ ((there L (n + s)).length : Int) < (n : Int) := by omega
  have hlen := there_len L (n + s)
  have HF : Hid (FormOk L (n + s)) := hf
  clear hf
  have hNS : Hid (∀ w v, Arg w v n (fun _ => n) (fun p => Gf.rowF n (thr L (n + s) p)) → Calls Try.prog 73 #[v] w fun e w' => ∃ v' r, e = .returned (.tuple #[v', .int .i64 0]) ∧ Mx w' v' n n r ∧ Gf.Und n (fun p => Gf.rowF n (thr L (n + s) p)) r ∧ Below w.heap.size w w') := fun w v ha => by
    have mx := ha.mx (wrongE_ok h1 (by omega) h1 (by omega) (fun _ _ => rfl))
    refine (undo_any v n _ w mx).mono fun e w' ⟨hh, hb⟩ => ?_
    rcases hh with ⟨v', r, q1, q2, q3⟩ | ⟨_, hs⟩
    · exact ⟨v', r, q1, q2, q3, hb⟩
    · exact (Gf.rows_not_sing (by omega) (fun p hp => by have := (thr_mem (show p < (there L (n + s)).length by omega)).1; omega) (fun p q hp hq hne => thr_inj (by omega) (by omega) hne) hs).elim
  go_enter Try.func53, Try.ntmps53
  go_wp2_with fail
  refine (HR _).mono ?_
  rintro e w1 ⟨g, cp, rfl, _, ⟨G, K, hm⟩, b1⟩
  have HT := thoseThere_any A cap (n + s) n L f g cp G (fun _ => 0) K (Gf.rowF n) w1 (h.below b1) (Gf.rowF_bd n) hm (by omega) (by omega)
  clear HR h hm
  go_wp2_with fail
  refine HT.mono ?_
  rintro e w2 ⟨v4, v5, rfl, a4, a5, c4, c5, b2⟩
  have hWF := wellFormed_any v4 _ _ _ w2 a4 (by omega) (by omega)
  have b2 := bt b1 b2
  obtain ⟨A4, p4, R4, C4, hv4, hr4⟩ := a4.lies
  subst hv4
  obtain ⟨A5, p5, R5, C5, hv5, hr5⟩ := a5.lies
  subst hv5
  obtain ⟨b4, o4, rfl, _, _⟩ := hr4 0 (by omega)
  obtain ⟨b5, o5, rfl, _, _⟩ := hr5 0 (by omega)
  obtain ⟨_, _, _, hc4, k4⟩ := c4
  cases hc4
  obtain ⟨_, _, _, hc5, k5⟩ := c5
  cases hc5
  have t4 := a4.take (n := n) (cap' := p4) hl
  have t5 := a5.take (n := n) (cap' := p5) hl
  have f4 : (n : Int) ≤ (p4 : Int) := by omega
  have f5 : (n : Int) ≤ (p5 : Int) := by omega
  clear HT a4 a5 hr4 hr5 b1
  go_wp2_with fail
  refine hWF.mono ?_
  rintro e w3 ⟨y, rfl, hy, b3⟩
  cases y with
  | false => exact absurd (hy.2 HF.out) (by decide)
  | true =>
    have t4 := t4.below b3
    have t5 := t5.below b3
    have b3 := bt b2 b3
    clear hy hWF b2
    go_wp2_with fail
    refine (hNS.out _ _ t5).mono ?_
    rintro e w4 ⟨vU, r, rfl, mU, hU, b4'⟩
    have t4 := t4.below b4'
    have b4' := bt b3 b4'
    have hF := HF.out
    have mT : Mx w4 (.slice (some ⟨b4, o4, none⟩) n p4) n (L (thr L (n + s) 0)) (fun p => f (thr L (n + s) p)) := t4.mx (wrongE_ok h1 (by omega) (thr_mem (show 0 < (there L (n + s)).length by omega)).2 hF.1 (fun p hp => hF.2 p (by omega)))
    have rU := mU.bd
    have HU : Hid (Gf.Und n (fun p => Gf.rowF n (thr L (n + s) p)) r) := hU
    have hMul := mulM_own vU _ n n n _ r _ w4 mU mT rfl
    have bdA : Gf.Bd2 (Gf.mm n r (fun p => f (thr L (n + s) p))) := Gf.mm_bd rU n _
    have dim := mT.dim
    clear t4 t5 b3 hU mU mT hF
    generalize hall : Gf.mm n r (fun p => f (thr L (n + s) p)) = all at hMul bdA
    generalize hcc : L (thr L (n + s) 0) = c at hMul dim
    have HALL : Hid (Gf.mm n r (fun p => f (thr L (n + s) p)) = all) := hall
    have HCC : Hid (L (thr L (n + s) 0) = c) := hcc
    obtain ⟨_, d2, d3, d4⟩ := dim
    clear hall hcc
    go_wp2_with fail
    refine hMul.mono ?_
    rintro e w5 ⟨bA, G5, rfl, hoA, b5'⟩
    have b5' := bt b4' b5'
    have mA := hoA.mx bdA ⟨h1, d2, d3, d4⟩
    clear hMul b4'
    go_wp2_with fail
    by_cases hs : s = 0
    · refine (spare_none' _ n s (fun _ => c) all w5 mA.arg h1 h2 mA.ok hs).mono ?_
      rintro e w6 ⟨rfl, b6⟩
      have hoA := hoA.below b6
      have b6 := bt b5' b6
      have HRES : Hid (Mx w6 (.slice (some ⟨bA, 0, none⟩) n n) (n + s) c (Gf.mm n (Gf.rowF n) all)) := ⟨Gf.mm_bd (Gf.rowF_bd n) n all, ⟨by omega, by omega, d3, d4⟩, bA, 0, n, G5, fun _ => 0, fun _ => c, by rw [hs]; rfl, fun i hi => hoA.mat.top i (by omega), fun i hi k hk => by
        rw [allF_data bdA (show i < n by omega)]
        exact hoA.mat.row i (by omega) k hk⟩
      have hrun := fun W ty => app_nil W 91 43 Try.underlying91 Try.underlying43 bA 0 n n (Nat.le_refl _) ty
      clear hoA mA hs
      go_wp2_with (at_builtin; refine Lib.wpList_append_run _ rfl (.tmp 70) (.tmp 71) 91 43 rfl _ _ rfl rfl _ _ (hrun _ _) ?_)
      go_wp2_with fail
      go_ret2
      exact ⟨_, r, rfl, ⟨_, _, _, rfl, Nat.le_refl _⟩, rU, HU.out, by rw [HALL.out, HCC.out]; exact HRES.out, b6⟩
    · refine (spare_own _ n s c all w5 mA h2 (by omega) h3).mono ?_
      rintro e w6 ⟨bS, G6, rfl, hoS, b6⟩
      have hoA := hoA.below b6
      have b6 := bt b5' b6
      obtain ⟨C, q, hq, hC1, hC2, hrun⟩ := app_two w6 91 43 Try.underlying91 Try.underlying43 bA 0 n n (fun i => .slice (some ⟨G5 i, 0, none⟩) c c) bS 0 s s (fun i => .slice (some ⟨G6 i, 0, none⟩) c c)
        (fun i hi => hoA.mat.top i hi) (fun i hi => hoS.mat.top i hi) (fun _ _ => rfl) (by omega) (by omega)
      have b7 : Below w6.heap.size w6 (w6.drew.alloc (.cells C 25)) := (Below.refl _ _).drew.alloc (Nat.le_refl _) _
      have oA7 := hoA.below b7
      have oS7 := hoS.below b7
      have hnew := World.rowIs_alloc w6.drew C 25 (fun i => C.getD i (.slice none 0 0)) (fun i hi => by simp [hi])
      have HRES : Hid (Mx (w6.drew.alloc (.cells C 25)) (.slice (some ⟨w6.heap.size, 0, none⟩) (n + s) q) (n + s) c (Gf.mm n (Gf.rowF n) all)) := by
        refine ⟨Gf.mm_bd (Gf.rowF_bd n) n all, ⟨by omega, by omega, d3, d4⟩, w6.heap.size, 0, q, fun i => if i < n then G5 i else G6 (i - n), fun _ => 0, fun _ => c, rfl, fun i hi => ?_, fun i hi k hk => ?_⟩
        · by_cases hin : i < n
          · have h8 := hC1 i hin
            obtain ⟨h9, h10⟩ := Array.getElem?_eq_some_iff.1 h8
            rw [Nat.zero_add, if_pos hin]
            refine (hnew.cell h9).trans ?_
            simp [h9, h10]
          · obtain ⟨j, rfl⟩ : ∃ j, i = n + j := ⟨i - n, by omega⟩
            have h8 := hC2 j (by omega)
            obtain ⟨h9, h10⟩ := Array.getElem?_eq_some_iff.1 h8
            rw [Nat.zero_add, if_neg hin, Nat.add_sub_cancel_left]
            refine (hnew.cell h9).trans ?_
            simp [h9, h10]
        · by_cases hin : i < n
          · rw [if_pos hin, allF_data bdA hin]
            exact oA7.mat.row i hin k hk
          · obtain ⟨j, rfl⟩ : ∃ j, i = n + j := ⟨i - n, by omega⟩
            rw [if_neg hin, Nat.add_sub_cancel_left]
            exact oS7.mat.row j (by omega) k hk
      have b7 := bt b6 b7
      clear hoA mA hoS hC1 hC2 oA7 oS7 hnew
      go_wp2_with (at_builtin; refine Lib.wpList_append_run _ rfl (.tmp 70) (.tmp 71) 91 43 rfl _ _ rfl rfl _ _ (hrun _) ?_)
      go_wp2_with fail
      go_ret2
      exact ⟨_, r, rfl, ⟨_, _, _, rfl, hq⟩, rU, HU.out, by rw [HALL.out, HCC.out]; exact HRES.out, b7⟩

/-- What code.Mend tells, whatever it is handed. -/
theorem mendO (v : Value) (N : Nat) (L : Nat → Nat) (f : Nat → Nat → Nat) (d : Int) (w : World) (h : Arg w v N L f) (hN : N ≤ maxLen) :
    Calls Try.prog 53 #[v, .int .i64 d] w fun e w' => ∃ v' r, e = .returned (.tuple #[v', .int .i64 (mendE d N L : Nat)]) ∧ Cap v' ∧ (mendE d N L = 0 → Gf.Bd2 r ∧ Gf.Und d.toNat (fun p => Gf.rowF d.toNat (thr L N p)) r) ∧
      Out w' (mendE d N L) v' N (L (thr L N 0)) (Gf.mm d.toNat (Gf.rowF d.toNat) (Gf.mm d.toNat r (fun p => f (thr L N p)))) ∧ Below w.heap.size w w' := by
  obtain ⟨A, cap, R, C, hv, _⟩ := h.lies
  subst hv
  by_cases hw : wrongC d ((N : Int) - d) ≠ 0
  · rw [show mendE d N L = 5 from if_pos hw]
    exact (mend_bad _ N A cap rfl d w hN hw).mono fun e w' ⟨h1, h2⟩ => ⟨_, f, h1, ⟨_, _, _, rfl, Nat.le_refl _⟩, fun h => absurd h (by decide), Or.inr ⟨Or.inl (by decide), rfl⟩, h2⟩
  · have hw' : ¬ (d < 1 ∨ 8 < d ∨ (N : Int) - d < 0 ∨ 4 < (N : Int) - d) := fun h => hw (by rw [wrongC_bad h]; decide)
    obtain ⟨n, rfl⟩ := Int.eq_ofNat_of_zero_le (show 0 ≤ d by omega)
    obtain ⟨s, rfl⟩ : ∃ s, N = n + s := ⟨N - n, by omega⟩
    by_cases hl : (there L (n + s)).length < n
    · rw [show mendE n (n + s) L = 10 from (if_neg hw).trans (if_pos hl)]
      exact (mend_lost A cap n s L f w h (by omega) (by omega) (by omega) hl).mono fun e w' ⟨h1, h2⟩ => ⟨_, f, h1, ⟨_, _, _, rfl, Nat.le_refl _⟩, fun h => absurd h (by decide), Or.inr ⟨Or.inl (by decide), rfl⟩, h2⟩
    · by_cases hf : FormOk L (n + s)
      · rw [show mendE n (n + s) L = 0 from (if_neg hw).trans ((if_neg hl).trans (if_pos hf))]
        exact (mend_ok A cap n s L f w h (by omega) (by omega) (by omega) (by omega) hf).mono fun e w' ⟨v', r, h1, h2, h3, h4, h5, h6⟩ => ⟨v', r, h1, h2, fun _ => ⟨h3, h4⟩, Or.inl ⟨rfl, h5⟩, h6⟩
      · rw [show mendE n (n + s) L = 2 from (if_neg hw).trans ((if_neg hl).trans (if_neg hf))]
        exact (mend_form A cap n s L f w h (by omega) (by omega) (by omega) (by omega) hf).mono fun e w' ⟨h1, h2⟩ => ⟨_, f, h1, ⟨_, _, _, rfl, Nat.le_refl _⟩, fun h => absurd h (by decide), Or.inr ⟨Or.inl (by decide), rfl⟩, h2⟩

/-- Shards that are those of D are mended to be so. -/
theorem mended {n N : Nat} {L : Nat → Nat} {f D r : Nat → Nat → Nat} (hD : Gf.Bd2 D) (hr : Gf.Bd2 r) (hu : Gf.Und n (fun p => Gf.rowF n (thr L N p)) r) {k : Nat} (h : ∀ p, p < n → f (thr L N p) k = Gf.mm n (Gf.rowF n) D (thr L N p) k) (i : Nat) :
    Gf.mm n (Gf.rowF n) (Gf.mm n r (fun p => f (thr L N p))) i k = Gf.mm n (Gf.rowF n) D i k := by
  refine Gf.mm_congr (fun _ _ => rfl) (fun j hj => ?_)
  have e := Gf.und_data (m := fun p => Gf.rowF n (thr L N p)) (fun p => Gf.rowF_bd n _) hr hD hu j k hj
  refine Eq.trans (Gf.mm_congr (fun _ _ => rfl) (fun p hp => ?_)) e
  exact h p hp

end Go.Proofs.Ytmlboaejkmffjad
