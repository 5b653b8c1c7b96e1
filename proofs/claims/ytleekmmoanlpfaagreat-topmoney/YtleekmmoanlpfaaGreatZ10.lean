/-
  Texts of the proof, joined: CSpare, AppM, CMend, Str, BSum, BWrong.
-/
import Derived.Test.YtleekmmoanlpfaaGreatZ09
import Derived.Test.YtleekmmoanlpfaaGreatZ08
import Derived.Deep.AppendSrc
import Derived.Lib.AppendZeros
import Derived.Test.YtleekmmoanlpfaaGreatZ04
import Derived.Lib.ConvBytes
namespace Go.Proofs.YtleekmmoanlpfaaGreat
open Go.RowKit

/-- Rows of spare shards. -/
def spareF (n i : Nat) : Nat → Nat := Gf.rowF n (n + i)
theorem spareF_bd (n : Nat) : Gf.Bd2 (spareF n) := fun i => Gf.rowF_bd n (n + i)

theorem MatAt.spare {w : World} {g n s : Nat} {G K : Nat → Nat} (h : MatAt w g 0 (n + s) n G (fun _ => 0) K (Gf.rowF n)) : MatAt w g n s n (fun r => G (n + r)) (fun _ => 0) (fun r => K (n + r)) (spareF n) :=
  ⟨fun r hr => by have := h.top (n + r) (by omega); rw [Nat.zero_add] at this; exact this, fun r hr k hk => h.row (n + r) (by omega) k hk⟩

set_option maxHeartbeats 400000 in
theorem spare_none (v : Value) (n : Nat) (L : Nat → Nat) (f : Nat → Nat → Nat) (w : World) (h : Arg w v n L f) (h1 : 1 ≤ n) (h2 : n ≤ 8) (hx : wrongE n L = 0) :
    Calls Tryz.prog 83 #[v, .int .i64 0] w fun e w' => e = .returned (.tuple #[.slice none 0 0, .int .i64 0]) ∧ Below w.heap.size w w' := by
  have HW := fun w' hb' => wrong_any v n L f w' (h.below (w' := w') hb')
  have HR := fun w => codeRows_any n 0 w h1 h2 (by omega)
  obtain ⟨A, cap, R, C, rfl, _⟩ := h.lies
  rw [hx] at HW
  clear h hx
  go_enter Tryz.func83, Tryz.ntmps83
  go_wp2_with fail
  refine (HR _).mono ?_
  rintro e w1 ⟨g, cp, rfl, _, _, b1⟩
  go_wp2_with fail
  refine (HW _ b1).mono ?_
  rintro e w2 ⟨rfl, b2⟩
  go_wp2_with fail
  go_ret2
  exact ⟨rfl, bt b1 b2⟩

set_option maxHeartbeats 400000 in
theorem spare_own (v : Value) (n s c : Nat) (f : Nat → Nat → Nat) (w : World) (h : Mx w v n c f) (h2 : n ≤ 8) (h3 : 1 ≤ s) (h4 : s ≤ 4) :
    Calls Tryz.prog 83 #[v, .int .i64 (s : Int)] w fun e w' => ∃ b G, e = .returned (.tuple #[.slice (some ⟨b, 0, none⟩) s s, .int .i64 0]) ∧ Own w' w.heap.size b s c G (Gf.mm n (spareF n) f) ∧ Below w.heap.size w w' := by
  obtain ⟨d1, d2, d3, d4⟩ := h.dim
  have HW := fun w' hb' => wrong_any v n _ f w' (h.below (w' := w') hb').arg
  have HR := fun w => codeRows_any n s w d1 h2 h4
  rw [h.ok] at HW
  have HM := fun w' hb' => h.below (w' := w') hb'
  obtain ⟨bb, ob, pb, Gb, Ob, Kb, rfl, _⟩ := h.lies
  have hs0 : ((s : Int) == 0) = false := by rw [beq_eq_false_iff_ne]; omega
  clear h
  go_enter Tryz.func83, Tryz.ntmps83
  go_wp2_with fail
  refine (HR _).mono ?_
  rintro e w1 ⟨g, cp, rfl, hcp, ⟨G, K, hm⟩, b1⟩
  go_wp2_with fail
  refine (HW _ b1).mono ?_
  rintro e w2 ⟨rfl, b2⟩
  have hm := (hm.below b2).spare
  have b2 := bt b1 b2
  have hcn : ¬ cp = n := by omega
  have hle : (n : Int) ≤ ((n + s : Nat) : Int) := by omega
  have hmx : Mx w2 (.slice (some ⟨g, n, none⟩) s (cp - n)) s n (spareF n) := ⟨spareF_bd n, ⟨h3, by omega, d1, by omega⟩, g, n, cp - n, _, _, _, rfl, hm⟩
  clear HR HW hm b1
  go_wp2_with fail
  refine (mulM_own _ _ s n n c (spareF n) f _ hmx (HM _ b2) rfl).mono ?_
  rintro e w3 ⟨b, G3, rfl, ho, b3⟩
  go_wp2_with fail
  go_ret2
  exact ⟨b, G3, rfl, ho.lower b2.size, bt b2 b3⟩

theorem spare_none' (v : Value) (n s : Nat) (L : Nat → Nat) (f : Nat → Nat → Nat) (w : World) (h : Arg w v n L f) (h1 : 1 ≤ n) (h2 : n ≤ 8) (hx : wrongE n L = 0) (hs : s = 0) :
    Calls Tryz.prog 83 #[v, .int .i64 (s : Int)] w fun e w' => e = .returned (.tuple #[.slice none 0 0, .int .i64 0]) ∧ Below w.heap.size w w' := by
  subst hs
  exact spare_none v n L f w h h1 h2 hx

end Go.Proofs.YtleekmmoanlpfaaGreat

namespace Go.Proofs.YtleekmmoanlpfaaGreat
open Go.RowKit

/-- A list with no room behind it, and one that is appended. -/
theorem app_two (W : World) (t tx : TypeId) (ht : Tryz.prog.underlying t = some (.slice 97)) (htx : Tryz.prog.underlying tx = some (.slice 97)) (b o n p : Nat) (F : Nat → Value) (b' o' m p' : Nat) (F' : Nat → Value)
    (hF : ∀ r, r < n → W.cell? ⟨b, o + r, none⟩ = some (F r)) (hF' : ∀ r, r < m → W.cell? ⟨b', o' + r, none⟩ = some (F' r)) (h1 : ∀ r, r < m → (F' r).oneCell' = true) (hp : p < n + m) (hn : n + m ≤ 1000) :
    ∃ (C : Array Value) (q : Nat), n + m ≤ q ∧ (∀ r, r < n → C[r]? = some (F r)) ∧ (∀ r, r < m → C[n + r]? = some (F' r)) ∧
      ∀ ty, (Builtin.append_ #[t, tx] ty #[.slice (some ⟨b, o, none⟩) n p, .slice (some ⟨b', o', none⟩) m p']).run Tryz.prog W = .ok (.slice (some ⟨W.heap.size, 0, none⟩) (n + m) q) (W.drew.alloc (.cells C 97)) := by
  obtain ⟨i, hi, hh⟩ := Option.map_eq_some_iff.1 Tryz.infoRow
  simp only [Prod.mk.injEq] at hh
  obtain ⟨hz, hs, hb⟩ := hh
  have hsrc : Src Tryz.prog i.size tx (.slice (some ⟨b', o', none⟩) m p') m ((List.range m).map F') W := by
    refine Src.ofSlice W htx _ m p' _ (by simp [hs]) (fun j u hj => ?_) (fun u hu => ?_)
    · rcases Nat.lt_or_ge j m with h | h
      · simp [h] at hj
        rw [WideShapes.add_plain, hF' j h, ← hj]
      · simp [List.getElem?_eq_none (show ((List.range m).map F').length ≤ j by simpa using h)] at hj
    · obtain ⟨r, hr, rfl⟩ := List.mem_map.1 hu
      exact h1 r (List.mem_range.1 hr)
  have hold : (Builtin.firstCells i.size n (.slice (some ⟨b, o, none⟩) n p)).run Tryz.prog W.drew = .ok ((List.range n).map F).toArray W.drew :=
    run_firstCells_some W.drew i.size n ⟨b, o, none⟩ n p ((List.range n).map F) (by simp [hs]) (fun j u hj => by
      rcases Nat.lt_or_ge j n with h | h
      · simp [h] at hj
        rw [WideShapes.add_plain, show W.drew.cell? ⟨b, o + j, none⟩ = W.cell? ⟨b, o + j, none⟩ from rfl, hF j h, ← hj]
      · simp [List.getElem?_eq_none (show ((List.range n).map F).length ≤ j by simpa using h)] at hj)
  have hfit := growslice_fits (need := n + m) (old := p) (bytes := i.bytes) (by omega) (by rw [hb]; omega)
  have hrun := fun ty => run_append_grow_src (P := Tryz.prog) W t tx ty 97 i (.slice none 0 0) ht hi hz (some ⟨b, o, none⟩) n p ((List.range n).map F) hold _ m _ hsrc hp (by omega) (by omega)
  refine ⟨_, _, grownCap_ge W (n + m) p 97, fun r hr => ?_, fun r hr => ?_, hrun⟩
  · rw [Array.getElem?_append_left (by simp; omega)]
    simp [List.getElem?_append_left, hr]
  · rw [Array.getElem?_append_left (by simp; omega)]
    simp [hr]

/-- Nothing appended. -/
theorem app_nil (W : World) (t tx : TypeId) (ht : Tryz.prog.underlying t = some (.slice 97)) (htx : Tryz.prog.underlying tx = some (.slice 97)) (b o n p : Nat) (hp : n ≤ p) (ty : TypeId) :
    (Builtin.append_ #[t, tx] ty #[.slice (some ⟨b, o, none⟩) n p, .slice none 0 0]).run Tryz.prog W = .ok (.slice (some ⟨b, o, none⟩) n p) W := by
  obtain ⟨i, hi, hh⟩ := Option.map_eq_some_iff.1 Tryz.infoRow
  simp only [Prod.mk.injEq] at hh
  exact run_append_room_src (P := Tryz.prog) W t tx ty 97 i ht hi b o n p _ 0 [] (Src.ofNil W htx 0) (by omega) (fun j hj => by cases hj) (fun j hj => by cases hj)

end Go.Proofs.YtleekmmoanlpfaaGreat

namespace Go.Proofs.YtleekmmoanlpfaaGreat
open Go.RowKit

/-- The number of the shard that is there, p others ahead of it. -/
def thr (L : Nat → Nat) (N p : Nat) : Nat := (there L N).getD p 0
theorem thr_mem {L : Nat → Nat} {N p : Nat} (h : p < (there L N).length) : thr L N p < N ∧ 0 < L (thr L N p) := by
  refine there_mem.1 ?_
  unfold thr
  simp [List.getD, h]
theorem thr_inj {L : Nat → Nat} {N p q : Nat} (hp : p < (there L N).length) (hq : q < (there L N).length) (hne : p ≠ q) : thr L N p ≠ thr L N q := fun e => by
  unfold thr at e
  simp only [List.getD, List.getElem?_eq_getElem hp, List.getElem?_eq_getElem hq, Option.getD_some] at e
  exact hne ((List.getElem_inj (there_nodup L N)).1 e)

/-- Whether the shards that are there have one length, and none is too long. -/
abbrev FormOk (L : Nat → Nat) (N : Nat) : Prop := L (thr L N 0) ≤ 400 ∧ ∀ p, p < (there L N).length → L (thr L N p) = L (thr L N 0)
/-- What code.Mend tells. -/
def mendE (d : Int) (N : Nat) (L : Nat → Nat) : Nat := if wrongC d ((N : Int) - d) ≠ 0 then 5 else if (there L N).length < d.toNat then 10 else if FormOk L N then 0 else 2

theorem Arg.take {w : World} {A : Option Addr} {m n cap cap' : Nat} {L : Nat → Nat} {f : Nat → Nat → Nat} (h : Arg w (.slice A m cap) m L f) (hn : n ≤ m) : Arg w (.slice A n cap') n L f := by
  obtain ⟨A', c, R, C, hv, hr⟩ := h.lies
  cases hv
  exact ⟨h.bd, A, cap', R, C, rfl, fun r hr' => hr r (by omega)⟩

set_option maxHeartbeats 400000 in
theorem mend_bad (v : Value) (N : Nat) (A : Option Addr) (cap : Nat) (hv : v = .slice A N cap) (d : Int) (w : World) (hN : N ≤ maxLen) (h : wrongC d ((N : Int) - d) ≠ 0) :
    Calls Tryz.prog 89 #[v, .int .i64 d] w fun e w' => e = .returned (.tuple #[.slice none 0 0, .int .i64 5]) ∧ Below w.heap.size w w' := by
  subst hv
  unfold maxLen at hN
  have H : Hid (∀ w, Calls Tryz.prog 101 #[.int .i64 d, .int .i64 (wrap64 ((N : Int) - d))] w fun e w' => e = .returned (.tuple #[.slice none 0 0, .int .i64 5]) ∧ Below w.heap.size w w') := fun w => by
    refine codeRows_bad d _ w ?_
    unfold wrongC at h
    split at h
    · rename_i hb
      unfold wrap64
      omega
    · exact absurd rfl h
  clear h hN
  go_enter Tryz.func89, Tryz.ntmps89
  go_wp2_with fail
  refine (H.out _).mono ?_
  rintro e w1 ⟨rfl, b1⟩
  go_wp2_with fail
  go_ret2
  exact ⟨rfl, b1⟩

set_option maxHeartbeats 1000000 in
theorem mend_lost (A : Option Addr) (cap n s : Nat) (L : Nat → Nat) (f : Nat → Nat → Nat) (w : World) (h : Arg w (.slice A (n + s) cap) (n + s) L f) (h1 : 1 ≤ n) (h2 : n ≤ 8) (h3 : s ≤ 4) (hl : (there L (n + s)).length < n) :
    Calls Tryz.prog 89 #[.slice A (n + s) cap, .int .i64 (n : Int)] w fun e w' => e = .returned (.tuple #[.slice none 0 0, .int .i64 10]) ∧ Below w.heap.size w w' := by
  have HR := fun w => codeRows_any n s w h1 h2 h3
  have hsub : (n : Int) + (s : Int) - (n : Int) = (s : Int) := by omega
  have hl' : ((there L (n + s)).length : Int) < (n : Int) := by omega
  go_enter Tryz.func89, Tryz.ntmps89
  go_wp2_with fail
  refine (HR _).mono ?_
  rintro e w1 ⟨g, cp, rfl, _, ⟨G, K, hm⟩, b1⟩
  have HT := thoseThere_any A cap (n + s) n L f g cp G (fun _ => 0) K (Gf.rowF n) w1 (h.below b1) (Gf.rowF_bd n) hm (by omega) (by omega)
  clear HR h
  go_wp2_with fail
  refine HT.mono ?_
  rintro e w2 ⟨v4, v5, rfl, a4, a5, c4, c5, b2⟩
  obtain ⟨A4, p4, R4, C4, rfl, _⟩ := a4.lies
  obtain ⟨A5, p5, R5, C5, rfl, _⟩ := a5.lies
  clear HT a4 a5
  go_wp2_with fail
  go_ret2
  exact ⟨rfl, bt b1 b2⟩

set_option maxHeartbeats 1000000 in
theorem mend_form (A : Option Addr) (cap n s : Nat) (L : Nat → Nat) (f : Nat → Nat → Nat) (w : World) (h : Arg w (.slice A (n + s) cap) (n + s) L f) (h1 : 1 ≤ n) (h2 : n ≤ 8) (h3 : s ≤ 4) (hl : n ≤ (there L (n + s)).length) (hf : ¬ FormOk L (n + s)) :
    Calls Tryz.prog 89 #[.slice A (n + s) cap, .int .i64 (n : Int)] w fun e w' => e = .returned (.tuple #[.slice none 0 0, .int .i64 2]) ∧ Below w.heap.size w w' := by
  have HR := fun w => codeRows_any n s w h1 h2 h3
  have hsub : (n : Int) + (s : Int) - (n : Int) = (s : Int) := by omega
  have hl' : ¬ ((there L (n + s)).length : Int) < (n : Int) := by omega
  have hlen := there_len L (n + s)
  have HF : Hid (¬ FormOk L (n + s)) := hf
  clear hf
  go_enter Tryz.func89, Tryz.ntmps89
  go_wp2_with fail
  refine (HR _).mono ?_
  rintro e w1 ⟨g, cp, rfl, _, ⟨G, K, hm⟩, b1⟩
  have HT := thoseThere_any A cap (n + s) n L f g cp G (fun _ => 0) K (Gf.rowF n) w1 (h.below b1) (Gf.rowF_bd n) hm (by omega) (by omega)
  clear HR h
  go_wp2_with fail
  refine HT.mono ?_
  rintro e w2 ⟨v4, v5, rfl, a4, a5, c4, c5, b2⟩
  have hWF := wellFormed_any v4 _ _ _ w2 a4 (by omega) (by omega)
  obtain ⟨A4, p4, R4, C4, rfl, _⟩ := a4.lies
  obtain ⟨A5, p5, R5, C5, rfl, _⟩ := a5.lies
  have b2 := bt b1 b2
  clear HT a4 a5
  go_wp2_with fail
  refine hWF.mono ?_
  rintro e w3 ⟨y, rfl, hy, b3⟩
  cases y with
  | true => exact absurd (hy.1 rfl) HF.out
  | false =>
    clear hy hWF
    go_wp2_with fail
    go_ret2
    exact ⟨rfl, bt b2 b3⟩

/-- All shards, of data. -/
theorem allF_data {n : Nat} {D : Nat → Nat → Nat} (hD : Gf.Bd2 D) {i : Nat} (hi : i < n) (k : Nat) : Gf.mm n (Gf.rowF n) D i k = D i k := by
  rw [show Gf.mm n (Gf.rowF n) D i k = Gf.mm n Gf.one D i k from Gf.mm_congr (fun l _ => Gf.rowF_one hi l) (fun _ _ => rfl), Gf.one_mm hD k hi]

set_option maxHeartbeats 2000000 in
theorem mend_ok (A : Option Addr) (cap n s : Nat) (L : Nat → Nat) (f : Nat → Nat → Nat) (w : World) (h : Arg w (.slice A (n + s) cap) (n + s) L f) (h1 : 1 ≤ n) (h2 : n ≤ 8) (h3 : s ≤ 4) (hl : n ≤ (there L (n + s)).length) (hf : FormOk L (n + s)) :
    Calls Tryz.prog 89 #[.slice A (n + s) cap, .int .i64 (n : Int)] w fun e w' => ∃ v r, e = .returned (.tuple #[v, .int .i64 0]) ∧ Cap v ∧ Gf.Bd2 r ∧ Gf.Und n (fun p => Gf.rowF n (thr L (n + s) p)) r ∧
      Mx w' v (n + s) (L (thr L (n + s) 0)) (Gf.mm n (Gf.rowF n) (Gf.mm n r (fun p => f (thr L (n + s) p)))) ∧ Below w.heap.size w w' := by
  have HR := fun w => codeRows_any n s w h1 h2 h3
  have hsub : (n : Int) + (s : Int) - (n : Int) = (s : Int) := by omega
  have hl' : ¬ ((there L (n + s)).length : Int) < (n : Int) := by omega
  have hlen := there_len L (n + s)
  have HF : Hid (FormOk L (n + s)) := hf
  clear hf
  have hNS : Hid (∀ w v, Arg w v n (fun _ => n) (fun p => Gf.rowF n (thr L (n + s) p)) → Calls Tryz.prog 109 #[v] w fun e w' => ∃ v' r, e = .returned (.tuple #[v', .int .i64 0]) ∧ Mx w' v' n n r ∧ Gf.Und n (fun p => Gf.rowF n (thr L (n + s) p)) r ∧ Below w.heap.size w w') := fun w v ha => by
    have mx := ha.mx (wrongE_ok h1 (by omega) h1 (by omega) (fun _ _ => rfl))
    refine (undo_any v n _ w mx).mono fun e w' ⟨hh, hb⟩ => ?_
    rcases hh with ⟨v', r, q1, q2, q3⟩ | ⟨_, hs⟩
    · exact ⟨v', r, q1, q2, q3, hb⟩
    · exact (Gf.rows_not_sing (by omega) (fun p hp => by have := (thr_mem (show p < (there L (n + s)).length by omega)).1; omega) (fun p q hp hq hne => thr_inj (by omega) (by omega) hne) hs).elim
  go_enter Tryz.func89, Tryz.ntmps89
  go_wp2_with fail
  refine (HR _).mono ?_
  rintro e w1 ⟨g, cp, rfl, _, ⟨G, K, hm⟩, b1⟩
  have HT := thoseThere_any A cap (n + s) n L f g cp G (fun _ => 0) K (Gf.rowF n) w1 (h.below b1) (Gf.rowF_bd n) hm (by omega) (by omega)
  clear HR h hm
  go_wp2_with fail
  refine HT.mono ?_
  rintro e w2 ⟨v4, v5, rfl, a4, a5, c4, c5, b2⟩
  have hWF := wellFormed_any v4 _ _ _ w2 a4 (by omega) (by omega)
  have b2 := bt b1 b2
  obtain ⟨A4, p4, R4, C4, hv4, hr4⟩ := a4.lies
  subst hv4
  obtain ⟨A5, p5, R5, C5, hv5, hr5⟩ := a5.lies
  subst hv5
  obtain ⟨b4, o4, rfl, _, _⟩ := hr4 0 (by omega)
  obtain ⟨b5, o5, rfl, _, _⟩ := hr5 0 (by omega)
  obtain ⟨_, _, _, hc4, k4⟩ := c4
  cases hc4
  obtain ⟨_, _, _, hc5, k5⟩ := c5
  cases hc5
  have t4 := a4.take (n := n) (cap' := p4) hl
  have t5 := a5.take (n := n) (cap' := p5) hl
  have f4 : (n : Int) ≤ (p4 : Int) := by omega
  have f5 : (n : Int) ≤ (p5 : Int) := by omega
  clear HT a4 a5 hr4 hr5 b1
  go_wp2_with fail
  refine hWF.mono ?_
  rintro e w3 ⟨y, rfl, hy, b3⟩
  cases y with
  | false => exact absurd (hy.2 HF.out) (by decide)
  | true =>
    have t4 := t4.below b3
    have t5 := t5.below b3
    have b3 := bt b2 b3
    clear hy hWF b2
    go_wp2_with fail
    refine (hNS.out _ _ t5).mono ?_
    rintro e w4 ⟨vU, r, rfl, mU, hU, b4'⟩
    have t4 := t4.below b4'
    have b4' := bt b3 b4'
    have hF := HF.out
    have mT : Mx w4 (.slice (some ⟨b4, o4, none⟩) n p4) n (L (thr L (n + s) 0)) (fun p => f (thr L (n + s) p)) := t4.mx (wrongE_ok h1 (by omega) (thr_mem (show 0 < (there L (n + s)).length by omega)).2 hF.1 (fun p hp => hF.2 p (by omega)))
    have rU := mU.bd
    have HU : Hid (Gf.Und n (fun p => Gf.rowF n (thr L (n + s) p)) r) := hU
    have hMul := mulM_own vU _ n n n _ r _ w4 mU mT rfl
    have bdA : Gf.Bd2 (Gf.mm n r (fun p => f (thr L (n + s) p))) := Gf.mm_bd rU n _
    have dim := mT.dim
    clear t4 t5 b3 hU mU mT hF
    generalize hall : Gf.mm n r (fun p => f (thr L (n + s) p)) = all at hMul bdA
    generalize hcc : L (thr L (n + s) 0) = c at hMul dim
    have HALL : Hid (Gf.mm n r (fun p => f (thr L (n + s) p)) = all) := hall
    have HCC : Hid (L (thr L (n + s) 0) = c) := hcc
    obtain ⟨_, d2, d3, d4⟩ := dim
    clear hall hcc
    go_wp2_with fail
    refine hMul.mono ?_
    rintro e w5 ⟨bA, G5, rfl, hoA, b5'⟩
    have b5' := bt b4' b5'
    have mA := hoA.mx bdA ⟨h1, d2, d3, d4⟩
    clear hMul b4'
    go_wp2_with fail
    by_cases hs : s = 0
    · refine (spare_none' _ n s (fun _ => c) all w5 mA.arg h1 h2 mA.ok hs).mono ?_
      rintro e w6 ⟨rfl, b6⟩
      have hoA := hoA.below b6
      have b6 := bt b5' b6
      have HRES : Hid (Mx w6 (.slice (some ⟨bA, 0, none⟩) n n) (n + s) c (Gf.mm n (Gf.rowF n) all)) := ⟨Gf.mm_bd (Gf.rowF_bd n) n all, ⟨by omega, by omega, d3, d4⟩, bA, 0, n, G5, fun _ => 0, fun _ => c, by rw [hs]; rfl, fun i hi => hoA.mat.top i (by omega), fun i hi k hk => by
        rw [allF_data bdA (show i < n by omega)]
        exact hoA.mat.row i (by omega) k hk⟩
      have hrun := fun W ty => app_nil W 165 100 Tryz.underlying165 Tryz.underlying100 bA 0 n n (Nat.le_refl _) ty
      clear hoA mA hs
      go_wp2_with (at_builtin; refine Lib.wpList_append_run _ rfl (.tmp 70) (.tmp 71) 165 100 rfl _ _ rfl rfl _ _ (hrun _ _) ?_)
      go_wp2_with fail
      go_ret2
      exact ⟨_, r, rfl, ⟨_, _, _, rfl, Nat.le_refl _⟩, rU, HU.out, by rw [HALL.out, HCC.out]; exact HRES.out, b6⟩
    · refine (spare_own _ n s c all w5 mA h2 (by omega) h3).mono ?_
      rintro e w6 ⟨bS, G6, rfl, hoS, b6⟩
      have hoA := hoA.below b6
      have b6 := bt b5' b6
      obtain ⟨C, q, hq, hC1, hC2, hrun⟩ := app_two w6 165 100 Tryz.underlying165 Tryz.underlying100 bA 0 n n (fun i => .slice (some ⟨G5 i, 0, none⟩) c c) bS 0 s s (fun i => .slice (some ⟨G6 i, 0, none⟩) c c)
        (fun i hi => hoA.mat.top i hi) (fun i hi => hoS.mat.top i hi) (fun _ _ => rfl) (by omega) (by omega)
      have b7 : Below w6.heap.size w6 (w6.drew.alloc (.cells C 97)) := (Below.refl _ _).drew.alloc (Nat.le_refl _) _
      have oA7 := hoA.below b7
      have oS7 := hoS.below b7
      have hnew := World.rowIs_alloc w6.drew C 97 (fun i => C.getD i (.slice none 0 0)) (fun i hi => by simp [hi])
      have HRES : Hid (Mx (w6.drew.alloc (.cells C 97)) (.slice (some ⟨w6.heap.size, 0, none⟩) (n + s) q) (n + s) c (Gf.mm n (Gf.rowF n) all)) := by
        refine ⟨Gf.mm_bd (Gf.rowF_bd n) n all, ⟨by omega, by omega, d3, d4⟩, w6.heap.size, 0, q, fun i => if i < n then G5 i else G6 (i - n), fun _ => 0, fun _ => c, rfl, fun i hi => ?_, fun i hi k hk => ?_⟩
        · by_cases hin : i < n
          · have h8 := hC1 i hin
            obtain ⟨h9, h10⟩ := Array.getElem?_eq_some_iff.1 h8
            rw [Nat.zero_add, if_pos hin]
            refine (hnew.cell h9).trans ?_
            simp [h9, h10]
          · obtain ⟨j, rfl⟩ : ∃ j, i = n + j := ⟨i - n, by omega⟩
            have h8 := hC2 j (by omega)
            obtain ⟨h9, h10⟩ := Array.getElem?_eq_some_iff.1 h8
            rw [Nat.zero_add, if_neg hin, Nat.add_sub_cancel_left]
            refine (hnew.cell h9).trans ?_
            simp [h9, h10]
        · by_cases hin : i < n
          · rw [if_pos hin, allF_data bdA hin]
            exact oA7.mat.row i hin k hk
          · obtain ⟨j, rfl⟩ : ∃ j, i = n + j := ⟨i - n, by omega⟩
            rw [if_neg hin, Nat.add_sub_cancel_left]
            exact oS7.mat.row j (by omega) k hk
      have b7 := bt b6 b7
      clear hoA mA hoS hC1 hC2 oA7 oS7 hnew
      go_wp2_with (at_builtin; refine Lib.wpList_append_run _ rfl (.tmp 70) (.tmp 71) 165 100 rfl _ _ rfl rfl _ _ (hrun _) ?_)
      go_wp2_with fail
      go_ret2
      exact ⟨_, r, rfl, ⟨_, _, _, rfl, hq⟩, rU, HU.out, by rw [HALL.out, HCC.out]; exact HRES.out, b7⟩

/-- What code.Mend tells, whatever it is handed. -/
theorem mendO (v : Value) (N : Nat) (L : Nat → Nat) (f : Nat → Nat → Nat) (d : Int) (w : World) (h : Arg w v N L f) (hN : N ≤ maxLen) :
    Calls Tryz.prog 89 #[v, .int .i64 d] w fun e w' => ∃ v' r, e = .returned (.tuple #[v', .int .i64 (mendE d N L : Nat)]) ∧ Cap v' ∧ (mendE d N L = 0 → Gf.Bd2 r ∧ Gf.Und d.toNat (fun p => Gf.rowF d.toNat (thr L N p)) r) ∧
      Out w' (mendE d N L) v' N (L (thr L N 0)) (Gf.mm d.toNat (Gf.rowF d.toNat) (Gf.mm d.toNat r (fun p => f (thr L N p)))) ∧ Below w.heap.size w w' := by
  obtain ⟨A, cap, R, C, hv, _⟩ := h.lies
  subst hv
  by_cases hw : wrongC d ((N : Int) - d) ≠ 0
  · rw [show mendE d N L = 5 from if_pos hw]
    exact (mend_bad _ N A cap rfl d w hN hw).mono fun e w' ⟨h1, h2⟩ => ⟨_, f, h1, ⟨_, _, _, rfl, Nat.le_refl _⟩, fun h => absurd h (by decide), Or.inr ⟨Or.inl (by decide), rfl⟩, h2⟩
  · have hw' : ¬ (d < 1 ∨ 8 < d ∨ (N : Int) - d < 0 ∨ 4 < (N : Int) - d) := fun h => hw (by rw [wrongC_bad h]; decide)
    obtain ⟨n, rfl⟩ := Int.eq_ofNat_of_zero_le (show 0 ≤ d by omega)
    obtain ⟨s, rfl⟩ : ∃ s, N = n + s := ⟨N - n, by omega⟩
    by_cases hl : (there L (n + s)).length < n
    · rw [show mendE n (n + s) L = 10 from (if_neg hw).trans (if_pos hl)]
      exact (mend_lost A cap n s L f w h (by omega) (by omega) (by omega) hl).mono fun e w' ⟨h1, h2⟩ => ⟨_, f, h1, ⟨_, _, _, rfl, Nat.le_refl _⟩, fun h => absurd h (by decide), Or.inr ⟨Or.inl (by decide), rfl⟩, h2⟩
    · by_cases hf : FormOk L (n + s)
      · rw [show mendE n (n + s) L = 0 from (if_neg hw).trans ((if_neg hl).trans (if_pos hf))]
        exact (mend_ok A cap n s L f w h (by omega) (by omega) (by omega) (by omega) hf).mono fun e w' ⟨v', r, h1, h2, h3, h4, h5, h6⟩ => ⟨v', r, h1, h2, fun _ => ⟨h3, h4⟩, Or.inl ⟨rfl, h5⟩, h6⟩
      · rw [show mendE n (n + s) L = 2 from (if_neg hw).trans ((if_neg hl).trans (if_neg hf))]
        exact (mend_form A cap n s L f w h (by omega) (by omega) (by omega) (by omega) hf).mono fun e w' ⟨h1, h2⟩ => ⟨_, f, h1, ⟨_, _, _, rfl, Nat.le_refl _⟩, fun h => absurd h (by decide), Or.inr ⟨Or.inl (by decide), rfl⟩, h2⟩

/-- Shards that are those of D are mended to be so. -/
theorem mended {n N : Nat} {L : Nat → Nat} {f D r : Nat → Nat → Nat} (hD : Gf.Bd2 D) (hr : Gf.Bd2 r) (hu : Gf.Und n (fun p => Gf.rowF n (thr L N p)) r) {k : Nat} (h : ∀ p, p < n → f (thr L N p) k = Gf.mm n (Gf.rowF n) D (thr L N p) k) (i : Nat) :
    Gf.mm n (Gf.rowF n) (Gf.mm n r (fun p => f (thr L N p))) i k = Gf.mm n (Gf.rowF n) D i k := by
  refine Gf.mm_congr (fun _ _ => rfl) (fun j hj => ?_)
  have e := Gf.und_data (m := fun p => Gf.rowF n (thr L N p)) (fun p => Gf.rowF_bd n _) hr hD hu j k hj
  refine Eq.trans (Gf.mm_congr (fun _ _ => rfl) (fun p hp => ?_)) e
  exact h p hp

end Go.Proofs.YtleekmmoanlpfaaGreat

namespace Go.Proofs.YtleekmmoanlpfaaGreat
open Go.RowKit

theorem Byts.shape {w : World} {v : Value} {n : Nat} {f : Nat → Nat} (h : Byts w v n f) : ∃ A C, v = .slice A n C := by
  obtain ⟨_, A, C, hv, _⟩ := h
  exact ⟨A, C, hv⟩

/-- Bytes as a string. -/
def strB (f : Nat → Nat) (n : Nat) : ByteArray := strOfNums ((List.range n).map fun k => (f k : Int))
theorem conv_zero (w : World) (A : Option Addr) (cap : Nat) : (convert 97 9 (.slice A 0 cap)).run Tryz.prog w = .ok (.string ByteArray.empty) w := by
  rw [run_convert_bytes_string w 97 9 5 _ 0 cap Tryz.underlying97 Tryz.underlying5 Tryz.underlying9]
  cases A with
  | none => simp [Conv.bytesToString]
  | some x => simp [Conv.bytesToString, loadCells]; rfl
theorem conv_any {w : World} {v : Value} {n : Nat} {f : Nat → Nat} (h : Byts w v n f) : (convert 97 9 v).run Tryz.prog w = .ok (.string (strB f n)) w := by
  by_cases hn : 1 ≤ n
  · obtain ⟨b, o, cap, rfl, _, _, hc⟩ := h.some hn
    exact run_convert_bytes_arg (P := Tryz.prog) w 97 5 Tryz.underlying97 Tryz.underlying5 b o n cap ((List.range n).map fun j => (f j : Int)) (by simp) (fun i hi => by rw [bytes_getD _ _ _ hi]; exact hc i hi) 9 Tryz.underlying9
  · obtain rfl : n = 0 := by omega
    obtain ⟨A, cap, rfl⟩ := h.zero
    exact conv_zero w A cap

theorem cells_new (w : World) (c : Array Value) (t : TypeId) : ∀ j u, c.toList[j]? = some u → (w.alloc (.cells c t)).cell? ((⟨w.heap.size, 0, none⟩ : Addr).add j) = some u := fun j u hj => by
  have hj' : c[j]? = some u := by simpa using hj
  obtain ⟨hlt, he⟩ := Array.getElem?_eq_some_iff.1 hj'
  have hr := World.rowIs_alloc w c t (fun i => c.getD i (.slice none 0 0)) (fun i hi => by simp [hi])
  rw [WideShapes.add_plain, Nat.zero_add, hr.cell hlt]
  simp [Array.getD, hlt, he]

/-- The string of bytes. -/
def strL (t : List Nat) : ByteArray := strB (fun k => t.getD k 0) t.length
theorem flat_get {α β : Type} (f : α → List β) (m : Nat) : ∀ (l : List α), (∀ a, a ∈ l → (f a).length = m) → ∀ (i t : Nat), t < m → ∀ a, l[i]? = some a → (l.flatMap f)[i * m + t]? = (f a)[t]?
  | [], _, i, t, _, a, h => by cases h
  | x :: l, hm, 0, t, ht, a, h => by
    cases h
    rw [List.flatMap_cons, Nat.zero_mul, Nat.zero_add, List.getElem?_append_left (by rw [hm x List.mem_cons_self]; exact ht)]
  | x :: l, hm, i + 1, t, ht, a, h => by
    have hx := hm x List.mem_cons_self
    rw [List.flatMap_cons, List.getElem?_append_right (by rw [hx, Nat.succ_mul]; omega), hx, show (i + 1) * m + t - m = i * m + t by rw [Nat.succ_mul]; omega]
    exact flat_get f m l (fun a ha => hm a (List.mem_cons_of_mem _ ha)) i t ht a (by simpa using h)
theorem flat_len {α β : Type} (f : α → List β) (m : Nat) : ∀ (l : List α), (∀ a, a ∈ l → (f a).length = m) → (l.flatMap f).length = l.length * m
  | [], _ => by simp
  | x :: l, hm => by
    rw [List.flatMap_cons, List.length_append, hm x List.mem_cons_self, flat_len f m l (fun a ha => hm a (List.mem_cons_of_mem _ ha)), List.length_cons, Nat.succ_mul]
    omega
end Go.Proofs.YtleekmmoanlpfaaGreat

namespace Go.Proofs.YtleekmmoanlpfaaGreat
open Go.RowKit

theorem u32x (a b : Nat) (ha : a < 4294967296) (hb : b < 4294967296) : bits .xor .u32 (a : Int) (b : Int) = ((a ^^^ b : Nat) : Int) := u32_xor_nat a b ha hb
theorem half_even {c : Nat} (h : ¬ c % 2 = 1) : Crc.half c = c / 2 := by unfold Crc.half; rw [if_neg h, Nat.xor_zero]
theorem half_odd {c : Nat} (h : c % 2 = 1) : Crc.half c = c / 2 ^^^ 2197175160 := by unfold Crc.half; rw [if_pos h]; rfl

set_option maxHeartbeats 400000 in
theorem shifted_any (c : Nat) (w : World) (hc : c < 4294967296) :
    Calls Tryz.prog 139 #[.int .u32 (c : Int)] w fun e w' => e = .returned (.int .u32 (Crc.half c : Nat)) ∧ w' = w := by
  have h1 : bits .and .u32 (c : Int) 1 = ((c % 2 : Nat) : Int) := by
    rw [show (1 : Int) = ((1 : Nat) : Int) from rfl, u32_and_nat c 1 hc (by decide), nat_mask1]
  by_cases ho : c % 2 = 1
  · have h2 : bits .xor .u32 ((c : Int) / 2) 2197175160 = ((Crc.half c : Nat) : Int) := by
      rw [half_odd ho, ← u32x (c / 2) 2197175160 (by omega) (by decide)]
      rfl
    have h3 : (((c % 2 : Nat) : Int) == 1) = true := by rw [ho]; rfl
    generalize Crc.half c = y at h2
    generalize c % 2 = z at h1 h3
    clear ho
    go_enter Tryz.func139, Tryz.ntmps139
    go_wp2_with fail
    go_ret
    exact ⟨rfl, rfl⟩
  · have h2 : (Crc.half c : Int) = (c : Int) / 2 := by
      rw [half_even ho]
      rfl
    have h3 : (((c % 2 : Nat) : Int) == 1) = false := by rw [beq_eq_false_iff_ne]; omega
    have H : Hid ((Crc.half c : Int) = (c : Int) / 2) := h2
    generalize c % 2 = z at h1 h3
    clear ho h2
    go_enter Tryz.func139, Tryz.ntmps139
    go_wp2_with fail
    go_ret
    exact ⟨ret_int H.out.symm, rfl⟩

set_option maxHeartbeats 1000000 in
theorem sum_some (b o n cap : Nat) (f : Nat → Nat) (w : World) (hf : Bd f) (hn : n ≤ 9223372036854775807) (hc : ∀ i, i < n → w.cell? ⟨b, o + i, none⟩ = some (.int .u8 (f i : Nat))) :
    Calls Tryz.prog 114 #[.slice (some ⟨b, o, none⟩) n cap] w fun e w' => e = .returned (.int .u32 (Crc.sum f n : Nat)) ∧ w' = w := by
  go_enter Tryz.func114, Tryz.ntmps114
  go_wp2_with fail
  go_loop [3, 8] (fun c x => ∃ k : Nat, k ≤ n ∧ x = .int .i64 k ∧ c = .int .u32 (Crc.run f k : Nat)) (fun _ x => n - (intOf x).toNat)
  case atStart => exact ⟨0, Nat.zero_le _, rfl, rfl⟩
  case round =>
    obtain ⟨k, hk, rfl, rfl⟩ := hrel
    by_cases hlt : k < n
    · have hlt' : (k : Int) < (n : Int) := by omega
      have t := hc k hlt
      have hfk := hf k
      have hx := u32x (Crc.run f k) (f k) (Crc.run_lt hf k) (by omega)
      have hy : Crc.run f k ^^^ f k < 4294967296 := Crc.xor32 (Crc.run_lt hf k) (by omega)
      have HZ : Hid (Crc.run f (k + 1) = Crc.halves 8 (Crc.run f k ^^^ f k)) := rfl
      generalize Crc.run f k ^^^ f k = y at hx hy HZ
      clear hc
      go_wp2_with fail
      go_loop [3, 16] (fun c x => ∃ j : Nat, j ≤ 8 ∧ x = .int .i64 j ∧ c = .int .u32 (Crc.halves j y : Nat)) (fun _ x => 8 - (intOf x).toNat)
      case atStart => exact ⟨0, Nat.zero_le _, rfl, rfl⟩
      case round =>
        obtain ⟨j, hj, rfl, rfl⟩ := hrel
        by_cases hlj : j < 8
        · have hlj' : (j : Int) < 8 := by omega
          go_wp2_with fail
          refine (shifted_any _ _ (Crc.halves_lt hy j)).mono ?_
          rintro e w1 ⟨rfl, rfl⟩
          go_wp2_with fail
          exact ⟨⟨j + 1, by omega, by go_num, rfl⟩, by simp [intOf]; omega⟩
        · have e8 : j = 8 := by omega
          subst e8
          go_wp2_with fail
          exact ⟨⟨k + 1, by omega, by go_num, by rw [HZ.out]⟩, by simp [intOf]; omega⟩
    · have e8 : k = n := by omega
      subst e8
      clear hc
      go_wp2_with fail
      go_ret
      refine ⟨ret_int (?_ : bits .xor .u32 IntKind.u32.max (Crc.run f k : Nat) = _), rfl⟩
      rw [show IntKind.u32.max = ((4294967295 : Nat) : Int) by decide, u32x _ _ (by decide) (Crc.run_lt hf k), Nat.xor_comm]
      rfl

set_option maxHeartbeats 400000 in
theorem sum_none (A : Option Addr) (cap : Nat) (f : Nat → Nat) (w : World) :
    Calls Tryz.prog 114 #[.slice A 0 cap] w fun e w' => e = .returned (.int .u32 (Crc.sum f 0 : Nat)) ∧ w' = w := by
  go_enter Tryz.func114, Tryz.ntmps114
  go_wp2_with fail
  refine wp_loop_rounds 1 ?_
  rw [rounds_succ]
  go_wp2_with fail
  go_ret
  refine ⟨ret_int (?_ : bits .xor .u32 IntKind.u32.max 4294967295 = _), rfl⟩
  rw [show Crc.sum f 0 = 0 from Nat.xor_self 4294967295]
  decide

theorem sum_any (v : Value) (n : Nat) (f : Nat → Nat) (w : World) (h : Byts w v n f) :
    Calls Tryz.prog 114 #[v] w fun e w' => e = .returned (.int .u32 (Crc.sum f n : Nat)) ∧ w' = w := by
  by_cases hn : 1 ≤ n
  · obtain ⟨b, o, cap, rfl, _, _, hc⟩ := h.some hn
    exact sum_some b o n cap f w h.bd h.len hc
  · obtain rfl : n = 0 := by omega
    obtain ⟨A, cap, rfl⟩ := h.zero
    exact sum_none A cap f w

end Go.Proofs.YtleekmmoanlpfaaGreat

namespace Go.Proofs.YtleekmmoanlpfaaGreat
open Go.RowKit

set_option maxHeartbeats 400000 in
theorem wrong_blk (s h z : Int) (A : Option Addr) (n cap : Nat) (w : World) :
    Calls Tryz.prog 118 #[.agg #[.int .i64 s, .int .i64 h, .int .i64 z, .slice A n cap]] w fun e w' => e = .returned (.int .i64 (Crc.wrongB s h z n : Nat)) ∧ Below w.heap.size w w' := by
  by_cases c0 : s < 0
  · have H : Hid (Crc.wrongB s h z n = 3) := Crc.wrongB_range (by omega)
    go_enter Tryz.func118, Tryz.ntmps118
    go_wp2_with fail
    go_ret
    exact ⟨ret_int (by rw [H.out]; rfl), (Below.refl _ _).alloc (Nat.le_refl _) _⟩
  by_cases c1 : 39 < s
  · have H : Hid (Crc.wrongB s h z n = 3) := Crc.wrongB_range (by omega)
    go_enter Tryz.func118, Tryz.ntmps118
    go_wp2_with fail
    go_ret
    exact ⟨ret_int (by rw [H.out]; rfl), (Below.refl _ _).alloc (Nat.le_refl _) _⟩
  by_cases c2 : h < 0
  · have H : Hid (Crc.wrongB s h z n = 3) := Crc.wrongB_range (by omega)
    go_enter Tryz.func118, Tryz.ntmps118
    go_wp2_with fail
    go_ret
    exact ⟨ret_int (by rw [H.out]; rfl), (Below.refl _ _).alloc (Nat.le_refl _) _⟩
  by_cases c3 : 11 < h
  · have H : Hid (Crc.wrongB s h z n = 3) := Crc.wrongB_range (by omega)
    go_enter Tryz.func118, Tryz.ntmps118
    go_wp2_with fail
    go_ret
    exact ⟨ret_int (by rw [H.out]; rfl), (Below.refl _ _).alloc (Nat.le_refl _) _⟩
  by_cases c4 : z < 0
  · have H : Hid (Crc.wrongB s h z n = 3) := Crc.wrongB_range (by omega)
    go_enter Tryz.func118, Tryz.ntmps118
    go_wp2_with fail
    go_ret
    exact ⟨ret_int (by rw [H.out]; rfl), (Below.refl _ _).alloc (Nat.le_refl _) _⟩
  by_cases c5 : 3200 < z
  · have H : Hid (Crc.wrongB s h z n = 3) := Crc.wrongB_range (by omega)
    go_enter Tryz.func118, Tryz.ntmps118
    go_wp2_with fail
    go_ret
    exact ⟨ret_int (by rw [H.out]; rfl), (Below.refl _ _).alloc (Nat.le_refl _) _⟩
  by_cases c6 : n < 1
  · have H : Hid (Crc.wrongB s h z n = 5) := Crc.wrongB_many (by omega) (by omega)
    have c6' : n = 0 := by omega
    subst c6'
    go_enter Tryz.func118, Tryz.ntmps118
    go_wp2_with fail
    go_ret
    exact ⟨ret_int (by rw [H.out]; rfl), (Below.refl _ _).alloc (Nat.le_refl _) _⟩
  by_cases c7 : 400 < n
  · have H : Hid (Crc.wrongB s h z n = 5) := Crc.wrongB_many (by omega) (by omega)
    have c7' : (400 : Int) < (n : Int) := by omega
    have c8' : ¬ (n : Int) < 1 := by omega
    have c9' : ((n : Int) == 0) = false := by rw [beq_eq_false_iff_ne]; omega
    go_enter Tryz.func118, Tryz.ntmps118
    go_wp2_with fail
    go_ret
    exact ⟨ret_int (by rw [H.out]; rfl), (Below.refl _ _).alloc (Nat.le_refl _) _⟩
  have H : Hid (Crc.wrongB s h z n = 0) := Crc.wrongB_ok (by omega) (by omega)
  have c7' : ¬ (400 : Int) < (n : Int) := by omega
  have c8' : ¬ (n : Int) < 1 := by omega
  have c9' : ((n : Int) == 0) = false := by rw [beq_eq_false_iff_ne]; omega
  go_enter Tryz.func118, Tryz.ntmps118
  go_wp2_with fail
  go_ret
  exact ⟨ret_int (by rw [H.out]; rfl), (Below.refl _ _).alloc (Nat.le_refl _) _⟩

end Go.Proofs.YtleekmmoanlpfaaGreat
