/-
  What code.Spare does, call by call.
-/
import Derived.Test.YtmlboaejkmffjadCThere
import Derived.Test.YtmlboaejkmffjadOut
namespace Go.Proofs.Ytmlboaejkmffjad
open Go.RowKit

/-- What code.Spare tells. -/
def spareE (n : Nat) (L : Nat → Nat) (s : Int) : Nat := if wrongC n s ≠ 0 then 5 else wrongE n L
/-- Rows of spare shards. -/
def spareF (n i : Nat) : Nat → Nat := Gf.rowF n (n + i)
theorem spareF_bd (n : Nat) : Gf.Bd2 (spareF n) := fun i => Gf.rowF_bd n (n + i)

theorem MatAt.spare {w : World} {g n s : Nat} {G K : Nat → Nat} (h : MatAt w g 0 (n + s) n G (fun _ => 0) K (Gf.rowF n)) : MatAt w g n s n (fun r => G (n + r)) (fun _ => 0) (fun r => K (n + r)) (spareF n) :=
  ⟨fun r hr => by have := h.top (n + r) (by omega); rw [Nat.zero_add] at this; exact this, fun r hr k hk => h.row (n + r) (by omega) k hk⟩

set_option maxHeartbeats 400000 in
theorem spare_bad1 (v : Value) (n : Nat) (A : Option Addr) (cap : Nat) (hv : v = .slice A n cap) (s : Int) (w : World) (h : (n : Int) < 1 ∨ 8 < (n : Int) ∨ s < 0 ∨ 4 < s) :
    Calls Try.prog 43 #[v, .int .i64 s] w fun e w' => e = .returned (.tuple #[.slice none 0 0, .int .i64 5]) ∧ Below w.heap.size w w' := by
  subst hv
  have H := fun w => codeRows_bad n s w h
  clear h
  go_enter Try.func43, Try.ntmps43
  go_wp2_with fail
  refine (H _).mono ?_
  rintro e w1 ⟨rfl, b1⟩
  go_wp2_with fail
  go_ret2
  exact ⟨rfl, b1⟩

set_option maxHeartbeats 400000 in
theorem spare_bad2 (v : Value) (n s : Nat) (L : Nat → Nat) (f : Nat → Nat → Nat) (w : World) (h : Arg w v n L f) (h1 : 1 ≤ n) (h2 : n ≤ 8) (h3 : s ≤ 4) (hx : wrongE n L ≠ 0) :
    Calls Try.prog 43 #[v, .int .i64 (s : Int)] w fun e w' => e = .returned (.tuple #[.slice none 0 0, .int .i64 (wrongE n L : Nat)]) ∧ Below w.heap.size w w' := by
  have HW := fun w' hb' => wrong_any v n L f w' (h.below (w' := w') hb')
  have HR := fun w => codeRows_any n s w h1 h2 h3
  obtain ⟨A, cap, R, C, rfl, _⟩ := h.lies
  generalize wrongE n L = x at HW hx
  have hx' : ((x : Int) == 0) = false := by rw [beq_eq_false_iff_ne]; omega
  clear h hx
  go_enter Try.func43, Try.ntmps43
  go_wp2_with fail
  refine (HR _).mono ?_
  rintro e w1 ⟨g, cp, rfl, _, _, b1⟩
  go_wp2_with fail
  refine (HW _ b1).mono ?_
  rintro e w2 ⟨rfl, b2⟩
  go_wp2_with fail
  go_ret2
  exact ⟨rfl, bt b1 b2⟩

set_option maxHeartbeats 400000 in
theorem spare_none (v : Value) (n : Nat) (L : Nat → Nat) (f : Nat → Nat → Nat) (w : World) (h : Arg w v n L f) (h1 : 1 ≤ n) (h2 : n ≤ 8) (hx : wrongE n L = 0) :
    Calls Try.prog 43 #[v, .int .i64 0] w fun e w' => e = .returned (.tuple #[.slice none 0 0, .int .i64 0]) ∧ Below w.heap.size w w' := by
  have HW := fun w' hb' => wrong_any v n L f w' (h.below (w' := w') hb')
  have HR := fun w => codeRows_any n 0 w h1 h2 (by omega)
  obtain ⟨A, cap, R, C, rfl, _⟩ := h.lies
  rw [hx] at HW
  clear h hx
  go_enter Try.func43, Try.ntmps43
  go_wp2_with fail
  refine (HR _).mono ?_
  rintro e w1 ⟨g, cp, rfl, _, _, b1⟩
  go_wp2_with fail
  refine (HW _ b1).mono ?_
  rintro e w2 ⟨rfl, b2⟩
  go_wp2_with fail
  go_ret2
  exact ⟨rfl, bt b1 b2⟩

set_option maxHeartbeats 400000 in
theorem spare_own (v : Value) (n s c : Nat) (f : Nat → Nat → Nat) (w : World) (h : Mx w v n c f) (h2 : n ≤ 8) (h3 : 1 ≤ s) (h4 : s ≤ 4) :
    Calls Try.prog 43 #[v, .int .i64 (s : Int)] w fun e w' => ∃ b G, e = .returned (.tuple #[.slice (some ⟨b, 0, none⟩) s s, .int .i64 0]) ∧ Own w' w.heap.size b s c G (Gf.mm n (spareF n) f) ∧ Below w.heap.size w w' := by
  obtain ⟨d1, d2, d3, d4⟩ := h.dim
  have HW := fun w' hb' => wrong_any v n _ f w' (h.below (w' := w') hb').arg
  have HR := fun w => codeRows_any n s w d1 h2 h4
  rw [h.ok] at HW
  have HM := fun w' hb' => h.below (w' := w') hb'
  obtain ⟨bb, ob, pb, Gb, Ob, Kb, rfl, _⟩ := h.lies
  have hs0 : ((s : Int) == 0) = false := by rw [beq_eq_false_iff_ne]; omega
  clear h
  go_enter Try.func43, Try.ntmps43
  go_wp2_with fail
  refine (HR _).mono ?_
  rintro e w1 ⟨g, cp, rfl, hcp, ⟨G, K, hm⟩, b1⟩
  go_wp2_with fail
  refine (HW _ b1).mono ?_
  rintro e w2 ⟨rfl, b2⟩
  have hm := (hm.below b2).spare
  have b2 := bt b1 b2
  have hcn : ¬ cp = n := by omega
  have hle : (n : Int) ≤ ((n + s : Nat) : Int) := by omega
  have hmx : Mx w2 (.slice (some ⟨g, n, none⟩) s (cp - n)) s n (spareF n) := ⟨spareF_bd n, ⟨h3, by omega, d1, by omega⟩, g, n, cp - n, _, _, _, rfl, hm⟩
  clear HR HW hm b1
  go_wp2_with fail
  refine (mulM_own _ _ s n n c (spareF n) f _ hmx (HM _ b2) rfl).mono ?_
  rintro e w3 ⟨b, G3, rfl, ho, b3⟩
  go_wp2_with fail
  go_ret2
  exact ⟨b, G3, rfl, ho.lower b2.size, bt b2 b3⟩

theorem spare_none' (v : Value) (n s : Nat) (L : Nat → Nat) (f : Nat → Nat → Nat) (w : World) (h : Arg w v n L f) (h1 : 1 ≤ n) (h2 : n ≤ 8) (hx : wrongE n L = 0) (hs : s = 0) :
    Calls Try.prog 43 #[v, .int .i64 (s : Int)] w fun e w' => e = .returned (.tuple #[.slice none 0 0, .int .i64 0]) ∧ Below w.heap.size w w' := by
  subst hs
  exact spare_none v n L f w h h1 h2 hx

theorem spareO (v : Value) (n : Nat) (L : Nat → Nat) (f : Nat → Nat → Nat) (s : Int) (w : World) (h : Arg w v n L f) :
    Calls Try.prog 43 #[v, .int .i64 s] w fun e w' => ∃ v', e = .returned (.tuple #[v', .int .i64 (spareE n L s : Nat)]) ∧ Out w' (spareE n L s) v' s.toNat (L 0) (Gf.mm n (spareF n) f) ∧ Below w.heap.size w w' := by
  by_cases hc : (n : Int) < 1 ∨ 8 < (n : Int) ∨ s < 0 ∨ 4 < s
  · rw [show spareE n L s = 5 from if_pos (by rw [wrongC_bad hc]; decide)]
    obtain ⟨A, cap, R, C, hv, _⟩ := h.lies
    exact (spare_bad1 v n A cap hv s w hc).mono fun e w' ⟨h1, h2⟩ => ⟨_, h1, Or.inr ⟨Or.inl (by decide), rfl⟩, h2⟩
  · rw [show spareE n L s = wrongE n L from if_neg (by rw [wrongC_ok hc]; simp)]
    obtain ⟨m, rfl⟩ := Int.eq_ofNat_of_zero_le (show 0 ≤ s by omega)
    by_cases hw : wrongE n L = 0
    · rw [hw]
      rcases Nat.eq_zero_or_pos m with rfl | hm
      · exact (spare_none v n L f w h (by omega) (by omega) hw).mono fun e w' ⟨h1, h2⟩ => ⟨_, h1, Or.inr ⟨Or.inr rfl, rfl⟩, h2⟩
      · have mx := h.mx hw
        exact (spare_own v n m (L 0) f w mx (by omega) hm (by omega)).mono fun e w' ⟨b, G, h1, h2, h3⟩ =>
          ⟨_, h1, Or.inl ⟨rfl, h2.mx (Gf.mm_bd (spareF_bd n) n f) ⟨hm, by show m ≤ 12; omega, mx.dim.2.2.1, mx.dim.2.2.2⟩⟩, h3⟩
    · exact (spare_bad2 v n m L f w h (by omega) (by omega) (by omega) hw).mono fun e w' ⟨h1, h2⟩ => ⟨_, h1, Or.inr ⟨Or.inl hw, rfl⟩, h2⟩

end Go.Proofs.Ytmlboaejkmffjad
