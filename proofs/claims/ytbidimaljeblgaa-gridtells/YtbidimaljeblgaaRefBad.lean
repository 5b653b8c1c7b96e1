/-
  What the document's own answers for products and for what undoes a matrix tell where something is wrong.
-/
import Derived.Test.YtbidimaljeblgaaRefProd
namespace Go.Proofs.Ytbidimaljeblgaa
open Go.RowKit

set_option maxHeartbeats 1000000 in
theorem refMulM_bad1 (va vb : Value) (na nb : Nat) (La : Nat → Nat) (fa : Nat → Nat → Nat) (w : World) (ha : Arg w va na La fa) (A' : Option Addr) (pb : Nat) (hvb : vb = .slice A' nb pb) (hx : wrongE na La ≠ 0) :
    Calls Try.prog 22 #[va, vb] w fun e w' => e = .returned (.tuple #[.slice none 0 0, .int .i64 (wrongE na La : Nat)]) ∧ Below w.heap.size w w' := by
  have H1 := fun w' hb' => refWrong_any va na _ fa w' (ha.below (w' := w') hb')
  obtain ⟨A, pa, R, C, rfl, _⟩ := ha.lies
  subst hvb
  generalize wrongE na La = x at H1 hx
  have hx' : ((x : Int) == 0) = false := by rw [beq_eq_false_iff_ne]; omega
  clear ha hx
  go_enter Try.func22, Try.ntmps22
  go_wp2_with fail
  refine (H1 _ (Below.refl _ _)).mono ?_
  rintro e w1 ⟨rfl, b1⟩
  go_wp2_with fail
  go_ret2
  exact ⟨rfl, b1⟩

set_option maxHeartbeats 1000000 in
theorem refMulM_bad2 (va vb : Value) (na nb : Nat) (La Lb : Nat → Nat) (fa fb : Nat → Nat → Nat) (w : World) (ha : Arg w va na La fa) (hb : Arg w vb nb Lb fb) (h0 : wrongE na La = 0) (hx : wrongE nb Lb ≠ 0) :
    Calls Try.prog 22 #[va, vb] w fun e w' => e = .returned (.tuple #[.slice none 0 0, .int .i64 (wrongE nb Lb : Nat)]) ∧ Below w.heap.size w w' := by
  have H1 := fun w' hb' => refWrong_any va na _ fa w' (ha.below (w' := w') hb')
  have H2 := fun w' hb' => refWrong_any vb nb _ fb w' (hb.below (w' := w') hb')
  rw [h0] at H1
  obtain ⟨A, pa, R, C, rfl, _⟩ := ha.lies
  obtain ⟨A', pb, R', C', rfl, _⟩ := hb.lies
  generalize wrongE nb Lb = x at H2 hx
  have hx' : ((x : Int) == 0) = false := by rw [beq_eq_false_iff_ne]; omega
  clear ha hb hx h0
  go_enter Try.func22, Try.ntmps22
  go_wp2_with fail
  refine (H1 _ (Below.refl _ _)).mono ?_
  rintro e w1 ⟨rfl, b1⟩
  go_wp2_with fail
  refine (H2 _ b1).mono ?_
  rintro e w2 ⟨rfl, b2⟩
  go_wp2_with fail
  go_ret2
  exact ⟨rfl, bt b1 b2⟩

set_option maxHeartbeats 1000000 in
theorem refMulM_bad3 (va vb : Value) (na ca nb cb : Nat) (fa fb : Nat → Nat → Nat) (w : World) (ha : Mx w va na ca fa) (hb : Mx w vb nb cb fb) (hab : ca ≠ nb) :
    Calls Try.prog 22 #[va, vb] w fun e w' => e = .returned (.tuple #[.slice none 0 0, .int .i64 8]) ∧ Below w.heap.size w w' := by
  have oka := ha.ok
  have okb := hb.ok
  have H1 := fun w' hb' => refWrong_any va na _ fa w' (ha.below (w' := w') hb').arg
  have H2 := fun w' hb' => refWrong_any vb nb _ fb w' (hb.below (w' := w') hb').arg
  rw [oka] at H1
  rw [okb] at H2
  obtain ⟨d1, d2, d3, d4⟩ := ha.dim
  obtain ⟨ba, oa, pa, Ga, Oa, Ka, rfl, hma⟩ := ha.lies
  obtain ⟨bb, ob, pb, Gb, Ob, Kb, rfl, _⟩ := hb.lies
  have h0a : (0 : Int) < (na : Int) := by omega
  have hne : ((ca : Int) == (nb : Int)) = false := by rw [beq_eq_false_iff_ne]; omega
  clear oka okb ha hb hab
  go_enter Try.func22, Try.ntmps22
  go_wp2_with fail
  refine (H1 _ (Below.refl _ _)).mono ?_
  rintro e w1 ⟨rfl, b1⟩
  go_wp2_with fail
  refine (H2 _ b1).mono ?_
  rintro e w2 ⟨rfl, b2⟩
  have b2 := bt b1 b2
  have hta : w2.cell? ⟨ba, oa, none⟩ = some (.slice (some ⟨Ga 0, Oa 0, none⟩) ca (Ka 0)) := by simpa using (hma.below b2).top 0 (by omega)
  clear H1 H2 b1 hma
  go_wp2_with fail
  go_ret2
  exact ⟨rfl, b2⟩

theorem refMulM_bad (va vb : Value) (na nb : Nat) (La Lb : Nat → Nat) (fa fb : Nat → Nat → Nat) (w : World) (ha : Arg w va na La fa) (hb : Arg w vb nb Lb fb) (hx : mulE na La nb Lb ≠ 0) :
    Calls Try.prog 22 #[va, vb] w fun e w' => e = .returned (.tuple #[.slice none 0 0, .int .i64 (mulE na La nb Lb : Nat)]) ∧ Below w.heap.size w w' := by
  unfold mulE at hx ⊢
  by_cases h1 : wrongE na La ≠ 0
  · rw [if_pos h1] at hx ⊢
    obtain ⟨A', pb, _, _, hvb, _⟩ := hb.lies
    exact refMulM_bad1 va vb na nb La fa w ha A' pb hvb h1
  · rw [if_neg h1] at hx ⊢
    have h1' : wrongE na La = 0 := by omega
    by_cases h2 : wrongE nb Lb ≠ 0
    · rw [if_pos h2] at hx ⊢
      exact refMulM_bad2 va vb na nb La Lb fa fb w ha hb h1' h2
    · rw [if_neg h2] at hx ⊢
      have h2' : wrongE nb Lb = 0 := by omega
      by_cases h3 : La 0 ≠ nb
      · rw [if_pos h3]
        exact refMulM_bad3 va vb na (La 0) nb (Lb 0) fa fb w (ha.mx h1') (hb.mx h2') h3
      · rw [if_neg h3] at hx
        exact absurd rfl hx
theorem refMulM_good (va vb : Value) (na nb : Nat) (La Lb : Nat → Nat) (fa fb : Nat → Nat → Nat) (w : World) (ha : Arg w va na La fa) (hb : Arg w vb nb Lb fb) (h : mulE na La nb Lb = 0) :
    Calls Try.prog 22 #[va, vb] w fun e w' => ∃ v, e = .returned (.tuple #[v, .int .i64 0]) ∧ Mx w' v na (Lb 0) (Gf.mm nb fa fb) ∧ Below w.heap.size w w' := by
  obtain ⟨h1, h2, h3⟩ := mulE_zero h
  have := refMulM_ok va vb na (La 0) nb (Lb 0) fa fb w (ha.mx h1) (hb.mx h2) h3
  rw [h3] at this
  exact this

set_option maxRecDepth 100000 in
set_option maxHeartbeats 1000000 in
theorem refUndo_bad1 (v : Value) (n : Nat) (L : Nat → Nat) (f : Nat → Nat → Nat) (w : World) (h : Arg w v n L f) (hx : wrongE n L ≠ 0) :
    Calls Try.prog 24 #[v] w fun e w' => e = .returned (.tuple #[.slice none 0 0, .int .i64 (wrongE n L : Nat)]) ∧ Below w.heap.size w w' := by
  have H1 := fun w' hb' => refWrong_any v n _ f w' (h.below (w' := w') hb')
  obtain ⟨A, p, R, C, rfl, _⟩ := h.lies
  generalize wrongE n L = x at H1 hx
  have hx' : ((x : Int) == 0) = false := by rw [beq_eq_false_iff_ne]; omega
  clear h hx
  go_enter Try.func24, Try.ntmps24
  go_wp2_with fail
  refine (H1 _ (Below.refl _ _)).mono ?_
  rintro e w1 ⟨rfl, b1⟩
  go_wp2_with fail
  go_ret2
  exact ⟨rfl, b1⟩

set_option maxRecDepth 100000 in
set_option maxHeartbeats 1000000 in
theorem refUndo_bad2 (v : Value) (n c : Nat) (f : Nat → Nat → Nat) (w : World) (h : Mx w v n c f) (hx : c ≠ n) :
    Calls Try.prog 24 #[v] w fun e w' => e = .returned (.tuple #[.slice none 0 0, .int .i64 8]) ∧ Below w.heap.size w w' := by
  have ok := h.ok
  have H1 := fun w' hb' => refWrong_any v n _ f w' (h.below (w' := w') hb').arg
  rw [ok] at H1
  obtain ⟨d1, d2, d3, d4⟩ := h.dim
  obtain ⟨b, o, p, G, O, K, rfl, hm⟩ := h.lies
  have hne : ((c : Int) == (n : Int)) = false := by rw [beq_eq_false_iff_ne]; omega
  have h0 : (0 : Int) < (n : Int) := by omega
  clear h hx ok
  go_enter Try.func24, Try.ntmps24
  go_wp2_with fail
  refine (H1 _ (Below.refl _ _)).mono ?_
  rintro e w1 ⟨rfl, b1⟩
  have t1 : w1.cell? ⟨b, o, none⟩ = some (.slice (some ⟨G 0, O 0, none⟩) c (K 0)) := by simpa using (hm.below b1).top 0 (by omega)
  clear hm H1
  go_wp2_with fail
  go_ret2
  exact ⟨rfl, b1⟩

end Go.Proofs.Ytbidimaljeblgaa
