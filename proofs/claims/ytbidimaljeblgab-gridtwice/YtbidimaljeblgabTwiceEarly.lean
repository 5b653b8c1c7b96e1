/-
  What the statement on rows that stand twice answers where it asks nothing.
-/
import Derived.Test.YtbidimaljeblgabApp
import Derived.Test.YtbidimaljeblgabAlive
namespace Go.Proofs.Ytbidimaljeblgab.gridTwice
open Go.RowKit

set_option maxHeartbeats 2000000 in
/-- What is answered wherever the statement asks nothing. -/
theorem early (w : World) (A : Option Addr) (p n0 : Nat) (L0 : Nat → Nat) (f0 : Nat → Nat → Nat) (g0 : Arg w (.slice A n0 p) n0 L0 f0) (i j : Int)
    (h : wrongE n0 L0 ≠ 0 ∨ L0 0 ≠ n0 ∨ i < 0 ∨ j < 0 ∨ (n0 : Int) ≤ i ∨ (n0 : Int) ≤ j ∨ i = j) :
    Calls Try.prog 5 #[.slice A n0 p, .int .i64 i, .int .i64 j] w fun e w' => e = .returned (.bool true) ∧ Below w.heap.size w w' := by
  by_cases h1 : wrongE n0 L0 = 0
  · have mx := g0.mx h1
    have hw := fun w' hb' => wrong_any _ n0 L0 f0 w' (g0.below (w' := w') hb')
    rw [h1] at hw
    obtain ⟨d1, d2, d3, d4⟩ := mx.dim
    obtain ⟨b, o, q, G, O, K, hv, hm⟩ := mx.lies
    cases hv
    have h0 : (0 : Int) < (n0 : Int) := by omega
    have hm' := fun u (hb : Below w.heap.size w u) => show u.cell? ⟨b, o, none⟩ = some (.slice (some ⟨G 0, O 0, none⟩) (L0 0) (K 0)) by simpa using (hm.below hb).top 0 (by omega)
    clear hm g0 mx
    generalize L0 0 = c at h hm' d3 d4
    by_cases h2 : c = n0
    · subst h2
      by_cases q0 : i < 0
      · clear h
        go_enter Try.func5, Try.ntmps5
        go_wp2_with fail
        refine (alive2_any _).mono ?_
        rintro e u1 ⟨rfl, b1⟩
        go_wp2_with fail
        refine (hw _ b1).mono ?_
        rintro e u2 ⟨rfl, b2⟩
        have b2 := bt b1 b2
        have ht := hm' _ b2
        clear hw hm'
        go_wp2_with fail
        go_ret
        exact ⟨rfl, b2⟩
      by_cases q1 : j < 0
      · clear h
        go_enter Try.func5, Try.ntmps5
        go_wp2_with fail
        refine (alive2_any _).mono ?_
        rintro e u1 ⟨rfl, b1⟩
        go_wp2_with fail
        refine (hw _ b1).mono ?_
        rintro e u2 ⟨rfl, b2⟩
        have b2 := bt b1 b2
        have ht := hm' _ b2
        clear hw hm'
        go_wp2_with fail
        go_ret
        exact ⟨rfl, b2⟩
      by_cases q2 : (c : Int) ≤ i
      · clear h
        go_enter Try.func5, Try.ntmps5
        go_wp2_with fail
        refine (alive2_any _).mono ?_
        rintro e u1 ⟨rfl, b1⟩
        go_wp2_with fail
        refine (hw _ b1).mono ?_
        rintro e u2 ⟨rfl, b2⟩
        have b2 := bt b1 b2
        have ht := hm' _ b2
        clear hw hm'
        go_wp2_with fail
        go_ret
        exact ⟨rfl, b2⟩
      by_cases q3 : (c : Int) ≤ j
      · clear h
        go_enter Try.func5, Try.ntmps5
        go_wp2_with fail
        refine (alive2_any _).mono ?_
        rintro e u1 ⟨rfl, b1⟩
        go_wp2_with fail
        refine (hw _ b1).mono ?_
        rintro e u2 ⟨rfl, b2⟩
        have b2 := bt b1 b2
        have ht := hm' _ b2
        clear hw hm'
        go_wp2_with fail
        go_ret
        exact ⟨rfl, b2⟩
      have qe : (i == j) = true := by rw [beq_iff_eq]; omega
      clear h
      go_enter Try.func5, Try.ntmps5
      go_wp2_with fail
      refine (alive2_any _).mono ?_
      rintro e u1 ⟨rfl, b1⟩
      go_wp2_with fail
      refine (hw _ b1).mono ?_
      rintro e u2 ⟨rfl, b2⟩
      have b2 := bt b1 b2
      have ht := hm' _ b2
      clear hw hm'
      go_wp2_with fail
      go_ret
      exact ⟨rfl, b2⟩
    · have qn : ((c : Int) != (n0 : Int)) = true := by rw [bne_iff_ne]; omega
      clear h
      go_enter Try.func5, Try.ntmps5
      go_wp2_with fail
      refine (alive2_any _).mono ?_
      rintro e u1 ⟨rfl, b1⟩
      go_wp2_with fail
      refine (hw _ b1).mono ?_
      rintro e u2 ⟨rfl, b2⟩
      have b2 := bt b1 b2
      have ht := hm' _ b2
      clear hw hm'
      go_wp2_with fail
      go_ret
      exact ⟨rfl, b2⟩
  · have hw := fun w' hb' => wrong_any _ n0 L0 f0 w' (g0.below (w' := w') hb')
    generalize wrongE n0 L0 = x at hw h1
    have hx : ((x : Int) == 0) = false := by rw [beq_eq_false_iff_ne]; omega
    have hxn : ((x : Int) != 0) = true := by rw [bne, hx]; rfl
    clear h g0 h1
    go_enter Try.func5, Try.ntmps5
    go_wp2_with fail
    refine (alive2_any _).mono ?_
    rintro e u1 ⟨rfl, b1⟩
    go_wp2_with fail
    refine (hw _ b1).mono ?_
    rintro e u2 ⟨rfl, b2⟩
    have b2 := bt b1 b2
    clear hw
    go_wp2_with fail
    go_ret
    exact ⟨rfl, b2⟩

end Go.Proofs.Ytbidimaljeblgab.gridTwice
