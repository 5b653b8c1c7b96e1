/-
  What grid.Mul does, call by call.
-/
import Derived.Test.YtmlboaejkmffjadProd
import Derived.Deep.RegionHeld3
namespace Go.Proofs.Ytmlboaejkmffjad
open Go.RowKit

theorem Try.enters_mulCell : ∀ args w, (callFunc 82 args).run Try.prog w = .ok (.enter 82 args) w := enters_of Try.func82 (by kernel_rfl) rfl

/-- A world with the variables of a call of Mul laid behind it. -/
def boxed3 (w : World) (x y : Value) : World := ((w.alloc (.cells #[x] 91)).alloc (.cells #[y] 91)).alloc (.cells #[x, y] 91)
theorem boxed3_below (w : World) (x y : Value) : Below w.heap.size w (boxed3 w x y) :=
  (((Below.refl _ _).alloc (Nat.le_refl _) _).alloc (by simp) _).alloc (by simp; omega) _
theorem boxed3_size (w : World) (x y : Value) : (boxed3 w x y).heap.size = w.heap.size + 3 := by
  unfold boxed3
  simp
theorem boxed3_cells (w : World) (x y : Value) : (boxed3 w x y).cell? ⟨w.heap.size, 0, none⟩ = some x ∧ (boxed3 w x y).cell? ⟨w.heap.size + 1, 0, none⟩ = some y ∧ (boxed3 w x y).cell? ⟨w.heap.size + 2, 0, none⟩ = some x ∧ (boxed3 w x y).cell? ⟨w.heap.size + 2, 1, none⟩ = some y := by
  unfold boxed3
  go_simp

/-- What Mul tells. -/
def mulE (na : Nat) (La : Nat → Nat) (nb : Nat) (Lb : Nat → Nat) : Nat := if wrongE na La ≠ 0 then wrongE na La else if wrongE nb Lb ≠ 0 then wrongE nb Lb else if La 0 ≠ nb then 8 else 0

set_option maxHeartbeats 1000000 in
theorem mulM_own (va vb : Value) (na ca nb cb : Nat) (fa fb : Nat → Nat → Nat) (w : World) (ha : Mx w va na ca fa) (hb : Mx w vb nb cb fb) (hab : ca = nb) :
    Calls Try.prog 62 #[va, vb] w fun e w' => ∃ b G, e = .returned (.tuple #[.slice (some ⟨b, 0, none⟩) na na, .int .i64 0]) ∧ Own w' w.heap.size b na cb G (Gf.mm ca fa fb) ∧ Below w.heap.size w w' := by
  have oka := ha.ok
  have okb := hb.ok
  have H1 := fun w' hb' => wrong_any va na _ fa w' (ha.below (w' := w') hb').arg
  have H2 := fun w' hb' => wrong_any vb nb _ fb w' (hb.below (w' := w') hb').arg
  rw [oka] at H1
  rw [okb] at H2
  obtain ⟨d1, d2, d3, d4⟩ := ha.dim
  obtain ⟨f1, f2, f3, f4⟩ := hb.dim
  obtain ⟨ba, oa, pa, Ga, Oa, Ka, rfl, hma⟩ := ha.lies
  obtain ⟨bb, ob, pb, Gb, Ob, Kb, rfl, hmb⟩ := hb.lies
  have hbda := ha.bd
  have hbdb := hb.bd
  subst hab
  have hbx := boxed3_below w (.slice (some ⟨ba, oa, none⟩) na pa) (.slice (some ⟨bb, ob, none⟩) ca pb)
  have hbc := boxed3_cells w (.slice (some ⟨ba, oa, none⟩) na pa) (.slice (some ⟨bb, ob, none⟩) ca pb)
  have h0a : (0 : Int) < (na : Int) := by omega
  have h0b : (0 : Int) < (ca : Int) := by omega
  have h0n : 0 < ca := by omega
  have h0m : ¬ ca = 0 := by omega
  clear oka okb ha hb
  go_enter Try.func62, Try.ntmps62
  go_wp2_with fail
  refine wp_loop_rounds 3 ?_
  rw [rounds_succ]
  go_wp2_with fail
  refine (H1 _ hbx).mono ?_
  rintro e w1 ⟨rfl, hb1⟩
  rw [boxed3_size] at hb1
  have k1 := (hb1.cell (p := ⟨w.heap.size, 0, none⟩) (by show w.heap.size < w.heap.size + 3; omega)).trans hbc.1
  have k2 := (hb1.cell (p := ⟨w.heap.size + 1, 0, none⟩) (by show w.heap.size + 1 < w.heap.size + 3; omega)).trans hbc.2.1
  have k3 := (hb1.cell (p := ⟨w.heap.size + 2, 1, none⟩) (by show w.heap.size + 2 < w.heap.size + 3; omega)).trans hbc.2.2.2
  have hbw1 : Below w.heap.size w w1 := hbx.trans (hb1.mono (by omega))
  have z1 : w.heap.size + 3 ≤ w1.heap.size := by have := hb1.size; rw [boxed3_size] at this; omega
  clear hbx hbc hb1
  go_wp2_with fail
  rw [rounds_succ]
  go_wp2_with fail
  refine (H2 _ hbw1).mono ?_
  rintro e w2 ⟨rfl, hb2⟩
  have k1 := (hb2.cell (p := ⟨w.heap.size, 0, none⟩) (by show w.heap.size < w1.heap.size; omega)).trans k1
  have k2 := (hb2.cell (p := ⟨w.heap.size + 1, 0, none⟩) (by show w.heap.size + 1 < w1.heap.size; omega)).trans k2
  have hbw2 : Below w.heap.size w w2 := hbw1.trans (hb2.mono hbw1.size)
  have z2 : w.heap.size + 3 ≤ w2.heap.size := Nat.le_trans z1 hb2.size
  clear hb2 k3 z1 hbw1 H1 H2
  go_wp2_with fail
  rw [rounds_succ]
  go_wp2_with fail
  have hma2 := hma.below hbw2
  have hmb2 := hmb.below hbw2
  have hta : w2.cell? ⟨ba, oa, none⟩ = some (.slice (some ⟨Ga 0, Oa 0, none⟩) ca (Ka 0)) := by simpa using hma2.top 0 (by omega)
  have htb : w2.cell? ⟨bb, ob, none⟩ = some (.slice (some ⟨Gb 0, Ob 0, none⟩) cb (Kb 0)) := by simpa using hmb2.top 0 (by omega)
  have hco : ∀ W0, Below w2.heap.size w2 W0 → CellOn 82 #[.pointer (some ⟨w.heap.size, 0, none⟩), .pointer (some ⟨w.heap.size + 1, 0, none⟩)] na cb (Gf.mm ca fa fb) W0 := by
    intro W0 hW0 i hi j hj W hW
    have hWW := hW0.trans (hW.mono hW0.size)
    exact mulCell_any i j w.heap.size (w.heap.size + 1) ba oa na pa ca bb ob ca pb cb Ga Oa Ka Gb Ob Kb fa fb W ((hWW.cell (p := ⟨w.heap.size, 0, none⟩) (by show w.heap.size < w2.heap.size; omega)).trans k1)
      ((hWW.cell (p := ⟨w.heap.size + 1, 0, none⟩) (by show w.heap.size + 1 < w2.heap.size; omega)).trans k2) (hma2.below hWW) (hmb2.below hWW) hbda hbdb rfl hi hj (by omega)
  have hfl := fun W0 hW0 => filled_any 82 na cb #[.pointer (some ⟨w.heap.size, 0, none⟩), .pointer (some ⟨w.heap.size + 1, 0, none⟩)] (Gf.mm ca fa fb) W0 Try.enters_mulCell (hco W0 hW0) (by omega) (by omega)
  clear hma hmb hma2 hmb2 hco
  go_region
  all_goals go_wp2_with fail
  go_region_held3 (fun w' => w'.cell? ⟨w.heap.size, 0, none⟩ = some (.slice (some ⟨ba, oa, none⟩) na pa) ∧ w'.cell? ⟨w.heap.size + 1, 0, none⟩ = some (.slice (some ⟨bb, ob, none⟩) ca pb) ∧ w'.cell? ⟨bb, ob, none⟩ = some (.slice (some ⟨Gb 0, Ob 0, none⟩) cb (Kb 0))) (first | exact ⟨k1, k2, htb⟩ | exact ⟨(hb3.cell (p := ⟨w.heap.size, 0, none⟩) (Nat.lt_of_lt_of_le (by omega : w.heap.size < w.heap.size + 3) z2)).trans k1, (hb3.cell (p := ⟨w.heap.size + 1, 0, none⟩) (Nat.lt_of_lt_of_le (by omega : w.heap.size + 1 < w.heap.size + 3) z2)).trans k2, (hb3.cell (p := ⟨bb, ob, none⟩) (World.block_lt_of_cell? _ _ htb)).trans htb⟩)
    (first | (go_at_call 81; refine (hfl _ ?_).mono ?_; exact ((Below.refl _ _).drew).drew; rintro e w3 ⟨rfl, ⟨G3, ho3⟩, hb3⟩))
  all_goals go_wp2_with fail
  all_goals go_ret2
  all_goals exact ⟨_, G3, rfl, ho3.lower hbw2.size, hbw2.trans (Below.mono (w := w2) ⟨hb3.os, hb3.tape, hb3.output, hb3.size, hb3.block⟩ hbw2.size)⟩
theorem mulM_ok (va vb : Value) (na ca nb cb : Nat) (fa fb : Nat → Nat → Nat) (w : World) (ha : Mx w va na ca fa) (hb : Mx w vb nb cb fb) (hab : ca = nb) :
    Calls Try.prog 62 #[va, vb] w fun e w' => ∃ v, e = .returned (.tuple #[v, .int .i64 0]) ∧ Mx w' v na cb (Gf.mm ca fa fb) ∧ Below w.heap.size w w' :=
  (mulM_own va vb na ca nb cb fa fb w ha hb hab).mono fun _ _ ⟨_, _, he, ho, hl⟩ => ⟨_, he, ho.mx (Gf.mm_bd ha.bd ca fb) ⟨ha.dim.1, ha.dim.2.1, hb.dim.2.2.1, hb.dim.2.2.2⟩, hl⟩

set_option maxHeartbeats 1000000 in
theorem mulM_bad1 (va vb : Value) (na nb : Nat) (La Lb : Nat → Nat) (fa fb : Nat → Nat → Nat) (w : World) (ha : Arg w va na La fa) (hb : Arg w vb nb Lb fb) (hx : wrongE na La ≠ 0) :
    Calls Try.prog 62 #[va, vb] w fun e w' => e = .returned (.tuple #[.slice none 0 0, .int .i64 (wrongE na La : Nat)]) ∧ Below w.heap.size w w' := by
  have H1 := fun w' hb' => wrong_any va na _ fa w' (ha.below (w' := w') hb')
  obtain ⟨A, pa, R, C, rfl, _⟩ := ha.lies
  obtain ⟨A', pb, R', C', rfl, _⟩ := hb.lies
  generalize wrongE na La = x at H1 hx
  have hx' : ((x : Int) == 0) = false := by rw [beq_eq_false_iff_ne]; omega
  have hbx := boxed3_below w (.slice A na pa) (.slice A' nb pb)
  clear ha hb hx
  go_enter Try.func62, Try.ntmps62
  go_wp2_with fail
  refine wp_loop_rounds 3 ?_
  rw [rounds_succ]
  go_wp2_with fail
  refine (H1 _ hbx).mono ?_
  rintro e w1 ⟨rfl, hb1⟩
  go_wp2_with fail
  go_ret2
  exact ⟨rfl, hbx.trans (hb1.mono hbx.size)⟩

set_option maxHeartbeats 1000000 in
theorem mulM_bad2 (va vb : Value) (na nb : Nat) (La Lb : Nat → Nat) (fa fb : Nat → Nat → Nat) (w : World) (ha : Arg w va na La fa) (hb : Arg w vb nb Lb fb) (h0 : wrongE na La = 0) (hx : wrongE nb Lb ≠ 0) :
    Calls Try.prog 62 #[va, vb] w fun e w' => e = .returned (.tuple #[.slice none 0 0, .int .i64 (wrongE nb Lb : Nat)]) ∧ Below w.heap.size w w' := by
  have H1 := fun w' hb' => wrong_any va na _ fa w' (ha.below (w' := w') hb')
  have H2 := fun w' hb' => wrong_any vb nb _ fb w' (hb.below (w' := w') hb')
  rw [h0] at H1
  obtain ⟨A, pa, R, C, rfl, _⟩ := ha.lies
  obtain ⟨A', pb, R', C', rfl, _⟩ := hb.lies
  generalize wrongE nb Lb = x at H2 hx
  have hx' : ((x : Int) == 0) = false := by rw [beq_eq_false_iff_ne]; omega
  have hbx := boxed3_below w (.slice A na pa) (.slice A' nb pb)
  have hbc := boxed3_cells w (.slice A na pa) (.slice A' nb pb)
  clear ha hb hx h0
  go_enter Try.func62, Try.ntmps62
  go_wp2_with fail
  refine wp_loop_rounds 3 ?_
  rw [rounds_succ]
  go_wp2_with fail
  refine (H1 _ hbx).mono ?_
  rintro e w1 ⟨rfl, hb1⟩
  rw [boxed3_size] at hb1
  have k3 := (hb1.cell (p := ⟨w.heap.size + 2, 1, none⟩) (by show w.heap.size + 2 < w.heap.size + 3; omega)).trans hbc.2.2.2
  have hbw1 : Below w.heap.size w w1 := hbx.trans (hb1.mono (by omega))
  clear hbx hbc hb1
  go_wp2_with fail
  rw [rounds_succ]
  go_wp2_with fail
  refine (H2 _ hbw1).mono ?_
  rintro e w2 ⟨rfl, hb2⟩
  go_wp2_with fail
  go_ret2
  exact ⟨rfl, hbw1.trans (hb2.mono hbw1.size)⟩

set_option maxHeartbeats 1000000 in
theorem mulM_bad3 (va vb : Value) (na ca nb cb : Nat) (fa fb : Nat → Nat → Nat) (w : World) (ha : Mx w va na ca fa) (hb : Mx w vb nb cb fb) (hab : ca ≠ nb) :
    Calls Try.prog 62 #[va, vb] w fun e w' => e = .returned (.tuple #[.slice none 0 0, .int .i64 8]) ∧ Below w.heap.size w w' := by
  have oka := ha.ok
  have okb := hb.ok
  have H1 := fun w' hb' => wrong_any va na _ fa w' (ha.below (w' := w') hb').arg
  have H2 := fun w' hb' => wrong_any vb nb _ fb w' (hb.below (w' := w') hb').arg
  rw [oka] at H1
  rw [okb] at H2
  obtain ⟨d1, d2, d3, d4⟩ := ha.dim
  obtain ⟨f1, f2, f3, f4⟩ := hb.dim
  obtain ⟨ba, oa, pa, Ga, Oa, Ka, rfl, hma⟩ := ha.lies
  obtain ⟨bb, ob, pb, Gb, Ob, Kb, rfl, hmb⟩ := hb.lies
  have hbx := boxed3_below w (.slice (some ⟨ba, oa, none⟩) na pa) (.slice (some ⟨bb, ob, none⟩) nb pb)
  have hbc := boxed3_cells w (.slice (some ⟨ba, oa, none⟩) na pa) (.slice (some ⟨bb, ob, none⟩) nb pb)
  have h0a : (0 : Int) < (na : Int) := by omega
  have h0m : 0 < na := by omega
  have hne : ((ca : Int) == (nb : Int)) = false := by rw [beq_eq_false_iff_ne]; omega
  clear oka okb ha hb hab
  go_enter Try.func62, Try.ntmps62
  go_wp2_with fail
  refine wp_loop_rounds 3 ?_
  rw [rounds_succ]
  go_wp2_with fail
  refine (H1 _ hbx).mono ?_
  rintro e w1 ⟨rfl, hb1⟩
  rw [boxed3_size] at hb1
  have k1 := (hb1.cell (p := ⟨w.heap.size, 0, none⟩) (by show w.heap.size < w.heap.size + 3; omega)).trans hbc.1
  have k2 := (hb1.cell (p := ⟨w.heap.size + 1, 0, none⟩) (by show w.heap.size + 1 < w.heap.size + 3; omega)).trans hbc.2.1
  have k3 := (hb1.cell (p := ⟨w.heap.size + 2, 1, none⟩) (by show w.heap.size + 2 < w.heap.size + 3; omega)).trans hbc.2.2.2
  have hbw1 : Below w.heap.size w w1 := hbx.trans (hb1.mono (by omega))
  have z1 : w.heap.size + 3 ≤ w1.heap.size := by have := hb1.size; rw [boxed3_size] at this; omega
  clear hbx hbc hb1
  go_wp2_with fail
  rw [rounds_succ]
  go_wp2_with fail
  refine (H2 _ hbw1).mono ?_
  rintro e w2 ⟨rfl, hb2⟩
  have k1 := (hb2.cell (p := ⟨w.heap.size, 0, none⟩) (by show w.heap.size < w1.heap.size; omega)).trans k1
  have k2 := (hb2.cell (p := ⟨w.heap.size + 1, 0, none⟩) (by show w.heap.size + 1 < w1.heap.size; omega)).trans k2
  have hbw2 : Below w.heap.size w w2 := hbw1.trans (hb2.mono hbw1.size)
  clear hb2 k3 z1 hbw1 H1 H2
  go_wp2_with fail
  rw [rounds_succ]
  go_wp2_with fail
  have hma2 := hma.below hbw2
  have hta : w2.cell? ⟨ba, oa, none⟩ = some (.slice (some ⟨Ga 0, Oa 0, none⟩) ca (Ka 0)) := by simpa using hma2.top 0 (by omega)
  clear hma hmb hma2
  go_region
  all_goals go_wp2_with fail
  all_goals go_ret2
  all_goals exact ⟨rfl, hbw2.drew⟩

theorem mulM_bad (va vb : Value) (na nb : Nat) (La Lb : Nat → Nat) (fa fb : Nat → Nat → Nat) (w : World) (ha : Arg w va na La fa) (hb : Arg w vb nb Lb fb) (hx : mulE na La nb Lb ≠ 0) :
    Calls Try.prog 62 #[va, vb] w fun e w' => e = .returned (.tuple #[.slice none 0 0, .int .i64 (mulE na La nb Lb : Nat)]) ∧ Below w.heap.size w w' := by
  unfold mulE at hx ⊢
  by_cases h1 : wrongE na La ≠ 0
  · rw [if_pos h1] at hx ⊢
    exact mulM_bad1 va vb na nb La Lb fa fb w ha hb h1
  · rw [if_neg h1] at hx ⊢
    have h1' : wrongE na La = 0 := by omega
    by_cases h2 : wrongE nb Lb ≠ 0
    · rw [if_pos h2] at hx ⊢
      exact mulM_bad2 va vb na nb La Lb fa fb w ha hb h1' h2
    · rw [if_neg h2] at hx ⊢
      have h2' : wrongE nb Lb = 0 := by omega
      by_cases h3 : La 0 ≠ nb
      · rw [if_pos h3]
        exact mulM_bad3 va vb na (La 0) nb (Lb 0) fa fb w (ha.mx h1') (hb.mx h2') h3
      · rw [if_neg h3] at hx
        exact absurd rfl hx
theorem mulE_zero {na : Nat} {La : Nat → Nat} {nb : Nat} {Lb : Nat → Nat} (h : mulE na La nb Lb = 0) : wrongE na La = 0 ∧ wrongE nb Lb = 0 ∧ La 0 = nb := by
  unfold mulE at h
  by_cases h1 : wrongE na La ≠ 0
  · rw [if_pos h1] at h
    exact absurd h h1
  · rw [if_neg h1] at h
    by_cases h2 : wrongE nb Lb ≠ 0
    · rw [if_pos h2] at h
      exact absurd h h2
    · rw [if_neg h2] at h
      by_cases h3 : La 0 ≠ nb
      · rw [if_pos h3] at h
        cases h
      · exact ⟨by omega, by omega, by omega⟩
theorem mulM_good (va vb : Value) (na nb : Nat) (La Lb : Nat → Nat) (fa fb : Nat → Nat → Nat) (w : World) (ha : Arg w va na La fa) (hb : Arg w vb nb Lb fb) (h : mulE na La nb Lb = 0) :
    Calls Try.prog 62 #[va, vb] w fun e w' => ∃ v, e = .returned (.tuple #[v, .int .i64 0]) ∧ Mx w' v na (Lb 0) (Gf.mm nb fa fb) ∧ Below w.heap.size w w' := by
  obtain ⟨h1, h2, h3⟩ := mulE_zero h
  have := mulM_ok va vb na (La 0) nb (Lb 0) fa fb w (ha.mx h1) (hb.mx h2) h3
  rw [h3] at this
  exact this

end Go.Proofs.Ytmlboaejkmffjad
