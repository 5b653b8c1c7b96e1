/-
  What the statements' own Same does at matrices that are the same.
-/
import Derived.Test.YtmlboaejkmffjadUndo
import Derived.Laws.BytesArg
namespace Go.Proofs.Ytmlboaejkmffjad
open Go.RowKit


set_option maxHeartbeats 1000000 in
theorem same_any (vx vy : Value) (n c : Nat) (f g : Nat → Nat → Nat) (w : World) (hx : Mx w vx n c f) (hy : Mx w vy n c g) (he : ∀ r, r < n → ∀ k, k < c → f r k = g r k) :
    Calls Try.prog 23 #[vx, vy] w fun e w' => e = .returned (.bool true) ∧ Below w.heap.size w w' := by
  obtain ⟨d1, d2, d3, d4⟩ := hx.dim
  obtain ⟨b, o, p, G, O, K, rfl, hm⟩ := hx.lies
  obtain ⟨b', o', p', G', O', K', rfl, hm'⟩ := hy.lies
  clear hx hy
  go_enter Try.func23, Try.ntmps23
  go_wp2_with fail
  go_loopw [13] (fun i wr => ∃ k : Nat, k ≤ n ∧ i = .int .i64 k ∧ Below w.heap.size w wr) (fun i _ => n - (intOf i).toNat)
  case atStart => exact ⟨0, Nat.zero_le _, rfl, Below.refl _ _⟩
  case round =>
    obtain ⟨k, hk, rfl, hb⟩ := hrel
    by_cases hlt : k < n
    · have hlt' : (k : Int) < (n : Int) := by omega
      have hmr := hm.below hb
      have hmr' := hm'.below hb
      have t1 := hmr.top k hlt
      have t2 := hmr'.top k hlt
      have q1 := run_convert_bytes_arg (P := Try.prog) wr.drew 25 5 Try.underlying25 Try.underlying5 (G k) (O k) c (K k) ((List.range c).map fun j => (f k j : Int)) (by simp) (fun i hi => by rw [bytes_getD _ _ _ hi]; exact hmr.row k hlt i hi) 9 Try.underlying9
      have q2 := run_convert_bytes_arg (P := Try.prog) wr.drew 25 5 Try.underlying25 Try.underlying5 (G' k) (O' k) c (K' k) ((List.range c).map fun j => (f k j : Int)) (by simp) (fun i hi => by rw [bytes_getD _ _ _ hi, he k hlt i hi]; exact hmr'.row k hlt i hi) 9 Try.underlying9
      generalize strOfNums ((List.range c).map fun j => (f k j : Int)) = S at q1 q2
      clear hmr hmr' hm hm' he
      go_wp2_with fail
      go_region
      all_goals go_wp2_with fail
      all_goals exact ⟨⟨k + 1, by omega, by go_num, hb.drew⟩, by simp [intOf]; omega⟩
    · have e8 : k = n := by omega
      subst e8
      clear hm hm' he
      go_wp2_with fail
      go_ret
      exact ⟨rfl, hb⟩

set_option maxHeartbeats 1000000 in
theorem same_none (w : World) :
    Calls Try.prog 23 #[.slice none 0 0, .slice none 0 0] w fun e w' => e = .returned (.bool true) ∧ Below w.heap.size w w' := by
  go_enter Try.func23, Try.ntmps23
  go_wp2_with fail
  refine wp_loop_rounds 1 ?_
  rw [rounds_succ]
  go_wp2_with fail
  go_ret
  exact ⟨rfl, Below.refl _ _⟩

theorem lit_below (w : World) (x y z : Obj) : Below w.heap.size w (((w.alloc x).alloc y).alloc z) :=
  (((Below.refl _ _).alloc (Nat.le_refl _) _).alloc (by simp) _).alloc (by simp; omega) _

end Go.Proofs.Ytmlboaejkmffjad
