/-
  What the statements' own Same does at lists of lists that are the same.
-/
import Derived.Test.YtmlboaejkmffjadSHurt
namespace Go.Proofs.Ytmlboaejkmffjad
open Go.RowKit

set_option maxHeartbeats 1000000 in
set_option maxRecDepth 100000 in
theorem same_lls (vx vy : Value) (n : Nat) (L : Nat → Nat) (f g : Nat → Nat → Nat) (w : World) (hx : Lls w vx n L f) (hy : Lls w vy n L g) (he : ∀ r, r < n → ∀ k, k < L r → f r k = g r k) :
    Calls Try.prog 23 #[vx, vy] w fun e w' => e = .returned (.bool true) ∧ Below w.heap.size w w' := by
  have hn := hx.len
  obtain ⟨A, C, rfl⟩ := hx.shape
  obtain ⟨A', C', rfl⟩ := hy.shape
  have HX : Hid (∀ w', Below w.heap.size w w' → Lls w' (.slice A n C) n L f) := fun w' hb => hx.below hb
  have HY : Hid (∀ w', Below w.heap.size w w' → Lls w' (.slice A' n C') n L g) := fun w' hb => hy.below hb
  have HE : Hid (∀ r, r < n → ∀ k, k < L r → f r k = g r k) := he
  clear hx hy he
  go_enter Try.func23, Try.ntmps23
  go_wp2_with fail
  go_loopw [13] (fun i wr => ∃ k : Nat, k ≤ n ∧ i = .int .i64 k ∧ Below w.heap.size w wr) (fun i _ => n - (intOf i).toNat)
  case atStart => exact ⟨0, Nat.zero_le _, rfl, Below.refl _ _⟩
  case round =>
    obtain ⟨k, hk, rfl, hb⟩ := hrel
    by_cases hlt : k < n
    · have hlt' : (k : Int) < (n : Int) := by omega
      obtain ⟨b, o, R, K, rfl, t1, y1⟩ := (HX.out wr hb).at hlt
      obtain ⟨b', o', R', K', rfl, t2, y2⟩ := (HY.out wr hb).at hlt
      have q1 := conv_any (y1.below (Below.refl wr.heap.size wr).drew)
      have q2 := conv_any (y2.below (Below.refl wr.heap.size wr).drew)
      rw [strB_congr (HE.out k hlt)] at q1
      generalize strB (g k) (L k) = S at q1 q2
      clear y1 y2
      go_wp2_with fail
      go_region
      all_goals go_wp2_with fail
      all_goals exact ⟨⟨k + 1, by omega, by go_num, hb.drew⟩, by simp [intOf]; omega⟩
    · obtain rfl : k = n := by omega
      go_wp2_with fail
      go_ret
      exact ⟨rfl, hb⟩

end Go.Proofs.Ytmlboaejkmffjad
