/-
  What grid.cellOfOne, grid.scale and grid.addTimes do, call by call.
-/
import Derived.Test.YtmlboaejkmffjadMem
namespace Go.Proofs.Ytmlboaejkmffjad
open Go.RowKit

theorem mulI_nat (a b : Nat) : Gf.mulI (a : Int) (b : Int) = ((Gf.mul a b : Nat) : Int) := by
  unfold Gf.mulI
  rw [Int.toNat_natCast, Int.toNat_natCast]
theorem xor_nat {a b : Nat} (ha : a < 256) (hb : b < 256) : bits .xor .u8 (a : Int) (b : Int) = ((a ^^^ b : Nat) : Int) := by
  rw [u8_xor _ _ (by omega) (by omega) (by omega) (by omega), Int.toNat_natCast, Int.toNat_natCast]

theorem mul_nat (a b : Nat) (w : World) (ha : a < 256) (hb : b < 256) :
    Calls Try.prog 83 #[.int .u8 (a : Int), .int .u8 (b : Int)] w fun e w' => e = .returned (.int .u8 ((Gf.mul a b : Nat) : Int)) ∧ Below w.heap.size w w' := by
  rw [← mulI_nat]
  exact mul_any _ _ _ (by omega) (by omega) (by omega) (by omega)
theorem inv_nat (a : Nat) (w : World) (ha : a < 256) :
    Calls Try.prog 99 #[.int .u8 (a : Int)] w fun e w' => e = .returned (.int .u8 ((Gf.inv a : Nat) : Int)) ∧ Below w.heap.size w w' := by
  have h : Gf.raiseI (a : Int) 254 = ((Gf.inv a : Nat) : Int) := by
    unfold Gf.raiseI Gf.inv
    rw [Int.toNat_natCast]
    rfl
  rw [← h]
  exact inv_any _ _ (by omega) (by omega)

set_option maxHeartbeats 400000 in
theorem cellOne_any (i j : Nat) (w : World) :
    Calls Try.prog 96 #[.int .i64 (i : Int), .int .i64 (j : Int)] w fun e w' => e = .returned (.int .u8 ((Gf.one i j : Nat) : Int)) ∧ Below w.heap.size w w' := by
  by_cases h : i = j
  · subst h
    have H : Hid (Gf.one i i = 1) := Gf.one_self i
    go_enter Try.func96, Try.ntmps96
    go_wp2_with fail
    go_ret
    exact ⟨ret_int (by rw [H.out]; rfl), Below.refl _ _⟩
  · have H : Hid (Gf.one i j = 0) := Gf.one_ne h
    have h' : ((i : Int) == (j : Int)) = false := by rw [beq_eq_false_iff_ne]; omega
    clear h
    go_enter Try.func96, Try.ntmps96
    go_wp2_with fail
    go_ret
    exact ⟨ret_int (by rw [H.out]; rfl), Below.refl _ _⟩

/-- A row, its first k bytes rewritten. -/
def upto (k : Nat) (g f : Nat → Nat) (j : Nat) : Nat := if j < k then g j else f j
theorem upto_step (k : Nat) (g f : Nat → Nat) (j : Nat) : upto (k + 1) g f j = if j = k then g k else upto k g f j := by
  unfold upto
  by_cases h : j = k
  · subst h
    rw [if_pos (by omega), if_pos rfl]
  · rw [if_neg h]
    by_cases h' : j < k
    · rw [if_pos h', if_pos (by omega)]
    · rw [if_neg h', if_neg (by omega)]
theorem upto_here (k : Nat) (g f : Nat → Nat) : upto k g f k = f k := if_neg (Nat.lt_irrefl _)

theorem row_step {w : World} {g : Nat} {t : TypeId} {n k : Nat} {f h : Nat → Nat} (hr : w.rowIs g t n (fun j => .int .u8 (upto k h f j : Nat))) :
    (w.setCell ⟨g, k, none⟩ (.int .u8 (h k : Nat))).rowIs g t n (fun j => .int .u8 (upto (k + 1) h f j : Nat)) :=
  (hr.set k _).congr (fun j _ => by
    rw [upto_step]
    by_cases e : j = k
    · rw [if_pos e, if_pos e]
    · rw [if_neg e, if_neg e])

set_option maxHeartbeats 1000000 in
theorem scale_any (g n x : Nat) (f : Nat → Nat) (w : World) (hr : w.rowIs g 5 n (fun k => .int .u8 (f k : Nat))) (hf : Gf.Bd f) (hx : x < 256) (hn : n ≤ 10000) :
    Calls Try.prog 105 #[.slice (some ⟨g, 0, none⟩) n n, .int .u8 (x : Int)] w fun e w' => e = .returned (.tuple #[]) ∧ w'.rowIs g 5 n (fun k => .int .u8 (Gf.mul (f k) x : Nat)) ∧ Off (fun k => k = g) w w' := by
  go_enter Try.func105, Try.ntmps105
  go_wp2_with fail
  go_loopw [7] (fun i wr => ∃ k : Nat, k ≤ n ∧ i = .int .i64 k ∧ wr.rowIs g 5 n (fun j => .int .u8 (upto k (fun j => Gf.mul (f j) x) f j : Nat)) ∧ Off (fun k => k = g) w wr) (fun i _ => n - (intOf i).toNat)
  case atStart => exact ⟨0, Nat.zero_le _, rfl, hr, Off.refl _ _⟩
  case round =>
    obtain ⟨k, hk, rfl, hw, ho⟩ := hrel
    by_cases hlt : k < n
    · have hlt' : (k : Int) < (n : Int) := by omega
      have hc := hw.cell hlt
      have hfz := hw.frozen k
      rw [upto_here] at hc
      go_wp2_with fail
      refine (mul_nat _ _ _ (hf k) hx).mono ?_
      rintro e w1 ⟨rfl, hb1⟩
      have hw1 := rowIs_below hw hb1
      have hc1 := hw1.cell hlt
      have hfz1 := hw1.frozen k
      go_wp2_with fail
      exact ⟨⟨k + 1, by omega, by go_num, row_step hw1, (ho.trans (Off.of_below hb1)).set rfl _⟩, by simp [intOf]; omega⟩
    · have e8 : k = n := by omega
      subst e8
      go_wp2_with fail
      go_end0
      exact ⟨rfl, hw.congr (fun j hj => by rw [show upto k (fun j => Gf.mul (f j) x) f j = Gf.mul (f j) x from if_pos hj]), ho⟩

set_option maxHeartbeats 2000000 in
theorem addTimes_any (g q n x : Nat) (f p : Nat → Nat) (w : World) (hr : w.rowIs g 5 n (fun k => .int .u8 (f k : Nat))) (hp : w.rowIs q 5 n (fun k => .int .u8 (p k : Nat))) (hne : g ≠ q) (hf : Gf.Bd f) (hpb : Gf.Bd p) (hx : x < 256) (hn : n ≤ 10000) :
    Calls Try.prog 106 #[.slice (some ⟨g, 0, none⟩) n n, .slice (some ⟨q, 0, none⟩) n n, .int .u8 (x : Int)] w fun e w' => e = .returned (.tuple #[]) ∧ w'.rowIs g 5 n (fun k => .int .u8 (f k ^^^ Gf.mul (p k) x : Nat)) ∧ Off (fun k => k = g) w w' := by
  go_enter Try.func106, Try.ntmps106
  go_wp2_with fail
  go_loopw [9] (fun i wr => ∃ k : Nat, k ≤ n ∧ i = .int .i64 k ∧ wr.rowIs g 5 n (fun j => .int .u8 (upto k (fun j => f j ^^^ Gf.mul (p j) x) f j : Nat)) ∧ Off (fun k => k = g) w wr) (fun i _ => n - (intOf i).toNat)
  case atStart => exact ⟨0, Nat.zero_le _, rfl, hr, Off.refl _ _⟩
  case round =>
    obtain ⟨k, hk, rfl, hw, ho⟩ := hrel
    by_cases hlt : k < n
    · have hlt' : (k : Int) < (n : Int) := by omega
      have hc := hw.cell hlt
      have hfz := hw.frozen k
      rw [upto_here] at hc
      have hq := rowIs_off hp ho (fun e => hne e.symm)
      have hcq := hq.cell hlt
      have hxor := xor_nat (hf k) (Gf.mul_lt x (hpb k))
      go_wp2_with fail
      go_region_with (go_at_call 83; refine (mul_nat _ _ _ (hpb k) hx).mono ?_; rintro e w1 ⟨rfl, hb1⟩; have hw1 := rowIs_below hw.drew hb1; have hc1 := hw1.cell hlt; have hfz1 := hw1.frozen k; rw [upto_here] at hc1)
      all_goals go_wp2_with fail
      all_goals exact ⟨⟨k + 1, by omega, by go_num, row_step (h := fun j => f j ^^^ Gf.mul (p j) x) hw1, (ho.drew.trans (Off.of_below hb1)).set rfl _⟩, by simp [intOf]; omega⟩
    · have e8 : k = n := by omega
      subst e8
      go_wp2_with fail
      go_end0
      exact ⟨rfl, hw.congr (fun j hj => by rw [show upto k (fun j => f j ^^^ Gf.mul (p j) x) f j = f j ^^^ Gf.mul (p j) x from if_pos hj]), ho⟩

end Go.Proofs.Ytmlboaejkmffjad
