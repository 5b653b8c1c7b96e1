/-
  What block.shifted, block.Sum and the document's own Sum do, call by call.
-/
import Derived.Test.YtmlboaejkmffjadStr
import Derived.Test.YtmlboaejkmffjadCrc
namespace Go.Proofs.Ytmlboaejkmffjad
open Go.RowKit

theorem u32x (a b : Nat) (ha : a < 4294967296) (hb : b < 4294967296) : bits .xor .u32 (a : Int) (b : Int) = ((a ^^^ b : Nat) : Int) := u32_xor_nat a b ha hb
theorem half_even {c : Nat} (h : ¬ c % 2 = 1) : Crc.half c = c / 2 := by unfold Crc.half; rw [if_neg h, Nat.xor_zero]
theorem half_odd {c : Nat} (h : c % 2 = 1) : Crc.half c = c / 2 ^^^ 2197175160 := by unfold Crc.half; rw [if_pos h]; rfl

set_option maxHeartbeats 400000 in
theorem shifted_any (c : Nat) (w : World) (hc : c < 4294967296) :
    Calls Try.prog 102 #[.int .u32 (c : Int)] w fun e w' => e = .returned (.int .u32 (Crc.half c : Nat)) ∧ w' = w := by
  have h1 : bits .and .u32 (c : Int) 1 = ((c % 2 : Nat) : Int) := by
    rw [show (1 : Int) = ((1 : Nat) : Int) from rfl, u32_and_nat c 1 hc (by decide), nat_mask1]
  by_cases ho : c % 2 = 1
  · have h2 : bits .xor .u32 ((c : Int) / 2) 2197175160 = ((Crc.half c : Nat) : Int) := by
      rw [half_odd ho, ← u32x (c / 2) 2197175160 (by omega) (by decide)]
      rfl
    have h3 : (((c % 2 : Nat) : Int) == 1) = true := by rw [ho]; rfl
    generalize Crc.half c = y at h2
    generalize c % 2 = z at h1 h3
    clear ho
    go_enter Try.func102, Try.ntmps102
    go_wp2_with fail
    go_ret
    exact ⟨rfl, rfl⟩
  · have h2 : (Crc.half c : Int) = (c : Int) / 2 := by
      rw [half_even ho]
      rfl
    have h3 : (((c % 2 : Nat) : Int) == 1) = false := by rw [beq_eq_false_iff_ne]; omega
    have H : Hid ((Crc.half c : Int) = (c : Int) / 2) := h2
    generalize c % 2 = z at h1 h3
    clear ho h2
    go_enter Try.func102, Try.ntmps102
    go_wp2_with fail
    go_ret
    exact ⟨ret_int H.out.symm, rfl⟩

set_option maxHeartbeats 1000000 in
theorem sum_some (b o n cap : Nat) (f : Nat → Nat) (w : World) (hf : Bd f) (hn : n ≤ 9223372036854775807) (hc : ∀ i, i < n → w.cell? ⟨b, o + i, none⟩ = some (.int .u8 (f i : Nat))) :
    Calls Try.prog 87 #[.slice (some ⟨b, o, none⟩) n cap] w fun e w' => e = .returned (.int .u32 (Crc.sum f n : Nat)) ∧ w' = w := by
  go_enter Try.func87, Try.ntmps87
  go_wp2_with fail
  go_loop [3, 8] (fun c x => ∃ k : Nat, k ≤ n ∧ x = .int .i64 k ∧ c = .int .u32 (Crc.run f k : Nat)) (fun _ x => n - (intOf x).toNat)
  case atStart => exact ⟨0, Nat.zero_le _, rfl, rfl⟩
  case round =>
    obtain ⟨k, hk, rfl, rfl⟩ := hrel
    by_cases hlt : k < n
    · have hlt' : (k : Int) < (n : Int) := by omega
      have t := hc k hlt
      have hfk := hf k
      have hx := u32x (Crc.run f k) (f k) (Crc.run_lt hf k) (by omega)
      have hy : Crc.run f k ^^^ f k < 4294967296 := Crc.xor32 (Crc.run_lt hf k) (by omega)
      have HZ : Hid (Crc.run f (k + 1) = Crc.halves 8 (Crc.run f k ^^^ f k)) := rfl
      generalize Crc.run f k ^^^ f k = y at hx hy HZ
      clear hc
      go_wp2_with fail
      go_loop [3, 16] (fun c x => ∃ j : Nat, j ≤ 8 ∧ x = .int .i64 j ∧ c = .int .u32 (Crc.halves j y : Nat)) (fun _ x => 8 - (intOf x).toNat)
      case atStart => exact ⟨0, Nat.zero_le _, rfl, rfl⟩
      case round =>
        obtain ⟨j, hj, rfl, rfl⟩ := hrel
        by_cases hlj : j < 8
        · have hlj' : (j : Int) < 8 := by omega
          go_wp2_with fail
          refine (shifted_any _ _ (Crc.halves_lt hy j)).mono ?_
          rintro e w1 ⟨rfl, rfl⟩
          go_wp2_with fail
          exact ⟨⟨j + 1, by omega, by go_num, rfl⟩, by simp [intOf]; omega⟩
        · have e8 : j = 8 := by omega
          subst e8
          go_wp2_with fail
          exact ⟨⟨k + 1, by omega, by go_num, by rw [HZ.out]⟩, by simp [intOf]; omega⟩
    · have e8 : k = n := by omega
      subst e8
      clear hc
      go_wp2_with fail
      go_ret
      refine ⟨ret_int (?_ : bits .xor .u32 IntKind.u32.max (Crc.run f k : Nat) = _), rfl⟩
      rw [show IntKind.u32.max = ((4294967295 : Nat) : Int) by decide, u32x _ _ (by decide) (Crc.run_lt hf k), Nat.xor_comm]
      rfl

set_option maxHeartbeats 400000 in
theorem sum_none (A : Option Addr) (cap : Nat) (f : Nat → Nat) (w : World) :
    Calls Try.prog 87 #[.slice A 0 cap] w fun e w' => e = .returned (.int .u32 (Crc.sum f 0 : Nat)) ∧ w' = w := by
  go_enter Try.func87, Try.ntmps87
  go_wp2_with fail
  refine wp_loop_rounds 1 ?_
  rw [rounds_succ]
  go_wp2_with fail
  go_ret
  refine ⟨ret_int (?_ : bits .xor .u32 IntKind.u32.max 4294967295 = _), rfl⟩
  rw [show Crc.sum f 0 = 0 from Nat.xor_self 4294967295]
  decide

theorem sum_any (v : Value) (n : Nat) (f : Nat → Nat) (w : World) (h : Byts w v n f) :
    Calls Try.prog 87 #[v] w fun e w' => e = .returned (.int .u32 (Crc.sum f n : Nat)) ∧ w' = w := by
  by_cases hn : 1 ≤ n
  · obtain ⟨b, o, cap, rfl, _, _, hc⟩ := h.some hn
    exact sum_some b o n cap f w h.bd h.len hc
  · obtain rfl : n = 0 := by omega
    obtain ⟨A, cap, rfl⟩ := h.zero
    exact sum_none A cap f w

theorem half_mul (c : Nat) (hc : c < 4294967296) : bits .xor .u32 ((c : Int) / 2) ((c : Int) % 2 * 2197175160) = ((Crc.half c : Nat) : Int) := by
  rcases Nat.mod_two_eq_zero_or_one c with e | e
  · rw [half_even (by omega), show (c : Int) % 2 * 2197175160 = ((0 : Nat) : Int) by omega, show (c : Int) / 2 = ((c / 2 : Nat) : Int) by omega, u32x _ _ (by omega) (by decide), Nat.xor_zero]
  · rw [half_odd e, show (c : Int) % 2 * 2197175160 = ((2197175160 : Nat) : Int) by omega, show (c : Int) / 2 = ((c / 2 : Nat) : Int) by omega, u32x _ _ (by omega) (by decide)]

set_option maxHeartbeats 1000000 in
theorem refSum_some (b o n cap : Nat) (f : Nat → Nat) (w : World) (hf : Bd f) (hn : n ≤ 9223372036854775807) (hc : ∀ i, i < n → w.cell? ⟨b, o + i, none⟩ = some (.int .u8 (f i : Nat))) :
    Calls Try.prog 68 #[.slice (some ⟨b, o, none⟩) n cap] w fun e w' => e = .returned (.int .u32 (Crc.sum f n : Nat)) ∧ w' = w := by
  go_enter Try.func68, Try.ntmps68
  go_wp2_with fail
  go_loop [3, 10] (fun c x => ∃ k : Nat, k ≤ n ∧ x = .int .i64 k ∧ c = .int .u32 (Crc.run f k : Nat)) (fun _ x => n - (intOf x).toNat)
  case atStart => exact ⟨0, Nat.zero_le _, rfl, rfl⟩
  case round =>
    obtain ⟨k, hk, rfl, rfl⟩ := hrel
    by_cases hlt : k < n
    · have hlt' : (k : Int) < (n : Int) := by omega
      have t := hc k hlt
      have hfk := hf k
      have hrk := Crc.run_lt hf k
      have hx := u32x (Crc.run f k) (f k) hrk (by omega)
      have hy : Crc.run f k ^^^ f k < 4294967296 := Crc.xor32 hrk (by omega)
      have HZ : Hid (Crc.run f (k + 1) = Crc.run f k / 256 ^^^ Crc.halves 8 ((Crc.run f k ^^^ f k) % 256)) := by
        show Crc.step (Crc.run f k) (f k) = _
        rw [Crc.step_table, Nat.xor_comm]
        congr 1
        have h8 : (Crc.run f k ^^^ f k) / 2 ^ 8 = Crc.run f k / 2 ^ 8 ^^^ f k / 2 ^ 8 := Nat.xor_div_two_pow
        rw [show f k / 2 ^ 8 = 0 by omega, Nat.xor_zero] at h8
        exact h8
      have hm : bits .and .u32 ((Crc.run f k ^^^ f k : Nat) : Int) 255 = (((Crc.run f k ^^^ f k) % 256 : Nat) : Int) := by
        rw [show (255 : Int) = ((255 : Nat) : Int) from rfl, u32_and_nat _ 255 hy (by decide), nat_mask8]
      have hl : (Crc.run f k ^^^ f k) % 256 < 4294967296 := by omega
      generalize Crc.run f k ^^^ f k = y at hx hy HZ hm hl
      generalize y % 256 = z at HZ hm hl
      clear hc
      go_wp2_with fail
      go_loop [6, 7] (fun c x => ∃ j : Nat, j ≤ 8 ∧ x = .int .i64 j ∧ c = .int .u32 (Crc.halves j z : Nat)) (fun _ x => 8 - (intOf x).toNat)
      case atStart => exact ⟨0, Nat.zero_le _, rfl, rfl⟩
      case round =>
        obtain ⟨j, hj, rfl, rfl⟩ := hrel
        by_cases hlj : j < 8
        · have hlj' : (j : Int) < 8 := by omega
          have hq := Crc.halves_lt hl j
          have hm2 : bits .and .u32 ((Crc.halves j z : Nat) : Int) 1 = ((Crc.halves j z % 2 : Nat) : Int) := by
            rw [show (1 : Int) = ((1 : Nat) : Int) from rfl, u32_and_nat _ 1 hq (by decide), nat_mask1]
          have HM : Hid (bits .xor .u32 ((Crc.halves j z : Nat) / 2 : Int) ((Crc.halves j z : Nat) % 2 * 2197175160 : Int) = ((Crc.halves (j + 1) z : Nat) : Int)) := half_mul _ hq
          go_wp2_with fail
          exact ⟨⟨j + 1, by omega, by go_num, val_int HM.out⟩, by simp [intOf]; omega⟩
        · have e8 : j = 8 := by omega
          subst e8
          have hq := Crc.halves_lt hl 8
          have hz2 : bits .xor .u32 ((Crc.run f k : Int) / 256) ((Crc.halves 8 z : Nat) : Int) = ((Crc.run f (k + 1) : Nat) : Int) := by
            rw [HZ.out, ← u32x _ _ (by omega) hq]
            rfl
          have HE : ∃ r', r' = Crc.run f (k + 1) := ⟨_, rfl⟩
          obtain ⟨r', hr'⟩ := HE
          rw [← hr'] at hz2
          have HR : Hid (r' = Crc.run f (k + 1)) := hr'
          clear hr'
          go_wp2_with fail
          exact ⟨⟨k + 1, by omega, by go_num, val_int (by rw [HR.out])⟩, by simp [intOf]; omega⟩
    · have e8 : k = n := by omega
      subst e8
      clear hc
      have hz : bits .xor .u32 ((Crc.run f k : Nat) : Int) 4294967295 = ((Crc.sum f k : Nat) : Int) := u32x _ 4294967295 (Crc.run_lt hf k) (by decide)
      go_wp2_with fail
      go_ret
      exact ⟨rfl, rfl⟩

set_option maxHeartbeats 400000 in
theorem refSum_none (A : Option Addr) (cap : Nat) (f : Nat → Nat) (w : World) :
    Calls Try.prog 68 #[.slice A 0 cap] w fun e w' => e = .returned (.int .u32 (Crc.sum f 0 : Nat)) ∧ w' = w := by
  go_enter Try.func68, Try.ntmps68
  go_wp2_with fail
  refine wp_loop_rounds 1 ?_
  rw [rounds_succ]
  go_wp2_with fail
  go_ret
  refine ⟨ret_int (?_ : bits .xor .u32 4294967295 4294967295 = _), rfl⟩
  rw [show Crc.sum f 0 = 0 from Nat.xor_self 4294967295]
  decide

theorem refSum_any (v : Value) (n : Nat) (f : Nat → Nat) (w : World) (h : Byts w v n f) :
    Calls Try.prog 68 #[v] w fun e w' => e = .returned (.int .u32 (Crc.sum f n : Nat)) ∧ w' = w := by
  by_cases hn : 1 ≤ n
  · obtain ⟨b, o, cap, rfl, _, _, hc⟩ := h.some hn
    exact refSum_some b o n cap f w h.bd h.len hc
  · obtain rfl : n = 0 := by omega
    obtain ⟨A, cap, rfl⟩ := h.zero
    exact refSum_none A cap f w

end Go.Proofs.Ytmlboaejkmffjad
