/-
  What the document's own answers for what is wrong with a matrix, and for One, do, call by call; memory that is appended to.
-/
import Derived.Test.YtmlboaejkmffjadRef
namespace Go.Proofs.Ytmlboaejkmffjad
open Go.RowKit

theorem refMul_nat (a b : Nat) (w : World) (ha : a < 256) (hb : b < 256) :
    Calls Try.prog 66 #[.int .u8 (a : Int), .int .u8 (b : Int)] w fun e w' => e = .returned (.int .u8 ((Gf.mul a b : Nat) : Int)) ∧ w = w' := by
  rw [← mulI_nat]
  exact refMul_any _ _ _ (by omega) (by omega) (by omega) (by omega)
theorem refInv_nat (a : Nat) (w : World) (ha : a < 256) :
    Calls Try.prog 88 #[.int .u8 (a : Int)] w fun e w' => e = .returned (.int .u8 ((Gf.inv a : Nat) : Int)) ∧ w = w' := by
  have h : Gf.raiseI (a : Int) 254 = ((Gf.inv a : Nat) : Int) := by
    unfold Gf.raiseI Gf.inv
    rw [Int.toNat_natCast]
    rfl
  rw [← h]
  exact refInv_any _ _ (by omega) (by omega)

set_option maxHeartbeats 1000000 in
theorem refWrong_any (v : Value) (n : Nat) (L : Nat → Nat) (f : Nat → Nat → Nat) (w : World) (h : Arg w v n L f) :
    Calls Try.prog 65 #[v] w fun e w' => e = .returned (.int .i64 (wrongE n L : Nat)) ∧ Below w.heap.size w w' := by
  obtain ⟨A, cap, R, C, rfl, hr⟩ := h.lies
  clear h
  by_cases h1 : n < 1
  · have H : Hid (wrongE n L = 5) := by show wrongE n L = 5; unfold wrongE; rw [if_pos (Or.inl h1)]
    have h1' : n = 0 := by omega
    subst h1'
    clear hr h1
    go_enter Try.func65, Try.ntmps65
    go_wp2_with fail
    go_ret
    exact ⟨ret_int (by rw [H.out]; rfl), Below.refl _ _⟩
  have h1' : ((n : Int) == 0) = false := by rw [beq_eq_false_iff_ne]; omega
  by_cases h2 : 12 < n
  · have H : Hid (wrongE n L = 5) := by show wrongE n L = 5; unfold wrongE; rw [if_pos (Or.inr (Or.inl h2))]
    have h2' : (12 : Int) < (n : Int) := by omega
    clear hr h1 h2
    go_enter Try.func65, Try.ntmps65
    go_wp2_with fail
    go_ret
    exact ⟨ret_int (by rw [H.out]; rfl), Below.refl _ _⟩
  obtain ⟨b, o, rfl, hc0, _⟩ := hr 0 (by omega)
  have hc : ∀ r, r < n → w.cell? ⟨b, o + r, none⟩ = some (.slice (R r) (L r) (C r)) := fun r hrn => by
    obtain ⟨b', o', e1, e2, _⟩ := hr r hrn
    cases e1
    exact e2
  clear hr
  have h2' : ¬ (12 : Int) < (n : Int) := by omega
  have h0' : (0 : Int) < (n : Int) := by omega
  have h0n : 0 < n := by omega
  have hc0' : w.cell? ⟨b, o, none⟩ = some (.slice (R 0) (L 0) (C 0)) := by simpa using hc0
  clear hc0
  by_cases h3 : L 0 < 1
  · have H : Hid (wrongE n L = 5) := by show wrongE n L = 5; unfold wrongE; rw [if_pos (Or.inr (Or.inr (Or.inl h3)))]
    have h3' : L 0 = 0 := by omega
    rw [h3'] at hc0'
    clear h1 h2 h3 hc h3'
    go_enter Try.func65, Try.ntmps65
    go_wp2_with fail
    go_ret
    exact ⟨ret_int (by rw [H.out]; rfl), Below.refl _ _⟩
  have h3' : ((L 0 : Int) == 0) = false := by rw [beq_eq_false_iff_ne]; omega
  by_cases h4 : 400 < L 0
  · have H : Hid (wrongE n L = 5) := by show wrongE n L = 5; unfold wrongE; rw [if_pos (Or.inr (Or.inr (Or.inr h4)))]
    have h4' : (400 : Int) < (L 0 : Int) := by omega
    clear h1 h2 h3 h4 hc
    go_enter Try.func65, Try.ntmps65
    go_wp2_with fail
    go_ret
    exact ⟨ret_int (by rw [H.out]; rfl), Below.refl _ _⟩
  have h4' : ¬ (400 : Int) < (L 0 : Int) := by omega
  have HL : Hid (¬ (n < 1 ∨ 12 < n ∨ L 0 < 1 ∨ 400 < L 0)) := by show ¬ _; omega
  have HC : Hid (∀ r, r < n → w.cell? ⟨b, o + r, none⟩ = some (.slice (R r) (L r) (C r))) := hc
  clear h1 h2 h3 h4 hc
  go_enter Try.func65, Try.ntmps65
  go_wp2_with fail
  go_loopw [28] (fun i wr => ∃ k : Nat, k ≤ n ∧ i = .int .i64 k ∧ Hid (∀ r, r < k → L r = L 0) ∧ Below w.heap.size w wr) (fun i _ => n - (intOf i).toNat)
  case atStart => exact ⟨0, Nat.zero_le _, rfl, fun r hr => absurd hr (Nat.not_lt_zero r), Below.refl _ _⟩
  case round =>
    obtain ⟨k, hk, rfl, HS, hb⟩ := hrel
    have c0 := (hb.cell (p := ⟨b, o, none⟩) (World.block_lt_of_cell? _ _ hc0')).trans hc0'
    clear hc0'
    by_cases hlt : k < n
    · have hlt' : (k : Int) < (n : Int) := by omega
      have ck := (hb.cell (p := ⟨b, o + k, none⟩) (World.block_lt_of_cell? _ _ (HC.out k hlt))).trans (HC.out k hlt)
      by_cases hy : L k = L 0
      · rw [hy] at ck
        have HY : Hid (L k = L 0) := hy
        clear hy
        go_wp2_with fail
        go_region
        go_wp2_with fail
        refine ⟨⟨k + 1, by omega, by go_num, fun r hr => ?_, hb.drew⟩, by simp [intOf]; omega⟩
        by_cases e : r = k
        · rw [e]; exact HY.out
        · exact HS.out r (by omega)
      · have hy' : ((L k : Int) == (L 0 : Int)) = false := by rw [beq_eq_false_iff_ne]; omega
        have H : Hid (wrongE n L = 2) := by
          show wrongE n L = 2
          unfold wrongE
          rw [if_neg HL.out, if_neg (fun h => hy (h k hlt))]
        clear hy
        go_wp2_with fail
        go_region
        go_wp2_with fail
        go_ret
        exact ⟨ret_int (by rw [H.out]; rfl), hb.drew⟩
    · have e8 : k = n := by omega
      subst e8
      have H : Hid (wrongE k L = 0) := by
        show wrongE k L = 0
        unfold wrongE
        rw [if_neg HL.out, if_pos HS.out]
      go_wp2_with fail
      go_ret
      exact ⟨ret_int (by rw [H.out]; rfl), hb⟩

end Go.Proofs.Ytmlboaejkmffjad
