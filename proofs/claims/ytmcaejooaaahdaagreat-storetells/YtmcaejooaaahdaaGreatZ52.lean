/-
  Texts of the proof, joined: Ref, RefMat, RefLay, DRows, DSpare.
-/
import Derived.Test.YtmcaejooaaahdaaGreatZ51
import Derived.Test.YtmcaejooaaahdaaGreatZ08
import Derived.Test.YtmcaejooaaahdaaGreatZ09
import Derived.StillTailTactics
namespace Go.Proofs.YtmcaejooaaahdaaGreat
open Go.RowKit

theorem bit_i64w (b : Int) (k : Nat) (g0 : 0 ≤ b) (g1 : b < 32768) : (bits .and .i64 (b / 2 ^ k) 1 == 1) = decide (b.toNat / 2 ^ k % 2 = 1) := by
  have hd := div_bd b k g0
  rw [i64_and _ _ hd.1 (by omega) (by decide) (by decide), bit_nat b k g0, show (1 : Int).toNat = 1 from rfl, nat_mask1]
  generalize b.toNat / 2 ^ k % 2 = m
  rw [Bool.eq_iff_iff, beq_iff_eq, decide_eq_true_iff]
  omega
/-- A shift to the left that stays small. -/
theorem shl_small (a : Int) (k : Nat) (h0 : 0 ≤ a) (h1 : a ≤ 285) (hk : k ≤ 7) : wrap64 (a * 2 ^ k) = ((a.toNat * 2 ^ k : Nat) : Int) ∧ a.toNat * 2 ^ k < 65536 := by
  obtain ⟨A, rfl⟩ := Int.eq_ofNat_of_zero_le h0
  have h2 : 2 ^ k ≤ 2 ^ 7 := Nat.pow_le_pow_right (by decide) hk
  have h3 : A * 2 ^ k ≤ 285 * 2 ^ 7 := Nat.mul_le_mul (by omega) h2
  have e : ((A : Int) * 2 ^ k) = ((A * 2 ^ k : Nat) : Int) := by simp
  rw [e, Int.toNat_natCast]
  generalize A * 2 ^ k = m at *
  unfold wrap64
  omega

theorem raw_yes (a b : Int) (k : Nat) (hk : k < 8) (h0 : 0 ≤ a) (h1 : a ≤ 255) (g0 : 0 ≤ b) (g1 : b ≤ 255) (h : (bits .and .u8 (b / 2 ^ k) 1 == 1) = true) :
    bits .xor .i64 (Gf.rawToI a b k) (wrap64 (a * 2 ^ k)) = Gf.rawToI a b (k + 1) := by
  rw [bit_u8 b k g0 g1] at h
  have r := Gf.rawToI_bd b h0 h1 (Nat.le_of_lt hk)
  have s := shl_small a k h0 (by omega) (by omega)
  rw [s.1, i64_xor _ _ r.1 (by omega) (by omega) (by omega), Gf.rawToI_yes a b k (of_decide_eq_true h), Int.toNat_natCast]
theorem raw_no (a b : Int) (k : Nat) (g0 : 0 ≤ b) (g1 : b ≤ 255) (h : (bits .and .u8 (b / 2 ^ k) 1 == 1) = false) :
    Gf.rawToI a b k = Gf.rawToI a b (k + 1) := by
  rw [bit_u8 b k g0 g1] at h
  rw [Gf.rawToI_no a b k (of_decide_eq_false h)]
theorem red_yes (a b : Int) (j : Nat) (hj : j < 7) (h0 : 0 ≤ a) (h1 : a ≤ 255) (h : (bits .and .i64 (Gf.redToI a b j / 2 ^ (14 - j)) 1 == 1) = true) :
    bits .xor .i64 (Gf.redToI a b j) (wrap64 (285 * 2 ^ (14 - j - 8))) = Gf.redToI a b (j + 1) := by
  have r := Gf.redToI_bd b h0 h1 (Nat.le_of_lt hj)
  rw [bit_i64w _ _ r.1 r.2] at h
  have s := shl_small 285 (14 - j - 8) (by decide) (by decide) (by omega)
  rw [s.1, i64_xor _ _ r.1 (by omega) (by omega) (by omega), Gf.redToI_yes a b j (of_decide_eq_true h), Int.toNat_natCast, show 14 - j - 8 = 6 - j by omega]
  rfl
theorem red_no (a b : Int) (j : Nat) (hj : j < 7) (h0 : 0 ≤ a) (h1 : a ≤ 255) (h : (bits .and .i64 (Gf.redToI a b j / 2 ^ (14 - j)) 1 == 1) = false) :
    Gf.redToI a b j = Gf.redToI a b (j + 1) := by
  have r := Gf.redToI_bd b h0 h1 (Nat.le_of_lt hj)
  rw [bit_i64w _ _ r.1 r.2] at h
  rw [Gf.redToI_no a b j (of_decide_eq_false h)]

set_option maxHeartbeats 1000000 in
theorem refMul_any (a b : Int) (w : World) (h0 : 0 ≤ a) (h1 : a ≤ 255) (g0 : 0 ≤ b) (g1 : b ≤ 255) :
    Calls Tryz.prog 125 #[.int .u8 a, .int .u8 b] w fun e w' => e = .returned (.int .u8 (Gf.mulI a b)) ∧ w = w' := by
  go_enter Tryz.func125, Tryz.ntmps125
  go_wp2_with fail
  go_loop [6, 7] (fun s i => ∃ k : Nat, k ≤ 8 ∧ i = .int .i64 k ∧ s = .int .i64 (Gf.rawToI a b k)) (fun _ i => 8 - (intOf i).toNat)
  case atStart => exact ⟨0, Nat.zero_le _, rfl, rfl⟩
  case round =>
    obtain ⟨k, hk, rfl, rfl⟩ := hrel
    by_cases hlt : k < 8
    · go_wp2
      · have hy : (bits BinOp.and IntKind.u8 (b / 2 ^ k) 1 == 1) = true := by assumption
        exact ⟨⟨k + 1, by omega, by go_num, val_int (raw_yes a b k hlt h0 h1 g0 g1 hy)⟩, by simp [intOf]; omega⟩
      · have hy : (bits BinOp.and IntKind.u8 (b / 2 ^ k) 1 == 1) = false := by assumption
        exact ⟨⟨k + 1, by omega, by go_num, val_int (raw_no a b k g0 g1 hy)⟩, by simp [intOf]; omega⟩
    · have e8 : k = 8 := by omega
      subst e8
      go_wp2
      go_loop [6, 8] (fun s i => ∃ j : Nat, j ≤ 7 ∧ i = .int .i64 (14 - (j : Int)) ∧ s = .int .i64 (Gf.redToI a b j)) (fun _ i => (intOf i).toNat - 7)
      case atStart => exact ⟨0, Nat.zero_le _, rfl, rfl⟩
      case round =>
        obtain ⟨j, hj, rfl, rfl⟩ := hrel
        by_cases hlt : j < 7
        · go_wp2
          · have hy : (bits BinOp.and IntKind.i64 (Gf.redToI a b j / 2 ^ (14 - j)) 1 == 1) = true := by assumption
            exact ⟨⟨j + 1, by omega, val_int (by omega), val_int (red_yes a b j hlt h0 h1 hy)⟩, by simp [intOf]; omega⟩
          · have hy : (bits BinOp.and IntKind.i64 (Gf.redToI a b j / 2 ^ (14 - j)) 1 == 1) = false := by assumption
            exact ⟨⟨j + 1, by omega, val_int (by omega), val_int (red_no a b j hlt h0 h1 hy)⟩, by simp [intOf]; omega⟩
        · have e7 : j = 7 := by omega
          subst e7
          go_wp2
          go_ret
          exact ⟨ret_int (Gf.redToI_seven h0 h1 g0 g1), rfl⟩

theorem mulI_hit {a b : Int} (h0 : 0 ≤ a) (h1 : a ≤ 255) (g0 : 0 ≤ b) (g1 : b ≤ 255) (h : (Gf.mulI a b == 1) = true) : b = Gf.raiseI a 254 := by
  have e : Gf.mulI a b = 1 := by simpa using h
  have u := Gf.inv_uniq (a := a.toNat) (b := b.toNat) (by omega) (by omega) (by unfold Gf.mulI at e; omega)
  show b = ((Gf.inv a.toNat : Nat) : Int)
  omega
theorem mulI_none {a : Int} (h0 : 0 ≤ a) (h1 : a ≤ 255) (h : ∀ c : Nat, 1 ≤ c → c < 256 → Gf.mulI a c ≠ 1) : Gf.raiseI a 254 = 0 := by
  by_cases ha : a = 0
  · rw [ha]
    show ((Gf.inv 0 : Nat) : Int) = 0
    rw [Gf.inv_zero]
    rfl
  · exfalso
    have i := Gf.inv_lt a.toNat
    have n := Gf.inv_ne (a := a.toNat) (by omega) (by omega)
    refine h (Gf.inv a.toNat) (by omega) i ?_
    unfold Gf.mulI
    rw [Int.toNat_natCast, Gf.mul_inv (by omega) (by omega)]
    rfl

set_option maxRecDepth 100000 in
set_option maxHeartbeats 1000000 in
theorem refInv_any (a : Int) (w : World) (h0 : 0 ≤ a) (h1 : a ≤ 255) :
    Calls Tryz.prog 154 #[.int .u8 a] w fun e w' => e = .returned (.int .u8 (Gf.raiseI a 254)) ∧ w = w' := by
  go_enter Tryz.func154, Tryz.ntmps154
  go_wp2_with fail
  go_loop [3] (fun i => ∃ k : Nat, 1 ≤ k ∧ k ≤ 256 ∧ i = .int .i64 k ∧ Hid (∀ c : Nat, 1 ≤ c → c < k → Gf.mulI a c ≠ 1)) (fun i => 256 - (intOf i).toNat)
  case atStart => exact ⟨1, by omega, by omega, rfl, fun c h g => absurd g (by omega)⟩
  case round =>
    obtain ⟨k, hk1, hk, rfl, HN⟩ := hrel
    by_cases hlt : k < 256
    · have l1 : (k : Int) ≤ 255 := by omega
      by_cases hh : (Gf.mulI a k == 1) = true
      · go_wp2_with fail
        refine (refMul_any _ _ _ h0 h1 (by omega) (by omega)).mono ?_
        rintro e w1 ⟨rfl, rfl⟩
        go_wp2_with fail
        go_ret
        exact ⟨ret_int (mulI_hit h0 h1 (by omega) l1 hh), rfl⟩
      · have hh' : (Gf.mulI a k == 1) = false := by simpa using hh
        clear hh
        go_wp2_with fail
        refine (refMul_any _ _ _ h0 h1 (by omega) (by omega)).mono ?_
        rintro e w1 ⟨rfl, rfl⟩
        go_wp2_with fail
        refine ⟨⟨k + 1, by omega, by omega, by go_num, ?_⟩, by simp [intOf]; omega⟩
        intro c hc1 hc2
        by_cases hck : c = k
        · subst hck
          simpa using hh'
        · exact HN.out c hc1 (by omega)
    · have e8 : k = 256 := by omega
      subst e8
      go_wp2_with fail
      go_ret
      exact ⟨ret_int (mulI_none h0 h1 HN.out).symm, rfl⟩

end Go.Proofs.YtmcaejooaaahdaaGreat

namespace Go.Proofs.YtmcaejooaaahdaaGreat
open Go.RowKit

theorem refMul_nat (a b : Nat) (w : World) (ha : a < 256) (hb : b < 256) :
    Calls Tryz.prog 125 #[.int .u8 (a : Int), .int .u8 (b : Int)] w fun e w' => e = .returned (.int .u8 ((Gf.mul a b : Nat) : Int)) ∧ w = w' := by
  rw [← mulI_nat]
  exact refMul_any _ _ _ (by omega) (by omega) (by omega) (by omega)
theorem refInv_nat (a : Nat) (w : World) (ha : a < 256) :
    Calls Tryz.prog 154 #[.int .u8 (a : Int)] w fun e w' => e = .returned (.int .u8 ((Gf.inv a : Nat) : Int)) ∧ w = w' := by
  have h : Gf.raiseI (a : Int) 254 = ((Gf.inv a : Nat) : Int) := by
    unfold Gf.raiseI Gf.inv
    rw [Int.toNat_natCast]
    rfl
  rw [← h]
  exact refInv_any _ _ (by omega) (by omega)

set_option maxHeartbeats 1000000 in
theorem refWrong_any (v : Value) (n : Nat) (L : Nat → Nat) (f : Nat → Nat → Nat) (w : World) (h : Arg w v n L f) :
    Calls Tryz.prog 124 #[v] w fun e w' => e = .returned (.int .i64 (wrongE n L : Nat)) ∧ Below w.heap.size w w' := by
  obtain ⟨A, cap, R, C, rfl, hr⟩ := h.lies
  clear h
  by_cases h1 : n < 1
  · have H : Hid (wrongE n L = 5) := by show wrongE n L = 5; unfold wrongE; rw [if_pos (Or.inl h1)]
    have h1' : n = 0 := by omega
    subst h1'
    clear hr h1
    go_enter Tryz.func124, Tryz.ntmps124
    go_wp2_with fail
    go_ret
    exact ⟨ret_int (by rw [H.out]; rfl), Below.refl _ _⟩
  have h1' : ((n : Int) == 0) = false := by rw [beq_eq_false_iff_ne]; omega
  by_cases h2 : 12 < n
  · have H : Hid (wrongE n L = 5) := by show wrongE n L = 5; unfold wrongE; rw [if_pos (Or.inr (Or.inl h2))]
    have h2' : (12 : Int) < (n : Int) := by omega
    clear hr h1 h2
    go_enter Tryz.func124, Tryz.ntmps124
    go_wp2_with fail
    go_ret
    exact ⟨ret_int (by rw [H.out]; rfl), Below.refl _ _⟩
  obtain ⟨b, o, rfl, hc0, _⟩ := hr 0 (by omega)
  have hc : ∀ r, r < n → w.cell? ⟨b, o + r, none⟩ = some (.slice (R r) (L r) (C r)) := fun r hrn => by
    obtain ⟨b', o', e1, e2, _⟩ := hr r hrn
    cases e1
    exact e2
  clear hr
  have h2' : ¬ (12 : Int) < (n : Int) := by omega
  have h0' : (0 : Int) < (n : Int) := by omega
  have h0n : 0 < n := by omega
  have hc0' : w.cell? ⟨b, o, none⟩ = some (.slice (R 0) (L 0) (C 0)) := by simpa using hc0
  clear hc0
  by_cases h3 : L 0 < 1
  · have H : Hid (wrongE n L = 5) := by show wrongE n L = 5; unfold wrongE; rw [if_pos (Or.inr (Or.inr (Or.inl h3)))]
    have h3' : L 0 = 0 := by omega
    rw [h3'] at hc0'
    clear h1 h2 h3 hc h3'
    go_enter Tryz.func124, Tryz.ntmps124
    go_wp2_with fail
    go_ret
    exact ⟨ret_int (by rw [H.out]; rfl), Below.refl _ _⟩
  have h3' : ((L 0 : Int) == 0) = false := by rw [beq_eq_false_iff_ne]; omega
  by_cases h4 : 400 < L 0
  · have H : Hid (wrongE n L = 5) := by show wrongE n L = 5; unfold wrongE; rw [if_pos (Or.inr (Or.inr (Or.inr h4)))]
    have h4' : (400 : Int) < (L 0 : Int) := by omega
    clear h1 h2 h3 h4 hc
    go_enter Tryz.func124, Tryz.ntmps124
    go_wp2_with fail
    go_ret
    exact ⟨ret_int (by rw [H.out]; rfl), Below.refl _ _⟩
  have h4' : ¬ (400 : Int) < (L 0 : Int) := by omega
  have HL : Hid (¬ (n < 1 ∨ 12 < n ∨ L 0 < 1 ∨ 400 < L 0)) := by show ¬ _; omega
  have HC : Hid (∀ r, r < n → w.cell? ⟨b, o + r, none⟩ = some (.slice (R r) (L r) (C r))) := hc
  clear h1 h2 h3 h4 hc
  go_enter Tryz.func124, Tryz.ntmps124
  go_wp2_with fail
  go_loopw [28] (fun i wr => ∃ k : Nat, k ≤ n ∧ i = .int .i64 k ∧ Hid (∀ r, r < k → L r = L 0) ∧ Below w.heap.size w wr) (fun i _ => n - (intOf i).toNat)
  case atStart => exact ⟨0, Nat.zero_le _, rfl, fun r hr => absurd hr (Nat.not_lt_zero r), Below.refl _ _⟩
  case round =>
    obtain ⟨k, hk, rfl, HS, hb⟩ := hrel
    have c0 := (hb.cell (p := ⟨b, o, none⟩) (World.block_lt_of_cell? _ _ hc0')).trans hc0'
    clear hc0'
    by_cases hlt : k < n
    · have hlt' : (k : Int) < (n : Int) := by omega
      have ck := (hb.cell (p := ⟨b, o + k, none⟩) (World.block_lt_of_cell? _ _ (HC.out k hlt))).trans (HC.out k hlt)
      by_cases hy : L k = L 0
      · rw [hy] at ck
        have HY : Hid (L k = L 0) := hy
        clear hy
        go_wp2_with fail
        go_region
        go_wp2_with fail
        refine ⟨⟨k + 1, by omega, by go_num, fun r hr => ?_, hb.drew⟩, by simp [intOf]; omega⟩
        by_cases e : r = k
        · rw [e]; exact HY.out
        · exact HS.out r (by omega)
      · have hy' : ((L k : Int) == (L 0 : Int)) = false := by rw [beq_eq_false_iff_ne]; omega
        have H : Hid (wrongE n L = 2) := by
          show wrongE n L = 2
          unfold wrongE
          rw [if_neg HL.out, if_neg (fun h => hy (h k hlt))]
        clear hy
        go_wp2_with fail
        go_region
        go_wp2_with fail
        go_ret
        exact ⟨ret_int (by rw [H.out]; rfl), hb.drew⟩
    · have e8 : k = n := by omega
      subst e8
      have H : Hid (wrongE k L = 0) := by
        show wrongE k L = 0
        unfold wrongE
        rw [if_neg HL.out, if_pos HS.out]
      go_wp2_with fail
      go_ret
      exact ⟨ret_int (by rw [H.out]; rfl), hb⟩

end Go.Proofs.YtmcaejooaaahdaaGreat

namespace Go.Proofs.YtmcaejooaaahdaaGreat
open Go.RowKit

theorem refMul_same (a b : Nat) (w : World) (ha : a < 256) (hb : b < 256) :
    Calls Tryz.prog 125 #[.int .u8 (a : Int), .int .u8 (b : Int)] w fun e w' => e = .returned (.int .u8 ((Gf.mul a b : Nat) : Int)) ∧ w' = w :=
  (refMul_nat a b w ha hb).mono fun _ _ ⟨h1, h2⟩ => ⟨h1, h2.symm⟩

/-- The bytes of a row so far. -/
def rowTo (f : Nat → Nat) (j : Nat) : List Value := (List.range j).map fun l => .int .u8 (f l : Nat)
theorem cell_new {w : World} {t : TypeId} {x : Value} : ∀ j u, [x][j]? = some u → (w.alloc (.cells #[x] t)).cell? ((⟨w.heap.size, 0, none⟩ : Addr).add j) = some u := by
  intro j u hj
  match j, hj with
  | 0, hj =>
    simp at hj
    subst hj
    simp [Addr.add]
  | j + 1, hj => simp at hj

end Go.Proofs.YtmcaejooaaahdaaGreat

namespace Go.Proofs.YtmcaejooaaahdaaGreat
open Go.RowKit

set_option maxHeartbeats 400000 in
theorem refWrongC_any (d s : Int) (w : World) :
    Calls Tryz.prog 13 #[.int .i64 d, .int .i64 s] w fun e w' => e = .returned (.int .i64 (wrongC d s : Nat)) ∧ Below w.heap.size w w' := by
  by_cases h1 : d < 1
  · have H : Hid (wrongC d s = 5) := wrongC_bad (by omega)
    go_enter Tryz.func13, Tryz.ntmps13
    go_wp2_with fail
    go_ret
    exact ⟨ret_int (by rw [H.out]; rfl), Below.refl _ _⟩
  by_cases h2 : 8 < d
  · have H : Hid (wrongC d s = 5) := wrongC_bad (by omega)
    go_enter Tryz.func13, Tryz.ntmps13
    go_wp2_with fail
    go_ret
    exact ⟨ret_int (by rw [H.out]; rfl), Below.refl _ _⟩
  by_cases h3 : s < 0
  · have H : Hid (wrongC d s = 5) := wrongC_bad (by omega)
    go_enter Tryz.func13, Tryz.ntmps13
    go_wp2_with fail
    go_ret
    exact ⟨ret_int (by rw [H.out]; rfl), Below.refl _ _⟩
  by_cases h4 : 4 < s
  · have H : Hid (wrongC d s = 5) := wrongC_bad (by omega)
    go_enter Tryz.func13, Tryz.ntmps13
    go_wp2_with fail
    go_ret
    exact ⟨ret_int (by rw [H.out]; rfl), Below.refl _ _⟩
  have H : Hid (wrongC d s = 0) := wrongC_ok (by omega)
  go_enter Tryz.func13, Tryz.ntmps13
  go_wp2_with fail
  go_ret
  exact ⟨ret_int (by rw [H.out]; rfl), Below.refl _ _⟩

set_option maxHeartbeats 400000 in
theorem refRows_bad (d s : Int) (w : World) (h : d < 1 ∨ 8 < d ∨ s < 0 ∨ 4 < s) :
    Calls Tryz.prog 123 #[.int .i64 d, .int .i64 s] w fun e w' => e = .returned (.tuple #[.slice none 0 0, .int .i64 5]) ∧ Below w.heap.size w w' := by
  have H := refWrongC_any d s
  rw [wrongC_bad h] at H
  clear h
  go_enter Tryz.func123, Tryz.ntmps123
  go_wp2_with fail
  refine (H _).mono ?_
  rintro e w1 ⟨rfl, b1⟩
  go_wp2_with fail
  go_ret2
  exact ⟨rfl, b1⟩

theorem rowIs_same {w : World} {g : Nat} {t : TypeId} {n k : Nat} {f h : Nat → Nat} (hr : w.rowIs g t n (fun j => .int .u8 (upto k h f j : Nat))) (e : h k = f k) : w.rowIs g t n (fun j => .int .u8 (upto (k + 1) h f j : Nat)) :=
  hr.congr (fun j _ => by
    rw [upto_step]
    by_cases ej : j = k
    · rw [if_pos ej, ej, upto_here, e]
    · rw [if_neg ej])

set_option maxHeartbeats 2000000 in
theorem refRows_any (n s : Nat) (w : World) (h1 : 1 ≤ n) (h2 : n ≤ 8) (h3 : s ≤ 4) :
    Calls Tryz.prog 123 #[.int .i64 (n : Int), .int .i64 (s : Int)] w fun e w' =>
      ∃ g cap, e = .returned (.tuple #[.slice (some ⟨g, 0, none⟩) (n + s) cap, .int .i64 0]) ∧ n + s ≤ cap ∧ (∃ G K, MatAt w' g 0 (n + s) n G (fun _ => 0) K (Gf.rowF n)) ∧ Below w.heap.size w w' := by
  have H := refWrongC_any n s
  rw [wrongC_ok (show ¬ ((n : Int) < 1 ∨ 8 < (n : Int) ∨ (s : Int) < 0 ∨ 4 < (s : Int)) by omega)] at H
  obtain ⟨i0, hi, hh⟩ := Option.map_eq_some_iff.1 Tryz.infoRow
  simp only [Prod.mk.injEq] at hh
  obtain ⟨hz0, hz1, hz2⟩ := hh
  have hmk := run_make_row' (P := Tryz.prog) 59 5 (.int .u8 0) 1 Tryz.underlying59 Tryz.infoByte rfl .i64 .i64 n (by omega) (by omega)
  go_enter Tryz.func123, Tryz.ntmps123
  go_wp2_with fail
  refine (H _).mono ?_
  rintro e w1 ⟨rfl, b1⟩
  clear H
  go_wp2_with fail
  go_loopw [7, 8] (fun v x wr => ∃ k : Nat, k ≤ n + s ∧ x = .int .i64 k ∧ (∃ G K, Acc wr w.heap.size v k n G K (Gf.rowF n)) ∧ Below w.heap.size w wr) (fun _ x _ => (n + s) - (intOf x).toNat)
  case atStart => exact ⟨0, Nat.zero_le _, rfl, ⟨fun _ => 0, fun _ => 0, Acc.start w1 _ n _ _ _⟩, b1⟩
  case round =>
    clear b1
    obtain ⟨k, hk, rfl, ⟨G, K, hA⟩, hb⟩ := hrel
    obtain ⟨wo, rfl⟩ : ∃ x, x = wr := ⟨wr, rfl⟩
    by_cases hlt : k < n + s
    · have hlt' : (k : Int) < (n : Int) + (s : Int) := by omega
      go_wp2_with fail
      go_loopw [28] (fun z wi => ∃ j : Nat, j ≤ n ∧ z = .int .i64 j ∧ wi.rowIs wo.heap.size 5 n (fun x => .int .u8 (upto j (Gf.rowF n k) (fun _ => 0) x : Nat)) ∧ Below wo.heap.size wo wi) (fun z _ => n - (intOf z).toNat)
      case atStart => exact ⟨0, Nat.zero_le _, rfl, (World.rowIs_made wo (.int .u8 0) n 5).congr (fun j _ => by rw [show upto 0 (Gf.rowF n k) (fun _ => 0) j = 0 from if_neg (Nat.not_lt_zero _)]; rfl), (Below.refl _ _).alloc (Nat.le_refl _) _⟩
      case round =>
        obtain ⟨j, hj, rfl, hw, hbi⟩ := hrel
        by_cases hjn : j < n
        · have hj' : (j : Int) < (n : Int) := by omega
          have hc := hw.cell hjn
          have hfz := hw.frozen j
          by_cases hkn : n ≤ k
          · have hkn' : (n : Int) ≤ (k : Int) := by omega
            have hx : k ^^^ j < 256 := Gf.xor_lt (by omega) (by omega)
            have hxor : bits .xor .i64 (k : Int) (j : Int) = ((k ^^^ j : Nat) : Int) := by
              rw [i64_xor _ _ (by omega) (by omega) (by omega) (by omega), Int.toNat_natCast, Int.toNat_natCast]
            have hwb := wrap_byte hx
            have HP := row_step (h := Gf.rowF n k) hw
            rw [show Gf.rowF n k j = Gf.inv (k ^^^ j) from Gf.rowF_inv hkn j] at HP
            clear hw
            go_wp2_with fail
            refine (refInv_nat _ _ hx).mono ?_
            rintro e w2 ⟨rfl, rfl⟩
            go_wp2_with fail
            exact ⟨⟨j + 1, by omega, by go_num, HP, hbi.setCell (p := ⟨wo.heap.size, j, none⟩) (Nat.le_refl _) _⟩, by simp [intOf]; omega⟩
          · have hkn' : ¬ (n : Int) ≤ (k : Int) := by omega
            by_cases hkj : k = j
            · subst hkj
              have HP := row_step (h := Gf.rowF n k) hw
              rw [show Gf.rowF n k k = 1 from (Gf.rowF_one (by omega) k).trans (Gf.one_self k)] at HP
              clear hw
              go_wp2_with fail
              exact ⟨⟨k + 1, by omega, by go_num, HP, hbi.setCell (p := ⟨wo.heap.size, k, none⟩) (Nat.le_refl _) _⟩, by simp [intOf]; omega⟩
            · have hkj' : ((k : Int) == (j : Int)) = false := by rw [beq_eq_false_iff_ne]; omega
              have HP := rowIs_same hw ((Gf.rowF_one (by omega) j).trans (Gf.one_ne hkj))
              clear hw hkj
              go_wp2_with fail
              exact ⟨⟨j + 1, by omega, by go_num, HP, hbi⟩, by simp [intOf]; omega⟩
        · have ej : j = n := by omega
          subst ej
          have hF : RowC wr wo.heap.size 5 j (fun x => .int .u8 (Gf.rowF j k x : Nat)) := rowC_of (hw.congr (fun x hx => by rw [show upto j (Gf.rowF j k) (fun _ => 0) x = Gf.rowF j k x from if_pos hx]))
          have hbX := (Below.refl wr.heap.size wr).alloc (Nat.le_refl _) (.cells #[.slice (some ⟨wo.heap.size, 0, none⟩) j j] 59)
          have AX := (hA.below hbi).below hbX
          have rX := hF.alloc (.cells #[.slice (some ⟨wo.heap.size, 0, none⟩) j j] 59)
          have bX := bt (bt hb hbi) hbX
          clear hw hF hA hmk
          go_wp2_with (at_builtin; refine wpList_append_own _ rfl (.tmp 49) (.tmp 51) 169 rfl w.heap.size 59 i0 (.slice none 0 0) 1 24 Tryz.underlying169 hi hz0 hz1 hz2 rfl (by decide) _ _ _ rfl AX.own ⟨wr.heap.size, 0, none⟩ 1 1 [.slice (some ⟨wo.heap.size, 0, none⟩) j j] rfl rfl cell_one (by intro u hu; simp at hu; subst hu; rfl) (by unfold maxLen; omega) (by omega) bX.size ?_; intro v1 w4 hown1 hgrow1 _)
          have A1 := AX.step ⟨hb.size, rX⟩ hown1 hgrow1
          have b4 : Below w.heap.size w w4 := bX.grown hgrow1 bX.size (fun x hx => (AX.own.lt x hx).1)
          clear hown1 hgrow1 AX rX bX hbX hbi
          go_wp2_with fail
          exact ⟨⟨k + 1, by omega, by go_num, ⟨_, _, A1⟩, b4⟩, by simp [intOf]; omega⟩
    · have e8 : k = n + s := by omega
      subst e8
      have hnl : ¬ ((n + s : Nat) : Int) < (n : Int) + (s : Int) := by omega
      obtain ⟨g, cap, rfl, _, hc, hm⟩ := hA.mat (by omega)
      clear hA hlt hmk
      go_wp2_with fail
      go_ret2
      exact ⟨g, cap, rfl, hc, ⟨G, K, hm⟩, hb⟩

end Go.Proofs.YtmcaejooaaahdaaGreat

namespace Go.Proofs.YtmcaejooaaahdaaGreat
open Go.RowKit

set_option maxHeartbeats 400000 in
theorem refSpare_bad1 (v : Value) (n : Nat) (A : Option Addr) (cap : Nat) (hv : v = .slice A n cap) (s : Int) (w : World) (h : (n : Int) < 1 ∨ 8 < (n : Int) ∨ s < 0 ∨ 4 < s) :
    Calls Tryz.prog 94 #[v, .int .i64 s] w fun e w' => e = .returned (.tuple #[.slice none 0 0, .int .i64 5]) ∧ Below w.heap.size w w' := by
  subst hv
  have H := fun w => refRows_bad n s w h
  clear h
  go_enter Tryz.func94, Tryz.ntmps94
  go_wp2_with fail
  refine (H _).mono ?_
  rintro e w1 ⟨rfl, b1⟩
  go_wp2_with fail
  go_ret2
  exact ⟨rfl, b1⟩

set_option maxHeartbeats 400000 in
theorem refSpare_bad2 (v : Value) (n s : Nat) (L : Nat → Nat) (f : Nat → Nat → Nat) (w : World) (h : Arg w v n L f) (h1 : 1 ≤ n) (h2 : n ≤ 8) (h3 : s ≤ 4) (hx : wrongE n L ≠ 0) :
    Calls Tryz.prog 94 #[v, .int .i64 (s : Int)] w fun e w' => e = .returned (.tuple #[.slice none 0 0, .int .i64 (wrongE n L : Nat)]) ∧ Below w.heap.size w w' := by
  have HW := fun w' hb' => refWrong_any v n L f w' (h.below (w' := w') hb')
  have HR := fun w => refRows_any n s w h1 h2 h3
  obtain ⟨A, cap, R, C, rfl, _⟩ := h.lies
  generalize wrongE n L = x at HW hx
  have hx' : ((x : Int) == 0) = false := by rw [beq_eq_false_iff_ne]; omega
  clear h hx
  go_enter Tryz.func94, Tryz.ntmps94
  go_wp2_with fail
  refine (HR _).mono ?_
  rintro e w1 ⟨g, cp, rfl, _, _, b1⟩
  go_wp2_with fail
  refine (HW _ b1).mono ?_
  rintro e w2 ⟨rfl, b2⟩
  go_wp2_with fail
  go_ret2
  exact ⟨rfl, bt b1 b2⟩

set_option maxHeartbeats 400000 in
theorem refSpare_none (v : Value) (n : Nat) (L : Nat → Nat) (f : Nat → Nat → Nat) (w : World) (h : Arg w v n L f) (h1 : 1 ≤ n) (h2 : n ≤ 8) (hx : wrongE n L = 0) :
    Calls Tryz.prog 94 #[v, .int .i64 0] w fun e w' => e = .returned (.tuple #[.slice none 0 0, .int .i64 0]) ∧ Below w.heap.size w w' := by
  have HW := fun w' hb' => refWrong_any v n L f w' (h.below (w' := w') hb')
  have HR := fun w => refRows_any n 0 w h1 h2 (by omega)
  obtain ⟨A, cap, R, C, rfl, _⟩ := h.lies
  rw [hx] at HW
  clear h hx
  go_enter Tryz.func94, Tryz.ntmps94
  go_wp2_with fail
  refine (HR _).mono ?_
  rintro e w1 ⟨g, cp, rfl, hcp, _, b1⟩
  go_wp2_with fail
  refine (HW _ b1).mono ?_
  rintro e w2 ⟨rfl, b2⟩
  have b2 := bt b1 b2
  by_cases hcn : cp = n
  · subst hcn
    go_wp2_with fail
    refine wp_loop_rounds 1 ?_
    rw [rounds_succ]
    go_wp2_with fail
    go_ret2
    exact ⟨rfl, b2⟩
  · go_wp2_with fail
    refine wp_loop_rounds 1 ?_
    rw [rounds_succ]
    go_wp2_with fail
    go_ret2
    exact ⟨rfl, b2⟩

/-- A row whose first k bytes are told, the byte at k being d. -/
def midR (k d : Nat) (M : Nat → Nat) (x : Nat) : Nat := if x < k then M x else if x = k then d else 0
theorem midR_start (k : Nat) (M : Nat → Nat) (x : Nat) : midR k 0 M x = upto k M (fun _ => 0) x := by
  unfold midR upto
  by_cases h : x < k
  · rw [if_pos h, if_pos h]
  · rw [if_neg h, if_neg h]
    split <;> rfl
theorem midR_done (k : Nat) (M : Nat → Nat) (x : Nat) : midR k (M k) M x = upto (k + 1) M (fun _ => 0) x := by
  unfold midR upto
  by_cases h : x < k
  · rw [if_pos h, if_pos (by omega)]
  · rw [if_neg h]
    by_cases e : x = k
    · rw [if_pos e, if_pos (by omega), e]
    · rw [if_neg e, if_neg (by omega)]
theorem midR_here (k d : Nat) (M : Nat → Nat) : midR k d M k = d := by
  unfold midR
  rw [if_neg (Nat.lt_irrefl _), if_pos rfl]
theorem midR_step {w : World} {g : Nat} {t : TypeId} {c k d d' : Nat} {M : Nat → Nat} (h : w.rowIs g t c (fun x => .int .u8 (midR k d M x : Nat))) : (w.setCell ⟨g, k, none⟩ (.int .u8 (d' : Nat))).rowIs g t c (fun x => .int .u8 (midR k d' M x : Nat)) :=
  (h.set k _).congr (fun x _ => by
    unfold midR
    by_cases e : x = k
    · rw [if_pos e, if_neg (by omega), if_pos e]
    · rw [if_neg e, if_neg e, if_neg e])

set_option maxRecDepth 100000 in
set_option maxHeartbeats 2000000 in
theorem refSpare_acc (v : Value) (n s c : Nat) (f : Nat → Nat → Nat) (w : World) (h : Mx w v n c f) (h2 : n ≤ 8) (h3 : 1 ≤ s) (h4 : s ≤ 4) :
    Calls Tryz.prog 94 #[v, .int .i64 (s : Int)] w fun e w' => ∃ v' N G K, e = .returned (.tuple #[v', .int .i64 0]) ∧ w.heap.size ≤ N ∧ Acc w' N v' s c G K (Gf.mm n (spareF n) f) ∧ (∀ j, j < s → K j = c) ∧ Below w.heap.size w w' := by
  obtain ⟨d1, d2, d3, d4⟩ := h.dim
  have HW := fun w' hb' => refWrong_any v n _ f w' (h.below (w' := w') hb').arg
  have HR := fun w => refRows_any n s w d1 h2 h4
  rw [h.ok] at HW
  have hbd := h.bd
  obtain ⟨bb, ob, pb, Gb, Ob, Kb, rfl, hml⟩ := h.lies
  obtain ⟨i0, hi, hh⟩ := Option.map_eq_some_iff.1 Tryz.infoRow
  simp only [Prod.mk.injEq] at hh
  obtain ⟨hz0, hz1, hz2⟩ := hh
  have hmk := run_make_row' (P := Tryz.prog) 59 5 (.int .u8 0) 1 Tryz.underlying59 Tryz.infoByte rfl .i64 .i64 c (by omega) (by omega)
  have h0n : (0 : Int) < (n : Int) := by omega
  clear h
  go_enter Tryz.func94, Tryz.ntmps94
  go_wp2_with fail
  refine (HR _).mono ?_
  rintro e w1 ⟨g, cp, rfl, hcp, ⟨G, K, hm⟩, b1⟩
  go_wp2_with fail
  refine (HW _ b1).mono ?_
  rintro e w2 ⟨rfl, b2⟩
  have hm := (hm.below b2).spare
  have b2 := bt b1 b2
  have hcn : ¬ cp = n := by omega
  have hle : (n : Int) ≤ ((n + s : Nat) : Int) := by omega
  clear HR HW b1
  go_wp2_with fail
  go_loopw [9, 35] (fun v x wr => ∃ i : Nat, i ≤ s ∧ x = .int .i64 i ∧ (∃ G K, Acc wr w2.heap.size v i c G K (Gf.mm n (spareF n) f) ∧ Hid (∀ j, j < i → K j = c)) ∧ Below w2.heap.size w2 wr) (fun _ x _ => s - (intOf x).toNat)
  case atStart => exact ⟨0, Nat.zero_le _, rfl, ⟨fun _ => 0, fun _ => 0, Acc.start w2 _ c _ _ _, fun j hj => absurd hj (Nat.not_lt_zero j)⟩, Below.refl _ _⟩
  case round =>
    obtain ⟨i, hik, rfl, ⟨G2, K2, hA, HK⟩, hbo⟩ := hrel
    obtain ⟨wo, rfl⟩ : ∃ x, x = wr := ⟨wr, rfl⟩
    by_cases hlt : i < s
    · have hlt' : (i : Int) < (s : Int) := by omega
      have t1 := (hm.below hbo).top i hlt
      have t2 : wo.cell? ⟨bb, ob, none⟩ = some (.slice (some ⟨Gb 0, Ob 0, none⟩) c (Kb 0)) := by simpa using (hml.below (bt b2 hbo)).top 0 (by omega)
      go_wp2_with fail
      clear t1 t2 hmk
      go_loopw [46] (fun x wm => ∃ k : Nat, k ≤ c ∧ x = .int .i64 k ∧ wm.rowIs wo.heap.size 5 c (fun y => .int .u8 (upto k (Gf.mm n (spareF n) f i) (fun _ => 0) y : Nat)) ∧ Below wo.heap.size wo wm) (fun x _ => c - (intOf x).toNat)
      case atStart => exact ⟨0, Nat.zero_le _, rfl, (World.rowIs_made wo (.int .u8 0) c 5).congr (fun j _ => by rw [show upto 0 (Gf.mm n (spareF n) f i) (fun _ => 0) j = 0 from if_neg (Nat.not_lt_zero _)]; rfl), (Below.refl _ _).alloc (Nat.le_refl _) _⟩
      case round =>
        obtain ⟨k, hkc, rfl, hR, hbm⟩ := hrel
        obtain ⟨wm, rfl⟩ : ∃ x, x = wr := ⟨wr, rfl⟩
        by_cases hk : k < c
        · have hk' : (k : Int) < (c : Int) := by omega
          go_wp2_with fail
          go_loopw [51] (fun x wi => ∃ j : Nat, j ≤ n ∧ x = .int .i64 j ∧ wi.rowIs wo.heap.size 5 c (fun y => .int .u8 (midR k (Gf.dot j (spareF n i) (fun l => f l k)) (Gf.mm n (spareF n) f i) y : Nat)) ∧ Below wo.heap.size wo wi) (fun x _ => n - (intOf x).toNat)
          case atStart => exact ⟨0, Nat.zero_le _, rfl, hR.congr (fun y _ => by rw [show Gf.dot 0 (spareF n i) (fun l => f l k) = 0 from rfl, midR_start]), hbm⟩
          case round =>
            clear hR hbm
            obtain ⟨j, hjn, rfl, hJ, hbi⟩ := hrel
            by_cases hj : j < n
            · have hj' : (j : Int) < (n : Int) := by omega
              have hmr := (hm.below hbo).below hbi
              have hlr := (hml.below (bt b2 hbo)).below hbi
              have u1 := hJ.cell hk
              rw [midR_here] at u1
              have z1 := hJ.frozen k
              have u2 := hmr.row i hlt j hj
              have u3 := hlr.top j hj
              have u4 := hlr.row j hj k hk
              rw [Nat.zero_add] at u2
              have hxor := xor_nat (Gf.dot_lt (spareF_bd n i) (fun l => f l k) j) (Gf.mul_lt (f j k) (spareF_bd n i j))
              have HP := midR_step (d' := Gf.dot j (spareF n i) (fun l => f l k) ^^^ Gf.mul (spareF n i j) (f j k)) hJ
              have hbP := hbi.setCell (p := ⟨wo.heap.size, k, none⟩) (Nat.le_refl _) (.int .u8 ((Gf.dot j (spareF n i) (fun l => f l k) ^^^ Gf.mul (spareF n i j) (f j k) : Nat) : Int))
              have v1 : ({ wr with drawn := wr.drawn + 1 } : World).cell? ⟨wo.heap.size, k, none⟩ = some (.int .u8 (Gf.dot j (spareF n i) (fun l => f l k) : Nat)) := u1
              have v2 : ({ wr with drawn := wr.drawn + 1 } : World).cell? ⟨G (n + i), j, none⟩ = some (.int .u8 (spareF n i j : Nat)) := u2
              have v3 : ({ wr with drawn := wr.drawn + 1 } : World).cell? ⟨bb, ob + j, none⟩ = some (.slice (some ⟨Gb j, Ob j, none⟩) c (Kb j)) := u3
              have v4 : ({ wr with drawn := wr.drawn + 1 } : World).cell? ⟨Gb j, Ob j + k, none⟩ = some (.int .u8 (f j k : Nat)) := u4
              clear hmr hlr hJ
              go_wp2_with fail
              refine wp_region_still_tail 20 (by kernel_rfl) (by kernel_rfl) ?_
              simp only [List.take_succ_cons, List.take_zero, List.drop_succ_cons, List.drop_zero]
              iterate 17 still_step
              still_call (refMul_same _ _ _ (spareF_bd n i j) (hbd j k))
              iterate 2 still_step
              refine wpStill_nil ?_
              go_wp2_with fail
              exact ⟨⟨j + 1, by omega, by go_num, HP.drew, hbP.drew⟩, by simp [intOf]; omega⟩
            · have ej : j = n := by omega
              subst ej
              have HD : wr.rowIs wo.heap.size 5 c (fun y => .int .u8 (upto (k + 1) (Gf.mm j (spareF j) f i) (fun _ => 0) y : Nat)) := hJ.congr (fun y _ => by rw [← midR_done]; rfl)
              clear hJ
              go_wp2_with fail
              exact ⟨⟨k + 1, by omega, by go_num, HD, hbi⟩, by simp [intOf]; omega⟩
        · have ek : k = c := by omega
          subst ek
          have hF : RowC wm wo.heap.size 5 k (fun y => .int .u8 (Gf.mm n (spareF n) f i y : Nat)) := rowC_of (hR.congr (fun y hy => by rw [show upto k (Gf.mm n (spareF n) f i) (fun _ => 0) y = Gf.mm n (spareF n) f i y from if_pos hy]))
          have hbX := (Below.refl wm.heap.size wm).alloc (Nat.le_refl _) (.cells #[.slice (some ⟨wo.heap.size, 0, none⟩) k k] 59)
          have AX := (hA.below hbm).below hbX
          have rX := hF.alloc (.cells #[.slice (some ⟨wo.heap.size, 0, none⟩) k k] 59)
          have bX := bt (bt hbo hbm) hbX
          clear hR hF hA
          go_wp2_with (at_builtin; refine wpList_append_own _ rfl (.tmp 76) (.tmp 78) 86 rfl w2.heap.size 59 i0 (.slice none 0 0) 1 24 Tryz.underlying86 hi hz0 hz1 hz2 rfl (by decide) _ _ _ rfl AX.own ⟨wm.heap.size, 0, none⟩ 1 1 [.slice (some ⟨wo.heap.size, 0, none⟩) k k] rfl rfl cell_one (by intro u hu; simp at hu; subst hu; rfl) (by unfold maxLen; omega) (by omega) bX.size ?_; intro v1 w4 hown1 hgrow1 _)
          have A1 := AX.step ⟨hbo.size, rX⟩ hown1 hgrow1
          have b4 : Below w2.heap.size w2 w4 := bX.grown hgrow1 bX.size (fun x hx => (AX.own.lt x hx).1)
          clear hown1 hgrow1 AX rX bX hbX hbm
          go_wp2_with fail
          exact ⟨⟨i + 1, by omega, by go_num, ⟨_, _, A1, fun j hj => by
            unfold updG
            by_cases e : j = i
            · rw [if_pos e]
            · rw [if_neg e]; exact HK.out j (by omega)⟩, b4⟩, by simp [intOf]; omega⟩
    · have ei : i = s := by omega
      subst ei
      have HA : Hid (Acc wo w2.heap.size u9 i c G2 K2 (Gf.mm n (spareF n) f)) := hA
      clear hA hmk
      go_wp2_with fail
      go_ret2
      exact ⟨_, w2.heap.size, _, _, rfl, b2.size, HA.out, HK.out, bt b2 hbo⟩

theorem refSpare_ok (v : Value) (n s c : Nat) (f : Nat → Nat → Nat) (w : World) (h : Mx w v n c f) (h2 : n ≤ 8) (h3 : 1 ≤ s) (h4 : s ≤ 4) :
    Calls Tryz.prog 94 #[v, .int .i64 (s : Int)] w fun e w' => ∃ v', e = .returned (.tuple #[v', .int .i64 0]) ∧ Mx w' v' s c (Gf.mm n (spareF n) f) ∧ Below w.heap.size w w' := by
  obtain ⟨_, _, d3, d4⟩ := h.dim
  refine (refSpare_acc v n s c f w h h2 h3 h4).mono ?_
  rintro e w' ⟨v', N, G, K, rfl, _, hA, _, hb⟩
  exact ⟨v', rfl, hA.mx (Gf.mm_bd (spareF_bd n) n f) ⟨h3, by omega, d3, d4⟩, hb⟩

theorem refSpareO (v : Value) (n : Nat) (L : Nat → Nat) (f : Nat → Nat → Nat) (s : Int) (w : World) (h : Arg w v n L f) :
    Calls Tryz.prog 94 #[v, .int .i64 s] w fun e w' => ∃ v', e = .returned (.tuple #[v', .int .i64 (spareE n L s : Nat)]) ∧ Out w' (spareE n L s) v' s.toNat (L 0) (Gf.mm n (spareF n) f) ∧ Below w.heap.size w w' := by
  by_cases hc : (n : Int) < 1 ∨ 8 < (n : Int) ∨ s < 0 ∨ 4 < s
  · rw [show spareE n L s = 5 from if_pos (by rw [wrongC_bad hc]; decide)]
    obtain ⟨A, cap, R, C, hv, _⟩ := h.lies
    exact (refSpare_bad1 v n A cap hv s w hc).mono fun e w' ⟨h1, h2⟩ => ⟨_, h1, Or.inr ⟨Or.inl (by decide), rfl⟩, h2⟩
  · rw [show spareE n L s = wrongE n L from if_neg (by rw [wrongC_ok hc]; simp)]
    obtain ⟨m, rfl⟩ := Int.eq_ofNat_of_zero_le (show 0 ≤ s by omega)
    by_cases hw : wrongE n L = 0
    · rw [hw]
      rcases Nat.eq_zero_or_pos m with rfl | hm
      · exact (refSpare_none v n L f w h (by omega) (by omega) hw).mono fun e w' ⟨h1, h2⟩ => ⟨_, h1, Or.inr ⟨Or.inr rfl, rfl⟩, h2⟩
      · exact (refSpare_ok v n m (L 0) f w (h.mx hw) (by omega) hm (by omega)).mono fun e w' ⟨v', h1, h2, h3⟩ => ⟨v', h1, Or.inl ⟨rfl, h2⟩, h3⟩
    · exact (refSpare_bad2 v n m L f w h (by omega) (by omega) (by omega) hw).mono fun e w' ⟨h1, h2⟩ => ⟨_, h1, Or.inr ⟨Or.inl hw, rfl⟩, h2⟩

end Go.Proofs.YtmcaejooaaahdaaGreat
