/-
  The plain arithmetic of the document's own answer for products, and that it is the same product.
-/
import Derived.Test.YtmlboaejkmffjadAlg
namespace Go.Proofs.Ytmlboaejkmffjad.Gf

/-- The whole product by the first k bits of b, nothing taken away yet. -/
def rawTo (a b : Nat) : Nat → Nat
  | 0 => 0
  | k + 1 => rawTo a b k ^^^ sel b k (a * 2 ^ k)
/-- What is left behind j rounds, from the highest bit down. -/
def redTo (n : Nat) : Nat → Nat
  | 0 => n
  | j + 1 => redTo n j ^^^ sel (redTo n j) (14 - j) (285 * 2 ^ (6 - j))
def refMul (a b : Nat) : Nat := redTo (rawTo a b 8) 7 % 256

theorem rawTo_lt {a : Nat} (b : Nat) (h : a < 256) : (k : Nat) → k ≤ 8 → rawTo a b k < 2 ^ 15
  | 0, _ => Nat.two_pow_pos 15
  | k + 1, hk => by
    refine Nat.xor_lt_two_pow (rawTo_lt b h k (by omega)) ?_
    unfold sel
    split
    · have h2 : 2 ^ k ≤ 2 ^ 7 := Nat.pow_le_pow_right (by decide) (by omega)
      have h3 : a * 2 ^ k ≤ 255 * 2 ^ 7 := Nat.mul_le_mul (by omega) h2
      omega
    · decide
theorem redTo_lt {n : Nat} (h : n < 2 ^ 15) : (j : Nat) → j ≤ 7 → redTo n j < 2 ^ 15
  | 0, _ => h
  | j + 1, hj => by
    refine Nat.xor_lt_two_pow (redTo_lt h j (by omega)) ?_
    unfold sel
    split
    · have h2 : 2 ^ (6 - j) ≤ 2 ^ 6 := Nat.pow_le_pow_right (by decide) (by omega)
      have h3 : 285 * 2 ^ (6 - j) ≤ 285 * 2 ^ 6 := Nat.mul_le_mul_left 285 h2
      omega
    · decide

theorem shift_xor (a b k : Nat) : (a ^^^ b) * 2 ^ k = a * 2 ^ k ^^^ b * 2 ^ k := by
  have h := Nat.shiftLeft_xor_distrib (i := k) (a := a) (b := b)
  rw [Nat.shiftLeft_eq, Nat.shiftLeft_eq, Nat.shiftLeft_eq] at h
  exact h
theorem rawTo_left (a b c : Nat) : (k : Nat) → rawTo (a ^^^ b) c k = rawTo a c k ^^^ rawTo b c k
  | 0 => (Nat.xor_self 0).symm
  | k + 1 => by
    show rawTo (a ^^^ b) c k ^^^ sel c k ((a ^^^ b) * 2 ^ k) = (rawTo a c k ^^^ sel c k (a * 2 ^ k)) ^^^ (rawTo b c k ^^^ sel c k (b * 2 ^ k))
    rw [rawTo_left a b c k, shift_xor, sel_xor, xor_swap]
theorem rawTo_right (a b c : Nat) : (k : Nat) → rawTo a (b ^^^ c) k = rawTo a b k ^^^ rawTo a c k
  | 0 => (Nat.xor_self 0).symm
  | k + 1 => by
    show rawTo a (b ^^^ c) k ^^^ sel (b ^^^ c) k (a * 2 ^ k) = (rawTo a b k ^^^ sel b k (a * 2 ^ k)) ^^^ (rawTo a c k ^^^ sel c k (a * 2 ^ k))
    rw [rawTo_right a b c k, sel_bits, xor_swap]
theorem redTo_xor (x y : Nat) : (j : Nat) → redTo (x ^^^ y) j = redTo x j ^^^ redTo y j
  | 0 => rfl
  | j + 1 => by
    show redTo (x ^^^ y) j ^^^ sel (redTo (x ^^^ y) j) (14 - j) (285 * 2 ^ (6 - j)) = (redTo x j ^^^ sel (redTo x j) (14 - j) (285 * 2 ^ (6 - j))) ^^^ (redTo y j ^^^ sel (redTo y j) (14 - j) (285 * 2 ^ (6 - j)))
    rw [redTo_xor x y j, sel_bits, xor_swap]
theorem refMul_left (a b c : Nat) : refMul (a ^^^ b) c = refMul a c ^^^ refMul b c := by
  unfold refMul
  rw [rawTo_left, redTo_xor]
  exact Nat.xor_mod_two_pow (n := 8)
theorem refMul_right (a b c : Nat) : refMul a (b ^^^ c) = refMul a b ^^^ refMul a c := by
  unfold refMul
  rw [rawTo_right, redTo_xor]
  exact Nat.xor_mod_two_pow (n := 8)
theorem lin_refr (a : Nat) : Lin (fun b => refMul a b) := by
  refine ⟨?_, fun x y _ _ => refMul_right a x y⟩
  have h := refMul_right a 0 0
  rw [Nat.xor_self, Nat.xor_self] at h
  exact h
theorem lin_refl (c : Nat) : Lin (fun b => refMul b c) := by
  refine ⟨?_, fun x y _ _ => refMul_left x y c⟩
  have h := refMul_left 0 0 c
  rw [Nat.xor_self, Nat.xor_self] at h
  exact h
theorem ref_at {j : Nat} (h0 : refMul 1 j = mul 1 j) (h1 : refMul 2 j = mul 2 j) (h2 : refMul 4 j = mul 4 j) (h3 : refMul 8 j = mul 8 j) (h4 : refMul 16 j = mul 16 j) (h5 : refMul 32 j = mul 32 j) (h6 : refMul 64 j = mul 64 j) (h7 : refMul 128 j = mul 128 j)
    {a : Nat} (ha : a < 256) : refMul a j = mul a j :=
  lin_ext (lin_refl j) (lin_mull j) h0 h1 h2 h3 h4 h5 h6 h7 ha
theorem refMul_eq {a b : Nat} (ha : a < 256) (hb : b < 256) : refMul a b = mul a b :=
  lin_ext (lin_refr a) (lin_mulr a)
    (ref_at (by decide) (by decide) (by decide) (by decide) (by decide) (by decide) (by decide) (by decide) ha)
    (ref_at (by decide) (by decide) (by decide) (by decide) (by decide) (by decide) (by decide) (by decide) ha)
    (ref_at (by decide) (by decide) (by decide) (by decide) (by decide) (by decide) (by decide) (by decide) ha)
    (ref_at (by decide) (by decide) (by decide) (by decide) (by decide) (by decide) (by decide) (by decide) ha)
    (ref_at (by decide) (by decide) (by decide) (by decide) (by decide) (by decide) (by decide) (by decide) ha)
    (ref_at (by decide) (by decide) (by decide) (by decide) (by decide) (by decide) (by decide) (by decide) ha)
    (ref_at (by decide) (by decide) (by decide) (by decide) (by decide) (by decide) (by decide) (by decide) ha)
    (ref_at (by decide) (by decide) (by decide) (by decide) (by decide) (by decide) (by decide) (by decide) ha) hb

def rawToI (a b : Int) (k : Nat) : Int := (rawTo a.toNat b.toNat k : Nat)
def redToI (a b : Int) (j : Nat) : Int := (redTo (rawTo a.toNat b.toNat 8) j : Nat)
theorem rawToI_bd {a : Int} (b : Int) (h0 : 0 ≤ a) (h1 : a ≤ 255) {k : Nat} (hk : k ≤ 8) : 0 ≤ rawToI a b k ∧ rawToI a b k < 32768 := by
  have := rawTo_lt (a := a.toNat) b.toNat (by omega) k hk
  unfold rawToI
  omega
theorem redToI_bd {a : Int} (b : Int) (h0 : 0 ≤ a) (h1 : a ≤ 255) {j : Nat} (hj : j ≤ 7) : 0 ≤ redToI a b j ∧ redToI a b j < 32768 := by
  have := redTo_lt (rawTo_lt (a := a.toNat) b.toNat (by omega) 8 (Nat.le_refl 8)) j hj
  unfold redToI
  omega
theorem redToI_seven {a b : Int} (h0 : 0 ≤ a) (h1 : a ≤ 255) (g0 : 0 ≤ b) (g1 : b ≤ 255) : redToI a b 7 % 256 = mulI a b := by
  have h := refMul_eq (a := a.toNat) (b := b.toNat) (by omega) (by omega)
  unfold redToI mulI
  rw [← h]
  unfold refMul
  omega
theorem rawToI_yes (a b : Int) (k : Nat) (hb : b.toNat / 2 ^ k % 2 = 1) : rawToI a b (k + 1) = (((rawToI a b k).toNat ^^^ a.toNat * 2 ^ k : Nat) : Int) := by
  unfold rawToI
  rw [Int.toNat_natCast]
  show ((rawTo a.toNat b.toNat k ^^^ sel b.toNat k (a.toNat * 2 ^ k) : Nat) : Int) = _
  unfold sel
  rw [if_pos hb]
theorem rawToI_no (a b : Int) (k : Nat) (hb : ¬ b.toNat / 2 ^ k % 2 = 1) : rawToI a b (k + 1) = rawToI a b k := by
  unfold rawToI
  show ((rawTo a.toNat b.toNat k ^^^ sel b.toNat k (a.toNat * 2 ^ k) : Nat) : Int) = _
  unfold sel
  rw [if_neg hb, Nat.xor_zero]
theorem redToI_zero (a b : Int) : redToI a b 0 = rawToI a b 8 := rfl
theorem redToI_yes (a b : Int) (j : Nat) (h : (redToI a b j).toNat / 2 ^ (14 - j) % 2 = 1) : redToI a b (j + 1) = (((redToI a b j).toNat ^^^ 285 * 2 ^ (6 - j) : Nat) : Int) := by
  unfold redToI at h ⊢
  rw [Int.toNat_natCast] at h ⊢
  show ((redTo (rawTo a.toNat b.toNat 8) j ^^^ sel (redTo (rawTo a.toNat b.toNat 8) j) (14 - j) (285 * 2 ^ (6 - j)) : Nat) : Int) = _
  unfold sel
  rw [if_pos h]
theorem redToI_no (a b : Int) (j : Nat) (h : ¬ (redToI a b j).toNat / 2 ^ (14 - j) % 2 = 1) : redToI a b (j + 1) = redToI a b j := by
  unfold redToI at h ⊢
  rw [Int.toNat_natCast] at h
  show ((redTo (rawTo a.toNat b.toNat 8) j ^^^ sel (redTo (rawTo a.toNat b.toNat 8) j) (14 - j) (285 * 2 ^ (6 - j)) : Nat) : Int) = _
  unfold sel
  rw [if_neg h, Nat.xor_zero]

end Go.Proofs.Ytmlboaejkmffjad.Gf
