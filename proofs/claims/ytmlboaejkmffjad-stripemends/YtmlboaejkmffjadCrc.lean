/-
  The plain arithmetic of the sum of bytes (CRC-32C): a byte that is another one gives another sum. Nothing of the program is named here.
-/
namespace Go.Proofs.Ytmlboaejkmffjad.Crc

/-- The polynomial, its bits turned round. -/
def poly : Nat := 2197175160
/-- One bit. -/
def half (c : Nat) : Nat := c / 2 ^^^ (if c % 2 = 1 then poly else 0)
/-- k bits. -/
def halves : Nat → Nat → Nat
  | 0, c => c
  | k + 1, c => half (halves k c)
/-- One byte. -/
def step (c x : Nat) : Nat := halves 8 (c ^^^ x)
/-- The first n bytes. -/
def run (f : Nat → Nat) : Nat → Nat
  | 0 => 4294967295
  | n + 1 => step (run f n) (f n)
def sum (f : Nat → Nat) (n : Nat) : Nat := run f n ^^^ 4294967295

theorem half_lt {c : Nat} (h : c < 2 ^ 32) : half c < 2 ^ 32 := by
  unfold half
  refine Nat.xor_lt_two_pow (by omega) ?_
  split
  · decide
  · decide
theorem halves_lt {c : Nat} (h : c < 2 ^ 32) : (k : Nat) → halves k c < 2 ^ 32
  | 0 => h
  | k + 1 => half_lt (halves_lt h k)
theorem xor32 {a b : Nat} (ha : a < 2 ^ 32) (hb : b < 2 ^ 32) : a ^^^ b < 2 ^ 32 := Nat.xor_lt_two_pow ha hb
theorem step_lt {c x : Nat} (h : c < 2 ^ 32) (hx : x < 256) : step c x < 2 ^ 32 := halves_lt (xor32 h (by omega)) 8
theorem run_lt {f : Nat → Nat} (hf : ∀ k, f k < 256) : (n : Nat) → run f n < 2 ^ 32
  | 0 => show 4294967295 < 2 ^ 32 by decide
  | n + 1 => step_lt (run_lt hf n) (hf n)
theorem sum_lt {f : Nat → Nat} (hf : ∀ k, f k < 256) (n : Nat) : sum f n < 2 ^ 32 := xor32 (run_lt hf n) (by decide)

theorem xor_right_inj {a b c : Nat} (h : a ^^^ c = b ^^^ c) : a = b := by
  have e : a ^^^ c ^^^ c = b ^^^ c ^^^ c := by rw [h]
  rw [Nat.xor_assoc, Nat.xor_assoc, Nat.xor_self, Nat.xor_zero, Nat.xor_zero] at e
  exact e
theorem xor_left_inj {a b c : Nat} (h : c ^^^ a = c ^^^ b) : a = b := by
  rw [Nat.xor_comm c a, Nat.xor_comm c b] at h
  exact xor_right_inj h

/-- The highest bit tells whether the lowest one was 1. -/
theorem half_top {c : Nat} (h : c < 2 ^ 32) : (half c).testBit 31 = decide (c % 2 = 1) := by
  unfold half
  rw [Nat.testBit_xor]
  have h1 : (c / 2).testBit 31 = false := Nat.testBit_lt_two_pow (by omega)
  rw [h1]
  by_cases e : c % 2 = 1
  · rw [if_pos e]
    simp [e]
    decide
  · rw [if_neg e]
    simp [e]
theorem half_inj {a b : Nat} (ha : a < 2 ^ 32) (hb : b < 2 ^ 32) (h : half a = half b) : a = b := by
  have e : decide (a % 2 = 1) = decide (b % 2 = 1) := by rw [← half_top ha, ← half_top hb, h]
  have e1 : a % 2 = 1 ↔ b % 2 = 1 := by simpa using e
  unfold half at h
  by_cases p : a % 2 = 1
  · rw [if_pos p, if_pos (e1.1 p)] at h
    have := xor_right_inj h
    have := e1.1 p
    omega
  · have p' : ¬ b % 2 = 1 := fun h => p (e1.2 h)
    rw [if_neg p, if_neg p'] at h
    have := xor_right_inj h
    omega
theorem halves_inj {a b : Nat} (ha : a < 2 ^ 32) (hb : b < 2 ^ 32) : (k : Nat) → halves k a = halves k b → a = b
  | 0, h => h
  | k + 1, h => halves_inj ha hb k (half_inj (halves_lt ha k) (halves_lt hb k) h)
theorem step_inj {a b x : Nat} (ha : a < 2 ^ 32) (hb : b < 2 ^ 32) (hx : x < 256) (h : step a x = step b x) : a = b :=
  xor_right_inj (halves_inj (xor32 ha (by omega)) (xor32 hb (by omega)) 8 h)
theorem step_byte {a x y : Nat} (ha : a < 2 ^ 32) (hx : x < 256) (hy : y < 256) (h : step a x = step a y) : x = y :=
  xor_left_inj (halves_inj (xor32 ha (by omega)) (xor32 ha (by omega)) 8 h)

/-- Of bytes of which just one is another one the sum is another one. -/
theorem run_other {f g : Nat → Nat} (hf : ∀ k, f k < 256) (hg : ∀ k, g k < 256) {at' : Nat} (hne : f at' ≠ g at') (he : ∀ k, k ≠ at' → f k = g k) : (n : Nat) → (n ≤ at' → run f n = run g n) ∧ (at' < n → run f n ≠ run g n)
  | 0 => ⟨fun _ => rfl, fun h => absurd h (Nat.not_lt_zero _)⟩
  | n + 1 => by
    obtain ⟨h1, h2⟩ := run_other hf hg hne he n
    refine ⟨fun h => ?_, fun h e => ?_⟩
    · show step (run f n) (f n) = step (run g n) (g n)
      rw [h1 (by omega), he n (by omega)]
    · have e' : step (run f n) (f n) = step (run g n) (g n) := e
      by_cases hn : n = at'
      · rw [h1 (by omega)] at e'
        have := step_byte (run_lt hg n) (hf n) (hg n) e'
        rw [hn] at this
        exact hne this
      · rw [he n hn] at e'
        exact h2 (by omega) (step_inj (run_lt hf n) (run_lt hg n) (hg n) e')
theorem sum_other {f g : Nat → Nat} (hf : ∀ k, f k < 256) (hg : ∀ k, g k < 256) {at' n : Nat} (hne : f at' ≠ g at') (he : ∀ k, k ≠ at' → f k = g k) (hn : at' < n) : sum f n ≠ sum g n := fun e => (run_other hf hg hne he n).2 hn (xor_right_inj e)
theorem run_congr {f g : Nat → Nat} : (n : Nat) → (∀ k, k < n → f k = g k) → run f n = run g n
  | 0, _ => rfl
  | n + 1, h => by
    show step (run f n) (f n) = step (run g n) (g n)
    rw [run_congr n (fun k hk => h k (by omega)), h n (by omega)]

/-! ### By a byte's own rest: what a table of 256 numbers tells -/
theorem half_xor (a b : Nat) : half (a ^^^ b) = half a ^^^ half b := by
  unfold half
  have h1 : (a ^^^ b) / 2 = a / 2 ^^^ b / 2 := Nat.xor_div_two_pow (n := 1)
  have h2 : (a ^^^ b) % 2 = (a % 2 ^^^ b % 2) := Nat.xor_mod_two_pow (n := 1)
  rw [h1, h2]
  rcases Nat.mod_two_eq_zero_or_one a with ea | ea <;> rcases Nat.mod_two_eq_zero_or_one b with eb | eb <;> rw [ea, eb]
  · simp
  · simp [Nat.xor_assoc]
  · simp
    rw [Nat.xor_assoc, Nat.xor_assoc, Nat.xor_comm poly]
  · simp
    rw [Nat.xor_assoc, Nat.xor_comm poly, Nat.xor_assoc, Nat.xor_self, Nat.xor_zero]
theorem halves_xor (a b : Nat) : (k : Nat) → halves k (a ^^^ b) = halves k a ^^^ halves k b
  | 0 => rfl
  | k + 1 => by
    show half (halves k (a ^^^ b)) = _
    rw [halves_xor a b k, half_xor]
    rfl
theorem halves_high (y : Nat) : (k : Nat) → (j : Nat) → halves k (y * 2 ^ (k + j)) = y * 2 ^ j
  | 0, j => by rw [Nat.zero_add]; rfl
  | k + 1, j => by
    show half (halves k (y * 2 ^ (k + 1 + j))) = _
    rw [show k + 1 + j = k + (j + 1) by omega, halves_high y k (j + 1)]
    unfold half
    rw [if_neg (by rw [Nat.pow_succ, ← Nat.mul_assoc]; omega), Nat.xor_zero, Nat.pow_succ, ← Nat.mul_assoc, Nat.mul_div_cancel _ (by decide)]
theorem split8 (c : Nat) : c = c % 256 ^^^ (c / 256) * 2 ^ 8 := by
  apply Nat.eq_of_testBit_eq
  intro i
  rw [Nat.testBit_xor, show c % 256 = c % 2 ^ 8 from rfl, Nat.testBit_mod_two_pow, Nat.testBit_mul_two_pow, show c / 256 = c / 2 ^ 8 from rfl, Nat.testBit_div_two_pow]
  by_cases h : i < 8
  · simp [h, show ¬ 8 ≤ i by omega]
  · simp [h, show 8 ≤ i by omega]
/-- A byte's step by the rest of one byte alone. -/
theorem step_table (c x : Nat) : step c x = halves 8 ((c ^^^ x) % 256) ^^^ (c ^^^ x) / 256 := by
  unfold step
  conv => lhs; rw [split8 (c ^^^ x)]
  rw [halves_xor]
  congr 1
  have := halves_high ((c ^^^ x) / 256) 8 0
  rw [Nat.pow_zero, Nat.mul_one] at this
  exact this

end Go.Proofs.Ytmlboaejkmffjad.Crc
