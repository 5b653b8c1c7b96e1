/-
  The plain arithmetic of bytes, its laws: products are the same in whatever order and however put together, a sum's product is the products' sum, each byte but 0 has one that times it is 1, powers add.
-/
import Derived.Test.YtmlboaejkmffjadMath
namespace Go.Proofs.Ytmlboaejkmffjad.Gf

def allB (n : Nat) (p : Nat → Bool) : Bool := (List.range n).all p
theorem allB_of {n : Nat} {p : Nat → Bool} (h : allB n p = true) (a : Nat) (ha : a < n) : p a = true := by
  unfold allB at h
  rw [List.all_eq_true] at h
  exact h a (List.mem_range.2 ha)

/-! ### Sums -/
theorem xor_lt {a b : Nat} (ha : a < 256) (hb : b < 256) : a ^^^ b < 256 := Nat.xor_lt_two_pow (n := 8) ha hb
theorem xor_swap (a b c d : Nat) : (a ^^^ b) ^^^ (c ^^^ d) = (a ^^^ c) ^^^ (b ^^^ d) := by
  rw [Nat.xor_assoc, Nat.xor_assoc, ← Nat.xor_assoc b c d, Nat.xor_comm b c, Nat.xor_assoc c b d]

theorem sel_xor (c k x y : Nat) : sel c k (x ^^^ y) = sel c k x ^^^ sel c k y := by
  unfold sel
  split
  · rfl
  · rw [Nat.xor_zero]
theorem sel_bits (b c k x : Nat) : sel (b ^^^ c) k x = sel b k x ^^^ sel c k x := by
  unfold sel
  have e : ∀ n : Nat, (n / 2 ^ k % 2 = 1) ↔ n.testBit k = true := fun n => by
    rw [Nat.testBit_eq_decide_div_mod_eq, decide_eq_true_iff]
  simp only [e, Nat.testBit_xor]
  cases b.testBit k <;> cases c.testBit k <;> simp

/-! ### x times a sum -/
theorem tx_eq (a : Nat) : tx a = (a * 2 % 256) ^^^ (if a / 128 = 0 then 0 else 29) := by
  unfold tx
  split
  · rw [Nat.xor_zero]
  · rfl
theorem tx_xor {a b : Nat} (ha : a < 256) (hb : b < 256) : tx (a ^^^ b) = tx a ^^^ tx b := by
  have e1 : (a ^^^ b) * 2 % 256 = (a * 2 % 256) ^^^ (b * 2 % 256) := by
    have h := Nat.shiftLeft_xor_distrib (i := 1) (a := a) (b := b)
    rw [Nat.shiftLeft_eq, Nat.shiftLeft_eq, Nat.shiftLeft_eq] at h
    rw [show (a ^^^ b) * 2 = (a ^^^ b) * 2 ^ 1 from rfl, h]
    exact Nat.xor_mod_two_pow (n := 8)
  have e2 : (a ^^^ b) / 128 = (a / 128) ^^^ (b / 128) := by
    have h := Nat.shiftRight_xor_distrib (i := 7) (a := a) (b := b)
    rw [Nat.shiftRight_eq_div_pow, Nat.shiftRight_eq_div_pow, Nat.shiftRight_eq_div_pow] at h
    exact h
  have da : a / 128 = 0 ∨ a / 128 = 1 := by omega
  have db : b / 128 = 0 ∨ b / 128 = 1 := by omega
  rw [tx_eq, tx_eq a, tx_eq b, e1, e2, xor_swap]
  rcases da with da | da <;> rcases db with db | db <;> rw [da, db] <;> rfl
theorem txk_xor {a b : Nat} (ha : a < 256) (hb : b < 256) : (k : Nat) → txk k (a ^^^ b) = txk k a ^^^ txk k b
  | 0 => rfl
  | k + 1 => by
    show tx (txk k (a ^^^ b)) = tx (txk k a) ^^^ tx (txk k b)
    rw [txk_xor ha hb k, tx_xor (txk_lt ha k) (txk_lt hb k)]

/-! ### Products of sums -/
theorem mulTo_xor_left {a b : Nat} (c : Nat) (ha : a < 256) (hb : b < 256) : (k : Nat) → mulTo (a ^^^ b) c k = mulTo a c k ^^^ mulTo b c k
  | 0 => (Nat.xor_self 0).symm
  | k + 1 => by
    show mulTo (a ^^^ b) c k ^^^ sel c k (txk k (a ^^^ b)) = (mulTo a c k ^^^ sel c k (txk k a)) ^^^ (mulTo b c k ^^^ sel c k (txk k b))
    rw [mulTo_xor_left c ha hb k, txk_xor ha hb k, sel_xor, xor_swap]
theorem mul_xor_left {a b : Nat} (c : Nat) (ha : a < 256) (hb : b < 256) : mul (a ^^^ b) c = mul a c ^^^ mul b c := mulTo_xor_left c ha hb 8
theorem mulTo_xor_right (a b c : Nat) : (k : Nat) → mulTo a (b ^^^ c) k = mulTo a b k ^^^ mulTo a c k
  | 0 => (Nat.xor_self 0).symm
  | k + 1 => by
    show mulTo a (b ^^^ c) k ^^^ sel (b ^^^ c) k (txk k a) = (mulTo a b k ^^^ sel b k (txk k a)) ^^^ (mulTo a c k ^^^ sel c k (txk k a))
    rw [mulTo_xor_right a b c k, sel_bits, xor_swap]
theorem mul_xor_right (a b c : Nat) : mul a (b ^^^ c) = mul a b ^^^ mul a c := mulTo_xor_right a b c 8

theorem mul_zero_right (a : Nat) : mul a 0 = 0 := by
  have h := mul_xor_right a 0 0
  rw [Nat.xor_self, Nat.xor_self] at h
  exact h
theorem mul_zero_left (c : Nat) : mul 0 c = 0 := by
  have h := mul_xor_left (a := 0) (b := 0) c (by decide) (by decide)
  rw [Nat.xor_self, Nat.xor_self] at h
  exact h
theorem tx_zero : tx 0 = 0 := rfl

/-! ### What is the same at the powers of x, and turns sums into sums, is the same -/
def dec (b : Nat) : Nat := sel b 0 1 ^^^ (sel b 1 2 ^^^ (sel b 2 4 ^^^ (sel b 3 8 ^^^ (sel b 4 16 ^^^ (sel b 5 32 ^^^ (sel b 6 64 ^^^ sel b 7 128))))))
theorem dec_chk : (allB 256 fun b => dec b == b) = true := by decide +kernel
theorem dec_eq {b : Nat} (hb : b < 256) : dec b = b := by simpa using allB_of dec_chk b hb

def Lin (f : Nat → Nat) : Prop := f 0 = 0 ∧ ∀ x y, x < 256 → y < 256 → f (x ^^^ y) = f x ^^^ f y
theorem Lin.sel {f : Nat → Nat} (h : Lin f) (b k x : Nat) : f (Gf.sel b k x) = Gf.sel b k (f x) := by
  unfold Gf.sel
  split
  · rfl
  · exact h.1
theorem Lin.dec {f : Nat → Nat} (h : Lin f) (b : Nat) :
    f (Gf.dec b) = Gf.sel b 0 (f 1) ^^^ (Gf.sel b 1 (f 2) ^^^ (Gf.sel b 2 (f 4) ^^^ (Gf.sel b 3 (f 8) ^^^ (Gf.sel b 4 (f 16) ^^^ (Gf.sel b 5 (f 32) ^^^ (Gf.sel b 6 (f 64) ^^^ Gf.sel b 7 (f 128))))))) := by
  have s : ∀ k x, x < 256 → Gf.sel b k x < 256 := fun k x hx => sel_lt b k hx
  have s7 := s 7 128 (by decide)
  have s6 := s 6 64 (by decide)
  have s5 := s 5 32 (by decide)
  have s4 := s 4 16 (by decide)
  have s3 := s 3 8 (by decide)
  have s2 := s 2 4 (by decide)
  have s1 := s 1 2 (by decide)
  have s0 := s 0 1 (by decide)
  have t6 := xor_lt s6 s7
  have t5 := xor_lt s5 t6
  have t4 := xor_lt s4 t5
  have t3 := xor_lt s3 t4
  have t2 := xor_lt s2 t3
  have t1 := xor_lt s1 t2
  unfold Gf.dec
  rw [h.2 _ _ s0 t1, h.2 _ _ s1 t2, h.2 _ _ s2 t3, h.2 _ _ s3 t4, h.2 _ _ s4 t5, h.2 _ _ s5 t6, h.2 _ _ s6 s7]
  rw [h.sel, h.sel, h.sel, h.sel, h.sel, h.sel, h.sel, h.sel]
theorem lin_ext {f g : Nat → Nat} (hf : Lin f) (hg : Lin g) (h0 : f 1 = g 1) (h1 : f 2 = g 2) (h2 : f 4 = g 4) (h3 : f 8 = g 8) (h4 : f 16 = g 16) (h5 : f 32 = g 32) (h6 : f 64 = g 64) (h7 : f 128 = g 128)
    {b : Nat} (hb : b < 256) : f b = g b := by
  rw [← dec_eq hb, hf.dec, hg.dec, h0, h1, h2, h3, h4, h5, h6, h7]

theorem lin_mulr (a : Nat) : Lin (fun b => mul a b) := ⟨mul_zero_right a, fun x y _ _ => mul_xor_right a x y⟩
theorem lin_mull (c : Nat) : Lin (fun b => mul b c) := ⟨mul_zero_left c, fun _ _ hx hy => mul_xor_left c hx hy⟩
theorem lin_tx : Lin tx := ⟨tx_zero, fun _ _ hx hy => tx_xor hx hy⟩
theorem lin_mul_tx (a : Nat) : Lin (fun b => mul a (tx b)) :=
  ⟨by show mul a (tx 0) = 0; rw [tx_zero, mul_zero_right], fun x y hx hy => by show mul a (tx (x ^^^ y)) = _; rw [tx_xor hx hy, mul_xor_right]⟩
theorem lin_tx_mulr {a : Nat} (ha : a < 256) : Lin (fun b => tx (mul a b)) :=
  ⟨by show tx (mul a 0) = 0; rw [mul_zero_right, tx_zero], fun x y _ _ => by show tx (mul a (x ^^^ y)) = _; rw [mul_xor_right, tx_xor (mul_lt x ha) (mul_lt y ha)]⟩
theorem lin_tx_mull (c : Nat) : Lin (fun b => tx (mul b c)) :=
  ⟨by show tx (mul 0 c) = 0; rw [mul_zero_left, tx_zero], fun x y hx hy => by show tx (mul (x ^^^ y) c) = _; rw [mul_xor_left c hx hy, tx_xor (mul_lt c hx) (mul_lt c hy)]⟩

theorem comm_at {j : Nat} (h0 : mul 1 j = mul j 1) (h1 : mul 2 j = mul j 2) (h2 : mul 4 j = mul j 4) (h3 : mul 8 j = mul j 8) (h4 : mul 16 j = mul j 16) (h5 : mul 32 j = mul j 32) (h6 : mul 64 j = mul j 64) (h7 : mul 128 j = mul j 128)
    {a : Nat} (ha : a < 256) : mul a j = mul j a :=
  lin_ext (lin_mull j) (lin_mulr j) h0 h1 h2 h3 h4 h5 h6 h7 ha
theorem mul_comm {a b : Nat} (ha : a < 256) (hb : b < 256) : mul a b = mul b a :=
  lin_ext (lin_mulr a) (lin_mull a)
    (comm_at (by decide) (by decide) (by decide) (by decide) (by decide) (by decide) (by decide) (by decide) ha)
    (comm_at (by decide) (by decide) (by decide) (by decide) (by decide) (by decide) (by decide) (by decide) ha)
    (comm_at (by decide) (by decide) (by decide) (by decide) (by decide) (by decide) (by decide) (by decide) ha)
    (comm_at (by decide) (by decide) (by decide) (by decide) (by decide) (by decide) (by decide) (by decide) ha)
    (comm_at (by decide) (by decide) (by decide) (by decide) (by decide) (by decide) (by decide) (by decide) ha)
    (comm_at (by decide) (by decide) (by decide) (by decide) (by decide) (by decide) (by decide) (by decide) ha)
    (comm_at (by decide) (by decide) (by decide) (by decide) (by decide) (by decide) (by decide) (by decide) ha)
    (comm_at (by decide) (by decide) (by decide) (by decide) (by decide) (by decide) (by decide) (by decide) ha) hb

theorem txm_at {j : Nat} (h0 : mul 1 (tx j) = tx (mul 1 j)) (h1 : mul 2 (tx j) = tx (mul 2 j)) (h2 : mul 4 (tx j) = tx (mul 4 j)) (h3 : mul 8 (tx j) = tx (mul 8 j)) (h4 : mul 16 (tx j) = tx (mul 16 j)) (h5 : mul 32 (tx j) = tx (mul 32 j)) (h6 : mul 64 (tx j) = tx (mul 64 j)) (h7 : mul 128 (tx j) = tx (mul 128 j))
    {a : Nat} (ha : a < 256) : mul a (tx j) = tx (mul a j) :=
  lin_ext (lin_mull (tx j)) (lin_tx_mull j) h0 h1 h2 h3 h4 h5 h6 h7 ha
theorem mul_tx {a b : Nat} (ha : a < 256) (hb : b < 256) : mul a (tx b) = tx (mul a b) :=
  lin_ext (lin_mul_tx a) (lin_tx_mulr ha)
    (txm_at (by decide) (by decide) (by decide) (by decide) (by decide) (by decide) (by decide) (by decide) ha)
    (txm_at (by decide) (by decide) (by decide) (by decide) (by decide) (by decide) (by decide) (by decide) ha)
    (txm_at (by decide) (by decide) (by decide) (by decide) (by decide) (by decide) (by decide) (by decide) ha)
    (txm_at (by decide) (by decide) (by decide) (by decide) (by decide) (by decide) (by decide) (by decide) ha)
    (txm_at (by decide) (by decide) (by decide) (by decide) (by decide) (by decide) (by decide) (by decide) ha)
    (txm_at (by decide) (by decide) (by decide) (by decide) (by decide) (by decide) (by decide) (by decide) ha)
    (txm_at (by decide) (by decide) (by decide) (by decide) (by decide) (by decide) (by decide) (by decide) ha)
    (txm_at (by decide) (by decide) (by decide) (by decide) (by decide) (by decide) (by decide) (by decide) ha) hb
theorem mul_txk {a b : Nat} (ha : a < 256) (hb : b < 256) : (k : Nat) → mul a (txk k b) = txk k (mul a b)
  | 0 => rfl
  | k + 1 => by
    show mul a (tx (txk k b)) = tx (txk k (mul a b))
    rw [mul_tx ha (txk_lt hb k), mul_txk ha hb k]

theorem mulTo_assoc {a b : Nat} (c : Nat) (ha : a < 256) (hb : b < 256) : (k : Nat) → mulTo (mul a b) c k = mul a (mulTo b c k)
  | 0 => (mul_zero_right a).symm
  | k + 1 => by
    show mulTo (mul a b) c k ^^^ sel c k (txk k (mul a b)) = mul a (mulTo b c k ^^^ sel c k (txk k b))
    rw [mul_xor_right, mulTo_assoc c ha hb k, (lin_mulr a).sel, mul_txk ha hb k]
theorem mul_assoc {a b : Nat} (c : Nat) (ha : a < 256) (hb : b < 256) : mul (mul a b) c = mul a (mul b c) := mulTo_assoc c ha hb 8

theorem one_chk : (allB 256 fun a => mul a 1 == a) = true := by decide +kernel
theorem mul_one {a : Nat} (ha : a < 256) : mul a 1 = a := by simpa using allB_of one_chk a ha
theorem one_mul {a : Nat} (ha : a < 256) : mul 1 a = a := by rw [mul_comm (by decide) ha, mul_one ha]

/-! ### What undoes a product -/
def inv (a : Nat) : Nat := raise a 254
theorem inv_lt (a : Nat) : inv a < 256 := raise_lt a 254
theorem inv_chk : (allB 255 fun a => mul (a + 1) (inv (a + 1)) == 1) = true := by decide +kernel
theorem inv_zero : inv 0 = 0 := by decide +kernel
theorem mul_inv {a : Nat} (ha : a < 256) (h0 : a ≠ 0) : mul a (inv a) = 1 := by
  have h := allB_of inv_chk (a - 1) (by omega)
  rw [Nat.sub_add_cancel (by omega)] at h
  simpa using h
theorem mul_back {a b : Nat} (ha : a < 256) (hb : b < 256) (h0 : b ≠ 0) : mul (mul a b) (inv b) = a := by
  rw [mul_assoc _ ha hb, mul_inv hb h0, mul_one ha]
/-- What times a is 1 is what undoes a. -/
theorem inv_uniq {a b : Nat} (ha : a < 256) (hb : b < 256) (h : mul a b = 1) : b = inv a := by
  have h0 : a ≠ 0 := fun e => by rw [e, mul_zero_left] at h; exact absurd h (by decide)
  rw [← one_mul hb, ← mul_inv ha h0, mul_comm ha (inv_lt a), mul_assoc _ (inv_lt a) ha, h, mul_one (inv_lt a)]
theorem inv_ne {a : Nat} (ha : a < 256) (h0 : a ≠ 0) : inv a ≠ 0 := fun e => by
  have h := mul_inv ha h0
  rw [e, mul_zero_right] at h
  exact absurd h (by decide)
theorem inv_inv {a : Nat} (ha : a < 256) : inv (inv a) = a := by
  by_cases h0 : a = 0
  · rw [h0, inv_zero, inv_zero]
  · refine (inv_uniq (inv_lt a) ha ?_).symm
    rw [mul_comm (inv_lt a) ha, mul_inv ha h0]
theorem mul_eq_zero {a b : Nat} (ha : a < 256) (hb : b < 256) : mul a b = 0 ↔ a = 0 ∨ b = 0 := by
  refine ⟨fun h => ?_, fun h => ?_⟩
  · by_cases h0 : b = 0
    · exact Or.inr h0
    · refine Or.inl ?_
      rw [← mul_back ha hb h0, h, mul_zero_left]
  · rcases h with h | h
    · rw [h, mul_zero_left]
    · rw [h, mul_zero_right]

/-! ### Powers -/
def pw (a : Nat) : Nat → Nat
  | 0 => 1
  | n + 1 => mul (pw a n) a
theorem pw_lt (a : Nat) : (n : Nat) → pw a n < 256
  | 0 => Nat.lt_of_sub_pos (Nat.zero_lt_succ 254)
  | n + 1 => mul_lt _ (pw_lt a n)
theorem pw_add {a : Nat} (ha : a < 256) (m : Nat) : (n : Nat) → pw a (m + n) = mul (pw a m) (pw a n)
  | 0 => (mul_one (pw_lt a m)).symm
  | n + 1 => by
    show mul (pw a (m + n)) a = mul (pw a m) (mul (pw a n) a)
    rw [pw_add ha m n, mul_assoc _ (pw_lt a m) (pw_lt a n)]
theorem pw_one {a : Nat} (ha : a < 256) : pw a 1 = a := one_mul ha
theorem sqk_pw {a : Nat} (ha : a < 256) : (k : Nat) → sqk k a = pw a (2 ^ k)
  | 0 => (pw_one ha).symm
  | k + 1 => by
    show mul (sqk k a) (sqk k a) = _
    rw [sqk_pw ha k, ← pw_add ha, Nat.pow_succ, Nat.mul_two]
theorem raiseTo_pw {a : Nat} (ha : a < 256) (n : Nat) : (k : Nat) → raiseTo a n k = pw a (n % 2 ^ k)
  | 0 => by
    show 1 = pw a (n % 1)
    rw [Nat.mod_one]
    rfl
  | k + 1 => by
    show (if n / 2 ^ k % 2 = 1 then mul (raiseTo a n k) (sqk k a) else raiseTo a n k) = _
    rw [Nat.pow_succ, Nat.mod_mul, raiseTo_pw ha n k, sqk_pw ha k]
    have h2 : n / 2 ^ k % 2 = 0 ∨ n / 2 ^ k % 2 = 1 := by omega
    rcases h2 with h2 | h2
    · rw [h2, if_neg (by decide), Nat.mul_zero, Nat.add_zero]
    · rw [h2, if_pos rfl, Nat.mul_one, pw_add ha]
theorem raise_pw {a n : Nat} (ha : a < 256) (hn : n < 256) : raise a n = pw a n := by
  show raiseTo a n 8 = _
  rw [raiseTo_pw ha n 8, Nat.mod_eq_of_lt hn]
theorem inv_pw {a : Nat} (ha : a < 256) : inv a = pw a 254 := raise_pw ha (by decide)
theorem pw_255 {a : Nat} (ha : a < 256) (h0 : a ≠ 0) : pw a 255 = 1 := by
  show mul (pw a 254) a = 1
  rw [← inv_pw ha, mul_comm (inv_lt a) ha, mul_inv ha h0]
theorem pw_round {a : Nat} (ha : a < 256) (h0 : a ≠ 0) (m : Nat) : (q : Nat) → pw a (m + 255 * q) = pw a m
  | 0 => rfl
  | q + 1 => by
    rw [show m + 255 * (q + 1) = (m + 255 * q) + 255 by omega, pw_add ha, pw_round ha h0 m q, pw_255 ha h0, mul_one (pw_lt a m)]
theorem pw_mod {a : Nat} (ha : a < 256) (h0 : a ≠ 0) (n : Nat) : pw a (n % 255) = pw a n := by
  have h := pw_round ha h0 (n % 255) (n / 255)
  rw [Nat.mod_add_div] at h
  exact h.symm
theorem pw_ne {a : Nat} (ha : a < 256) (h0 : a ≠ 0) : (n : Nat) → pw a n ≠ 0
  | 0 => Nat.one_ne_zero
  | n + 1 => fun e => by
    rcases (mul_eq_zero (pw_lt a n) ha).1 e with h | h
    · exact pw_ne ha h0 n h
    · exact h0 h
theorem pw_zero_succ (n : Nat) : pw 0 (n + 1) = 0 := mul_zero_right _

/-! ### 2's powers are all but 0, 255 of them -/
theorem mul_two' {a : Nat} (ha : a < 256) : mul a 2 = tx a := by
  have h := mul_tx (b := 1) ha (by decide)
  rw [mul_one ha] at h
  exact h
theorem txk_tx (x : Nat) : (k : Nat) → txk (k + 1) x = txk k (tx x)
  | 0 => rfl
  | k + 1 => by
    show tx (txk (k + 1) x) = tx (txk k (tx x))
    rw [txk_tx x k]
theorem pw_two : (n : Nat) → pw 2 n = txk n 1
  | 0 => rfl
  | n + 1 => by
    show mul (pw 2 n) 2 = tx (txk n 1)
    rw [mul_two' (pw_lt 2 n), pw_two n]
def noOne : Nat → Nat → Bool
  | 0, _ => true
  | n + 1, x => x != 1 && noOne n (tx x)
theorem noOne_of : (n x : Nat) → noOne n x = true → (d : Nat) → d < n → txk d x ≠ 1
  | 0, _, _, d, h => absurd h (Nat.not_lt_zero d)
  | n + 1, x, h, d, hd => by
    have h' : (x != 1 && noOne n (tx x)) = true := h
    rw [Bool.and_eq_true, bne_iff_ne] at h'
    cases d with
    | zero => exact h'.1
    | succ d =>
      rw [txk_tx]
      exact noOne_of n (tx x) h'.2 d (by omega)
theorem noOne_chk : noOne 254 2 = true := by decide +kernel
theorem pw_two_ne {d : Nat} (h0 : 0 < d) (h1 : d < 255) : pw 2 d ≠ 1 := by
  obtain ⟨e, rfl⟩ : ∃ e, d = e + 1 := ⟨d - 1, by omega⟩
  rw [pw_two, txk_tx]
  exact noOne_of 254 2 noOne_chk e (by omega)
theorem pw_two_lt {m n : Nat} (h : m < n) (hn : n < 255) : pw 2 m ≠ pw 2 n := fun e => by
  have e2 : pw 2 n = mul (pw 2 m) (pw 2 (n - m)) := by rw [← pw_add (by decide), Nat.add_sub_cancel' (Nat.le_of_lt h)]
  have hm := pw_ne (a := 2) (by decide) (by decide) m
  have h1 : pw 2 (n - m) = 1 := by
    rw [← one_mul (pw_lt 2 (n - m)), ← mul_inv (pw_lt 2 m) hm, mul_comm (pw_lt 2 m) (inv_lt _), mul_assoc _ (inv_lt _) (pw_lt 2 m), ← e2, ← e, mul_comm (inv_lt _) (pw_lt 2 m), mul_inv (pw_lt 2 m) hm]
  exact pw_two_ne (by omega) (by omega) h1
theorem pw_two_inj {m n : Nat} (hm : m < 255) (hn : n < 255) (h : m ≠ n) : pw 2 m ≠ pw 2 n := by
  rcases Nat.lt_or_gt_of_ne h with h | h
  · exact pw_two_lt h hn
  · exact (pw_two_lt h hm).symm

end Go.Proofs.Ytmlboaejkmffjad.Gf
