/-
  Texts of the proof, joined: Alg, Mat.
-/
import Derived.Test.YtmcaejooaaahdaaGreatZ04
namespace Go.Proofs.YtmcaejooaaahdaaGreat.Gf

def allB (n : Nat) (p : Nat → Bool) : Bool := (List.range n).all p
theorem allB_of {n : Nat} {p : Nat → Bool} (h : allB n p = true) (a : Nat) (ha : a < n) : p a = true := by
  unfold allB at h
  rw [List.all_eq_true] at h
  exact h a (List.mem_range.2 ha)

/-! ### Sums -/
theorem xor_lt {a b : Nat} (ha : a < 256) (hb : b < 256) : a ^^^ b < 256 := Nat.xor_lt_two_pow (n := 8) ha hb
theorem xor_swap (a b c d : Nat) : (a ^^^ b) ^^^ (c ^^^ d) = (a ^^^ c) ^^^ (b ^^^ d) := by
  rw [Nat.xor_assoc, Nat.xor_assoc, ← Nat.xor_assoc b c d, Nat.xor_comm b c, Nat.xor_assoc c b d]

theorem sel_xor (c k x y : Nat) : sel c k (x ^^^ y) = sel c k x ^^^ sel c k y := by
  unfold sel
  split
  · rfl
  · rw [Nat.xor_zero]
theorem sel_bits (b c k x : Nat) : sel (b ^^^ c) k x = sel b k x ^^^ sel c k x := by
  unfold sel
  have e : ∀ n : Nat, (n / 2 ^ k % 2 = 1) ↔ n.testBit k = true := fun n => by
    rw [Nat.testBit_eq_decide_div_mod_eq, decide_eq_true_iff]
  simp only [e, Nat.testBit_xor]
  cases b.testBit k <;> cases c.testBit k <;> simp

/-! ### x times a sum -/
theorem tx_eq (a : Nat) : tx a = (a * 2 % 256) ^^^ (if a / 128 = 0 then 0 else 29) := by
  unfold tx
  split
  · rw [Nat.xor_zero]
  · rfl
theorem tx_xor {a b : Nat} (ha : a < 256) (hb : b < 256) : tx (a ^^^ b) = tx a ^^^ tx b := by
  have e1 : (a ^^^ b) * 2 % 256 = (a * 2 % 256) ^^^ (b * 2 % 256) := by
    have h := Nat.shiftLeft_xor_distrib (i := 1) (a := a) (b := b)
    rw [Nat.shiftLeft_eq, Nat.shiftLeft_eq, Nat.shiftLeft_eq] at h
    rw [show (a ^^^ b) * 2 = (a ^^^ b) * 2 ^ 1 from rfl, h]
    exact Nat.xor_mod_two_pow (n := 8)
  have e2 : (a ^^^ b) / 128 = (a / 128) ^^^ (b / 128) := by
    have h := Nat.shiftRight_xor_distrib (i := 7) (a := a) (b := b)
    rw [Nat.shiftRight_eq_div_pow, Nat.shiftRight_eq_div_pow, Nat.shiftRight_eq_div_pow] at h
    exact h
  have da : a / 128 = 0 ∨ a / 128 = 1 := by omega
  have db : b / 128 = 0 ∨ b / 128 = 1 := by omega
  rw [tx_eq, tx_eq a, tx_eq b, e1, e2, xor_swap]
  rcases da with da | da <;> rcases db with db | db <;> rw [da, db] <;> rfl
theorem txk_xor {a b : Nat} (ha : a < 256) (hb : b < 256) : (k : Nat) → txk k (a ^^^ b) = txk k a ^^^ txk k b
  | 0 => rfl
  | k + 1 => by
    show tx (txk k (a ^^^ b)) = tx (txk k a) ^^^ tx (txk k b)
    rw [txk_xor ha hb k, tx_xor (txk_lt ha k) (txk_lt hb k)]

/-! ### Products of sums -/
theorem mulTo_xor_left {a b : Nat} (c : Nat) (ha : a < 256) (hb : b < 256) : (k : Nat) → mulTo (a ^^^ b) c k = mulTo a c k ^^^ mulTo b c k
  | 0 => (Nat.xor_self 0).symm
  | k + 1 => by
    show mulTo (a ^^^ b) c k ^^^ sel c k (txk k (a ^^^ b)) = (mulTo a c k ^^^ sel c k (txk k a)) ^^^ (mulTo b c k ^^^ sel c k (txk k b))
    rw [mulTo_xor_left c ha hb k, txk_xor ha hb k, sel_xor, xor_swap]
theorem mul_xor_left {a b : Nat} (c : Nat) (ha : a < 256) (hb : b < 256) : mul (a ^^^ b) c = mul a c ^^^ mul b c := mulTo_xor_left c ha hb 8
theorem mulTo_xor_right (a b c : Nat) : (k : Nat) → mulTo a (b ^^^ c) k = mulTo a b k ^^^ mulTo a c k
  | 0 => (Nat.xor_self 0).symm
  | k + 1 => by
    show mulTo a (b ^^^ c) k ^^^ sel (b ^^^ c) k (txk k a) = (mulTo a b k ^^^ sel b k (txk k a)) ^^^ (mulTo a c k ^^^ sel c k (txk k a))
    rw [mulTo_xor_right a b c k, sel_bits, xor_swap]
theorem mul_xor_right (a b c : Nat) : mul a (b ^^^ c) = mul a b ^^^ mul a c := mulTo_xor_right a b c 8

theorem mul_zero_right (a : Nat) : mul a 0 = 0 := by
  have h := mul_xor_right a 0 0
  rw [Nat.xor_self, Nat.xor_self] at h
  exact h
theorem mul_zero_left (c : Nat) : mul 0 c = 0 := by
  have h := mul_xor_left (a := 0) (b := 0) c (by decide) (by decide)
  rw [Nat.xor_self, Nat.xor_self] at h
  exact h
theorem tx_zero : tx 0 = 0 := rfl

/-! ### What is the same at the powers of x, and turns sums into sums, is the same -/
def dec (b : Nat) : Nat := sel b 0 1 ^^^ (sel b 1 2 ^^^ (sel b 2 4 ^^^ (sel b 3 8 ^^^ (sel b 4 16 ^^^ (sel b 5 32 ^^^ (sel b 6 64 ^^^ sel b 7 128))))))
theorem dec_chk : (allB 256 fun b => dec b == b) = true := by decide +kernel
theorem dec_eq {b : Nat} (hb : b < 256) : dec b = b := by simpa using allB_of dec_chk b hb

def Lin (f : Nat → Nat) : Prop := f 0 = 0 ∧ ∀ x y, x < 256 → y < 256 → f (x ^^^ y) = f x ^^^ f y
theorem Lin.sel {f : Nat → Nat} (h : Lin f) (b k x : Nat) : f (Gf.sel b k x) = Gf.sel b k (f x) := by
  unfold Gf.sel
  split
  · rfl
  · exact h.1
theorem Lin.dec {f : Nat → Nat} (h : Lin f) (b : Nat) :
    f (Gf.dec b) = Gf.sel b 0 (f 1) ^^^ (Gf.sel b 1 (f 2) ^^^ (Gf.sel b 2 (f 4) ^^^ (Gf.sel b 3 (f 8) ^^^ (Gf.sel b 4 (f 16) ^^^ (Gf.sel b 5 (f 32) ^^^ (Gf.sel b 6 (f 64) ^^^ Gf.sel b 7 (f 128))))))) := by
  have s : ∀ k x, x < 256 → Gf.sel b k x < 256 := fun k x hx => sel_lt b k hx
  have s7 := s 7 128 (by decide)
  have s6 := s 6 64 (by decide)
  have s5 := s 5 32 (by decide)
  have s4 := s 4 16 (by decide)
  have s3 := s 3 8 (by decide)
  have s2 := s 2 4 (by decide)
  have s1 := s 1 2 (by decide)
  have s0 := s 0 1 (by decide)
  have t6 := xor_lt s6 s7
  have t5 := xor_lt s5 t6
  have t4 := xor_lt s4 t5
  have t3 := xor_lt s3 t4
  have t2 := xor_lt s2 t3
  have t1 := xor_lt s1 t2
  unfold Gf.dec
  rw [h.2 _ _ s0 t1, h.2 _ _ s1 t2, h.2 _ _ s2 t3, h.2 _ _ s3 t4, h.2 _ _ s4 t5, h.2 _ _ s5 t6, h.2 _ _ s6 s7]
  rw [h.sel, h.sel, h.sel, h.sel, h.sel, h.sel, h.sel, h.sel]
theorem lin_ext {f g : Nat → Nat} (hf : Lin f) (hg : Lin g) (h0 : f 1 = g 1) (h1 : f 2 = g 2) (h2 : f 4 = g 4) (h3 : f 8 = g 8) (h4 : f 16 = g 16) (h5 : f 32 = g 32) (h6 : f 64 = g 64) (h7 : f 128 = g 128)
    {b : Nat} (hb : b < 256) : f b = g b := by
  rw [← dec_eq hb, hf.dec, hg.dec, h0, h1, h2, h3, h4, h5, h6, h7]

theorem lin_mulr (a : Nat) : Lin (fun b => mul a b) := ⟨mul_zero_right a, fun x y _ _ => mul_xor_right a x y⟩
theorem lin_mull (c : Nat) : Lin (fun b => mul b c) := ⟨mul_zero_left c, fun _ _ hx hy => mul_xor_left c hx hy⟩
theorem lin_mul_tx (a : Nat) : Lin (fun b => mul a (tx b)) :=
  ⟨by show mul a (tx 0) = 0; rw [tx_zero, mul_zero_right], fun x y hx hy => by show mul a (tx (x ^^^ y)) = _; rw [tx_xor hx hy, mul_xor_right]⟩
theorem lin_tx_mulr {a : Nat} (ha : a < 256) : Lin (fun b => tx (mul a b)) :=
  ⟨by show tx (mul a 0) = 0; rw [mul_zero_right, tx_zero], fun x y _ _ => by show tx (mul a (x ^^^ y)) = _; rw [mul_xor_right, tx_xor (mul_lt x ha) (mul_lt y ha)]⟩
theorem lin_tx_mull (c : Nat) : Lin (fun b => tx (mul b c)) :=
  ⟨by show tx (mul 0 c) = 0; rw [mul_zero_left, tx_zero], fun x y hx hy => by show tx (mul (x ^^^ y) c) = _; rw [mul_xor_left c hx hy, tx_xor (mul_lt c hx) (mul_lt c hy)]⟩

theorem comm_at {j : Nat} (h0 : mul 1 j = mul j 1) (h1 : mul 2 j = mul j 2) (h2 : mul 4 j = mul j 4) (h3 : mul 8 j = mul j 8) (h4 : mul 16 j = mul j 16) (h5 : mul 32 j = mul j 32) (h6 : mul 64 j = mul j 64) (h7 : mul 128 j = mul j 128)
    {a : Nat} (ha : a < 256) : mul a j = mul j a :=
  lin_ext (lin_mull j) (lin_mulr j) h0 h1 h2 h3 h4 h5 h6 h7 ha
theorem mul_comm {a b : Nat} (ha : a < 256) (hb : b < 256) : mul a b = mul b a :=
  lin_ext (lin_mulr a) (lin_mull a)
    (comm_at (by decide) (by decide) (by decide) (by decide) (by decide) (by decide) (by decide) (by decide) ha)
    (comm_at (by decide) (by decide) (by decide) (by decide) (by decide) (by decide) (by decide) (by decide) ha)
    (comm_at (by decide) (by decide) (by decide) (by decide) (by decide) (by decide) (by decide) (by decide) ha)
    (comm_at (by decide) (by decide) (by decide) (by decide) (by decide) (by decide) (by decide) (by decide) ha)
    (comm_at (by decide) (by decide) (by decide) (by decide) (by decide) (by decide) (by decide) (by decide) ha)
    (comm_at (by decide) (by decide) (by decide) (by decide) (by decide) (by decide) (by decide) (by decide) ha)
    (comm_at (by decide) (by decide) (by decide) (by decide) (by decide) (by decide) (by decide) (by decide) ha)
    (comm_at (by decide) (by decide) (by decide) (by decide) (by decide) (by decide) (by decide) (by decide) ha) hb

theorem txm_at {j : Nat} (h0 : mul 1 (tx j) = tx (mul 1 j)) (h1 : mul 2 (tx j) = tx (mul 2 j)) (h2 : mul 4 (tx j) = tx (mul 4 j)) (h3 : mul 8 (tx j) = tx (mul 8 j)) (h4 : mul 16 (tx j) = tx (mul 16 j)) (h5 : mul 32 (tx j) = tx (mul 32 j)) (h6 : mul 64 (tx j) = tx (mul 64 j)) (h7 : mul 128 (tx j) = tx (mul 128 j))
    {a : Nat} (ha : a < 256) : mul a (tx j) = tx (mul a j) :=
  lin_ext (lin_mull (tx j)) (lin_tx_mull j) h0 h1 h2 h3 h4 h5 h6 h7 ha
theorem mul_tx {a b : Nat} (ha : a < 256) (hb : b < 256) : mul a (tx b) = tx (mul a b) :=
  lin_ext (lin_mul_tx a) (lin_tx_mulr ha)
    (txm_at (by decide) (by decide) (by decide) (by decide) (by decide) (by decide) (by decide) (by decide) ha)
    (txm_at (by decide) (by decide) (by decide) (by decide) (by decide) (by decide) (by decide) (by decide) ha)
    (txm_at (by decide) (by decide) (by decide) (by decide) (by decide) (by decide) (by decide) (by decide) ha)
    (txm_at (by decide) (by decide) (by decide) (by decide) (by decide) (by decide) (by decide) (by decide) ha)
    (txm_at (by decide) (by decide) (by decide) (by decide) (by decide) (by decide) (by decide) (by decide) ha)
    (txm_at (by decide) (by decide) (by decide) (by decide) (by decide) (by decide) (by decide) (by decide) ha)
    (txm_at (by decide) (by decide) (by decide) (by decide) (by decide) (by decide) (by decide) (by decide) ha)
    (txm_at (by decide) (by decide) (by decide) (by decide) (by decide) (by decide) (by decide) (by decide) ha) hb
theorem mul_txk {a b : Nat} (ha : a < 256) (hb : b < 256) : (k : Nat) → mul a (txk k b) = txk k (mul a b)
  | 0 => rfl
  | k + 1 => by
    show mul a (tx (txk k b)) = tx (txk k (mul a b))
    rw [mul_tx ha (txk_lt hb k), mul_txk ha hb k]

theorem mulTo_assoc {a b : Nat} (c : Nat) (ha : a < 256) (hb : b < 256) : (k : Nat) → mulTo (mul a b) c k = mul a (mulTo b c k)
  | 0 => (mul_zero_right a).symm
  | k + 1 => by
    show mulTo (mul a b) c k ^^^ sel c k (txk k (mul a b)) = mul a (mulTo b c k ^^^ sel c k (txk k b))
    rw [mul_xor_right, mulTo_assoc c ha hb k, (lin_mulr a).sel, mul_txk ha hb k]
theorem mul_assoc {a b : Nat} (c : Nat) (ha : a < 256) (hb : b < 256) : mul (mul a b) c = mul a (mul b c) := mulTo_assoc c ha hb 8

theorem one_chk : (allB 256 fun a => mul a 1 == a) = true := by decide +kernel
theorem mul_one {a : Nat} (ha : a < 256) : mul a 1 = a := by simpa using allB_of one_chk a ha
theorem one_mul {a : Nat} (ha : a < 256) : mul 1 a = a := by rw [mul_comm (by decide) ha, mul_one ha]

/-! ### What undoes a product -/
def inv (a : Nat) : Nat := raise a 254
theorem inv_lt (a : Nat) : inv a < 256 := raise_lt a 254
theorem inv_chk : (allB 255 fun a => mul (a + 1) (inv (a + 1)) == 1) = true := by decide +kernel
theorem inv_zero : inv 0 = 0 := by decide +kernel
theorem mul_inv {a : Nat} (ha : a < 256) (h0 : a ≠ 0) : mul a (inv a) = 1 := by
  have h := allB_of inv_chk (a - 1) (by omega)
  rw [Nat.sub_add_cancel (by omega)] at h
  simpa using h
theorem mul_back {a b : Nat} (ha : a < 256) (hb : b < 256) (h0 : b ≠ 0) : mul (mul a b) (inv b) = a := by
  rw [mul_assoc _ ha hb, mul_inv hb h0, mul_one ha]
/-- What times a is 1 is what undoes a. -/
theorem inv_uniq {a b : Nat} (ha : a < 256) (hb : b < 256) (h : mul a b = 1) : b = inv a := by
  have h0 : a ≠ 0 := fun e => by rw [e, mul_zero_left] at h; exact absurd h (by decide)
  rw [← one_mul hb, ← mul_inv ha h0, mul_comm ha (inv_lt a), mul_assoc _ (inv_lt a) ha, h, mul_one (inv_lt a)]
theorem inv_ne {a : Nat} (ha : a < 256) (h0 : a ≠ 0) : inv a ≠ 0 := fun e => by
  have h := mul_inv ha h0
  rw [e, mul_zero_right] at h
  exact absurd h (by decide)
theorem mul_eq_zero {a b : Nat} (ha : a < 256) (hb : b < 256) : mul a b = 0 ↔ a = 0 ∨ b = 0 := by
  refine ⟨fun h => ?_, fun h => ?_⟩
  · by_cases h0 : b = 0
    · exact Or.inr h0
    · refine Or.inl ?_
      rw [← mul_back ha hb h0, h, mul_zero_left]
  · rcases h with h | h
    · rw [h, mul_zero_left]
    · rw [h, mul_zero_right]

/-! ### Powers -/
/-! ### 2's powers are all but 0, 255 of them -/
end Go.Proofs.YtmcaejooaaahdaaGreat.Gf

namespace Go.Proofs.YtmcaejooaaahdaaGreat.Gf

/-- The sum of products of the first n bytes of two rows. -/
def dot : Nat → (Nat → Nat) → (Nat → Nat) → Nat
  | 0, _, _ => 0
  | n + 1, f, g => dot n f g ^^^ mul (f n) (g n)

/-- A row or a matrix of bytes. -/
def Bd (f : Nat → Nat) : Prop := ∀ k, f k < 256
def Bd2 (m : Nat → Nat → Nat) : Prop := ∀ i, Bd (m i)

theorem dot_lt {f : Nat → Nat} (hf : Bd f) (g : Nat → Nat) : (n : Nat) → dot n f g < 256
  | 0 => Nat.zero_lt_succ 255
  | n + 1 => xor_lt (dot_lt hf g n) (mul_lt _ (hf n))
theorem dot_congr {f f' g g' : Nat → Nat} : (n : Nat) → (∀ k, k < n → f k = f' k) → (∀ k, k < n → g k = g' k) → dot n f g = dot n f' g'
  | 0, _, _ => rfl
  | n + 1, hf, hg => by
    show dot n f g ^^^ mul (f n) (g n) = dot n f' g' ^^^ mul (f' n) (g' n)
    rw [dot_congr n (fun k hk => hf k (by omega)) (fun k hk => hg k (by omega)), hf n (by omega), hg n (by omega)]
theorem dot_zero_left (g : Nat → Nat) : (n : Nat) → dot n (fun _ => 0) g = 0
  | 0 => rfl
  | n + 1 => by
    show dot n (fun _ => 0) g ^^^ mul 0 (g n) = 0
    rw [dot_zero_left g n, mul_zero_left, Nat.xor_self]
theorem dot_zero_right (f : Nat → Nat) : (n : Nat) → dot n f (fun _ => 0) = 0
  | 0 => rfl
  | n + 1 => by
    show dot n f (fun _ => 0) ^^^ mul (f n) 0 = 0
    rw [dot_zero_right f n, mul_zero_right, Nat.xor_self]
theorem dot_null_right {f g : Nat → Nat} (n : Nat) (h : ∀ k, k < n → g k = 0) : dot n f g = 0 := by
  rw [dot_congr (f' := f) (g' := fun _ => 0) n (fun _ _ => rfl) h, dot_zero_right]
theorem dot_xor_left {f f' : Nat → Nat} (hf : Bd f) (hf' : Bd f') (g : Nat → Nat) : (n : Nat) → dot n (fun k => f k ^^^ f' k) g = dot n f g ^^^ dot n f' g
  | 0 => (Nat.xor_self 0).symm
  | n + 1 => by
    show dot n (fun k => f k ^^^ f' k) g ^^^ mul (f n ^^^ f' n) (g n) = (dot n f g ^^^ mul (f n) (g n)) ^^^ (dot n f' g ^^^ mul (f' n) (g n))
    rw [dot_xor_left hf hf' g n, mul_xor_left _ (hf n) (hf' n), xor_swap]
theorem dot_xor_right (f g g' : Nat → Nat) : (n : Nat) → dot n f (fun k => g k ^^^ g' k) = dot n f g ^^^ dot n f g'
  | 0 => (Nat.xor_self 0).symm
  | n + 1 => by
    show dot n f (fun k => g k ^^^ g' k) ^^^ mul (f n) (g n ^^^ g' n) = (dot n f g ^^^ mul (f n) (g n)) ^^^ (dot n f g' ^^^ mul (f n) (g' n))
    rw [dot_xor_right f g g' n, mul_xor_right, xor_swap]
theorem dot_mul_left {c : Nat} {f : Nat → Nat} (hc : c < 256) (hf : Bd f) (g : Nat → Nat) : (n : Nat) → dot n (fun k => mul c (f k)) g = mul c (dot n f g)
  | 0 => (mul_zero_right c).symm
  | n + 1 => by
    show dot n (fun k => mul c (f k)) g ^^^ mul (mul c (f n)) (g n) = mul c (dot n f g ^^^ mul (f n) (g n))
    rw [dot_mul_left hc hf g n, mul_assoc _ hc (hf n), mul_xor_right]
theorem dot_split (f g : Nat → Nat) (a : Nat) : (b : Nat) → dot (a + b) f g = dot a f g ^^^ dot b (fun k => f (a + k)) (fun k => g (a + k))
  | 0 => (Nat.xor_zero _).symm
  | b + 1 => by
    show dot (a + b) f g ^^^ mul (f (a + b)) (g (a + b)) = dot a f g ^^^ (dot b (fun k => f (a + k)) (fun k => g (a + k)) ^^^ mul (f (a + b)) (g (a + b)))
    rw [dot_split f g a b, Nat.xor_assoc]

/-- The matrix that changes nothing. -/
def one (i j : Nat) : Nat := if i = j then 1 else 0
theorem one_lt (i j : Nat) : one i j < 256 := by
  unfold one
  split <;> omega
theorem one_self (i : Nat) : one i i = 1 := if_pos rfl
theorem one_ne {i j : Nat} (h : i ≠ j) : one i j = 0 := if_neg h
theorem one_swap (i j : Nat) : one i j = one j i := by
  by_cases h : i = j
  · rw [h]
  · rw [one_ne h, one_ne (fun e => h e.symm)]
theorem dot_one_left {g : Nat → Nat} (hg : Bd g) (i : Nat) : (n : Nat) → dot n (one i) g = if i < n then g i else 0
  | 0 => rfl
  | n + 1 => by
    show dot n (one i) g ^^^ mul (one i n) (g n) = _
    rw [dot_one_left hg i n]
    by_cases h : i = n
    · subst h
      rw [if_neg (Nat.lt_irrefl _), one_self, one_mul (hg i), Nat.zero_xor, if_pos (Nat.lt_succ_self _)]
    · rw [one_ne h, mul_zero_left, Nat.xor_zero]
      by_cases h' : i < n
      · rw [if_pos h', if_pos (by omega)]
      · rw [if_neg h', if_neg (by omega)]
theorem dot_one_right {f : Nat → Nat} (hf : Bd f) (j : Nat) : (n : Nat) → dot n f (one j) = if j < n then f j else 0
  | 0 => rfl
  | n + 1 => by
    show dot n f (one j) ^^^ mul (f n) (one j n) = _
    rw [dot_one_right hf j n]
    by_cases h : j = n
    · subst h
      rw [if_neg (Nat.lt_irrefl _), one_self, mul_one (hf j), Nat.zero_xor, if_pos (Nat.lt_succ_self _)]
    · rw [one_ne h, mul_zero_right, Nat.xor_zero]
      by_cases h' : j < n
      · rw [if_pos h', if_pos (by omega)]
      · rw [if_neg h', if_neg (by omega)]
theorem dot_one_right' {f : Nat → Nat} (hf : Bd f) {j n : Nat} (h : j < n) : dot n f (fun k => one k j) = f j := by
  rw [dot_congr (f' := f) (g' := one j) n (fun _ _ => rfl) (fun k _ => one_swap k j), dot_one_right hf, if_pos h]
theorem dot_one_left' {g : Nat → Nat} (hg : Bd g) {i n : Nat} (h : i < n) : dot n (one i) g = g i := by
  rw [dot_one_left hg, if_pos h]

/-- The product of two matrices, n being what is between. -/
def mm (n : Nat) (a b : Nat → Nat → Nat) (i j : Nat) : Nat := dot n (a i) (fun k => b k j)
theorem mm_lt {a : Nat → Nat → Nat} (ha : Bd2 a) (n : Nat) (b : Nat → Nat → Nat) (i j : Nat) : mm n a b i j < 256 := dot_lt (ha i) _ n
theorem mm_bd {a : Nat → Nat → Nat} (ha : Bd2 a) (n : Nat) (b : Nat → Nat → Nat) : Bd2 (mm n a b) := mm_lt ha n b
theorem mm_congr {n : Nat} {a a' b b' : Nat → Nat → Nat} {i j : Nat} (ha : ∀ k, k < n → a i k = a' i k) (hb : ∀ k, k < n → b k j = b' k j) : mm n a b i j = mm n a' b' i j := dot_congr n ha hb
theorem dot_assoc {f : Nat → Nat} {b : Nat → Nat → Nat} (hf : Bd f) (hb : Bd2 b) (g : Nat → Nat) (q : Nat) : (p : Nat) → dot q (fun l => dot p f (fun k => b k l)) g = dot p f (fun k => dot q (b k) g)
  | 0 => dot_zero_left g q
  | p + 1 => by
    show dot q (fun l => dot p f (fun k => b k l) ^^^ mul (f p) (b p l)) g = dot p f (fun k => dot q (b k) g) ^^^ mul (f p) (dot q (b p) g)
    rw [dot_xor_left (f := fun l => dot p f (fun k => b k l)) (f' := fun l => mul (f p) (b p l)) (fun l => dot_lt hf _ p) (fun l => mul_lt _ (hf p)), dot_assoc hf hb g q p, dot_mul_left (hf p) (hb p)]
theorem mm_assoc {a b : Nat → Nat → Nat} (ha : Bd2 a) (hb : Bd2 b) (c : Nat → Nat → Nat) (p q i j : Nat) : mm q (mm p a b) c i j = mm p a (mm q b c) i j :=
  dot_assoc (ha i) hb (fun l => c l j) q p
theorem one_mm {a : Nat → Nat → Nat} (ha : Bd2 a) {n i : Nat} (j : Nat) (h : i < n) : mm n one a i j = a i j := dot_one_left' (fun k => ha k j) h
theorem mm_one {a : Nat → Nat → Nat} (ha : Bd2 a) {n j : Nat} (i : Nat) (h : j < n) : mm n a one i j = a i j := dot_one_right' (ha i) h

/-! ### What undoes a matrix, and what can't be undone -/
def Und (n : Nat) (m r : Nat → Nat → Nat) : Prop := ∀ i j, i < n → j < n → mm n m r i j = one i j ∧ mm n r m i j = one i j
def Sing (n : Nat) (m : Nat → Nat → Nat) : Prop := ∃ x, Bd x ∧ (∀ i, i < n → dot n (m i) x = 0) ∧ ∃ c, c < n ∧ x c ≠ 0

theorem Und.symm {n : Nat} {m r : Nat → Nat → Nat} (h : Und n m r) : Und n r m := fun i j hi hj => ⟨(h i j hi hj).2, (h i j hi hj).1⟩
theorem Und.uniq {n : Nat} {m r s : Nat → Nat → Nat} (hm : Bd2 m) (hr : Bd2 r) (hs : Bd2 s) (h : Und n m r) (k : Und n m s) (i j : Nat) (hi : i < n) (hj : j < n) : r i j = s i j := by
  have e1 : mm n r (mm n m s) i j = r i j := by
    rw [mm_congr (a' := r) (b' := one) (fun _ _ => rfl) (fun l hl => (k l j hl hj).1), mm_one hr i hj]
  have e2 : mm n (mm n r m) s i j = s i j := by
    rw [mm_congr (a' := one) (b' := s) (fun l hl => (h i l hi hl).2) (fun _ _ => rfl), one_mm hs j hi]
  rw [← e1, ← mm_assoc hr hm, e2]

/-! ### Rows are cleared, column by column -/
/-- A matrix with One laid beside it. -/
def wide0 (n : Nat) (m : Nat → Nat → Nat) (i j : Nat) : Nat := if j < n then m i j else one i (j - n)
theorem wide0_bd {n : Nat} {m : Nat → Nat → Nat} (hm : Bd2 m) : Bd2 (wide0 n m) := fun i j => by
  show (if j < n then m i j else one i (j - n)) < 256
  split
  · exact hm i j
  · exact one_lt _ _
def Ker (n N : Nat) (W : Nat → Nat → Nat) (x : Nat → Nat) : Prop := ∀ i, i < n → dot N (W i) x = 0
theorem Ker.congr {n N : Nat} {W W' : Nat → Nat → Nat} {x : Nat → Nat} (h : ∀ i j, i < n → j < N → W i j = W' i j) : Ker n N W x ↔ Ker n N W' x := by
  have e : ∀ i, i < n → dot N (W i) x = dot N (W' i) x := fun i hi => dot_congr N (fun k hk => h i k hi hk) (fun _ _ => rfl)
  exact ⟨fun k i hi => by rw [← e i hi]; exact k i hi, fun k i hi => by rw [e i hi]; exact k i hi⟩

/-- Two rows exchanged. -/
def swp (c p : Nat) (W : Nat → Nat → Nat) (i : Nat) : Nat → Nat := if i = c then W p else if i = p then W c else W i
/-- A row times a byte. -/
def scl (c x : Nat) (W : Nat → Nat → Nat) (i j : Nat) : Nat := if i = c then mul (W i j) x else W i j
/-- A row, so many times, added to all others. -/
def add (c : Nat) (W : Nat → Nat → Nat) (i j : Nat) : Nat := if i = c then W i j else W i j ^^^ mul (W c j) (W i c)
/-- All three. -/
def clr (c p : Nat) (W : Nat → Nat → Nat) : Nat → Nat → Nat := add c (scl c (inv (W p c)) (swp c p W))

theorem swp_bd {c p : Nat} {W : Nat → Nat → Nat} (h : Bd2 W) : Bd2 (swp c p W) := fun i => by
  unfold swp
  split
  · exact h p
  · split
    · exact h c
    · exact h i
theorem scl_bd {c x : Nat} {W : Nat → Nat → Nat} (h : Bd2 W) : Bd2 (scl c x W) := fun i j => by
  unfold scl
  split
  · exact mul_lt _ (h i j)
  · exact h i j
theorem add_bd {c : Nat} {W : Nat → Nat → Nat} (h : Bd2 W) : Bd2 (add c W) := fun i j => by
  unfold add
  split
  · exact h i j
  · exact xor_lt (h i j) (mul_lt _ (h c j))
theorem clr_bd {c p : Nat} {W : Nat → Nat → Nat} (h : Bd2 W) : Bd2 (clr c p W) := add_bd (scl_bd (swp_bd h))

theorem ker_swp {n N c p : Nat} {W : Nat → Nat → Nat} {x : Nat → Nat} (hc : c < n) (hp : p < n) : Ker n N (swp c p W) x ↔ Ker n N W x := by
  refine ⟨fun k i hi => ?_, fun k i hi => ?_⟩
  · by_cases h1 : i = c
    · have := k p hp
      unfold swp at this
      by_cases h2 : p = c
      · rw [if_pos h2] at this
        rw [h1, ← h2]
        exact this
      · rw [if_neg h2, if_pos rfl] at this
        rw [h1]
        exact this
    · by_cases h2 : i = p
      · have := k c hc
        unfold swp at this
        rw [if_pos rfl] at this
        rw [h2]
        exact this
      · have := k i hi
        unfold swp at this
        rw [if_neg h1, if_neg h2] at this
        exact this
  · unfold swp
    by_cases h1 : i = c
    · rw [if_pos h1]
      exact k p hp
    · rw [if_neg h1]
      by_cases h2 : i = p
      · rw [if_pos h2]
        exact k c hc
      · rw [if_neg h2]
        exact k i hi
theorem ker_scl {n N c x : Nat} {W : Nat → Nat → Nat} {y : Nat → Nat} (hW : Bd2 W) (hx : x < 256) (h0 : x ≠ 0) : Ker n N (scl c x W) y ↔ Ker n N W y := by
  have e : dot N (scl c x W c) y = mul x (dot N (W c) y) := by
    rw [← dot_mul_left hx (hW c)]
    refine dot_congr N (fun k _ => ?_) (fun _ _ => rfl)
    show (if c = c then mul (W c k) x else W c k) = _
    rw [if_pos rfl, mul_comm (hW c k) hx]
  have e' : ∀ i, i ≠ c → dot N (scl c x W i) y = dot N (W i) y := fun i hi => by
    refine dot_congr N (fun k _ => ?_) (fun _ _ => rfl)
    show (if i = c then mul (W i k) x else W i k) = _
    rw [if_neg hi]
  refine ⟨fun k i hi => ?_, fun k i hi => ?_⟩
  · by_cases h : i = c
    · subst h
      have h1 := k i hi
      rw [e] at h1
      exact ((mul_eq_zero hx (dot_lt (hW i) y N)).1 h1).resolve_left h0
    · rw [← e' i h]
      exact k i hi
  · by_cases h : i = c
    · subst h
      rw [e, k i hi, mul_zero_right]
    · rw [e' i h]
      exact k i hi
theorem ker_add {n N c : Nat} {W : Nat → Nat → Nat} {y : Nat → Nat} (hW : Bd2 W) (hc : c < n) : Ker n N (add c W) y ↔ Ker n N W y := by
  have ec : dot N (add c W c) y = dot N (W c) y := by
    refine dot_congr N (fun k _ => ?_) (fun _ _ => rfl)
    show (if c = c then W c k else _) = _
    rw [if_pos rfl]
  have e' : ∀ i, i ≠ c → dot N (add c W i) y = dot N (W i) y ^^^ mul (W i c) (dot N (W c) y) := fun i hi => by
    rw [← dot_mul_left (hW i c) (hW c), ← dot_xor_left (hW i) (fun k => mul_lt _ (hW i c))]
    refine dot_congr N (fun k _ => ?_) (fun _ _ => rfl)
    show (if i = c then W i k else W i k ^^^ mul (W c k) (W i c)) = _
    rw [if_neg hi, mul_comm (hW c k) (hW i c)]
  refine ⟨fun k i hi => ?_, fun k i hi => ?_⟩
  · have h0 := k c hc
    rw [ec] at h0
    by_cases h : i = c
    · rw [h]
      exact h0
    · have h1 := k i hi
      rw [e' i h, h0, mul_zero_right, Nat.xor_zero] at h1
      exact h1
  · by_cases h : i = c
    · rw [h, ec]
      exact k c hc
    · rw [e' i h, k c hc, mul_zero_right, Nat.xor_zero]
      exact k i hi
theorem ker_clr {n N c p : Nat} {W : Nat → Nat → Nat} {y : Nat → Nat} (hW : Bd2 W) (hc : c < n) (hp : p < n) (h0 : W p c ≠ 0) : Ker n N (clr c p W) y ↔ Ker n N W y := by
  unfold clr
  rw [ker_add (scl_bd (swp_bd hW)) hc, ker_scl (swp_bd hW) (inv_lt _) (inv_ne (hW p c) h0), ker_swp hc hp]

/-- What holds between two columns: D tells which are cleared. -/
structure Elim (n : Nat) (m : Nat → Nat → Nat) (D : Nat → Prop) (W : Nat → Nat → Nat) : Prop where
  bd : Bd2 W
  ker : ∀ x, Ker n (n + n) W x ↔ Ker n (n + n) (wide0 n m) x
  unit : ∀ j, D j → j < n ∧ ∀ i, i < n → W i j = one i j

theorem Elim.start {n : Nat} {m : Nat → Nat → Nat} {D : Nat → Prop} (hm : Bd2 m) (hD : ∀ j, ¬ D j) : Elim n m D (wide0 n m) :=
  ⟨wide0_bd hm, fun _ => Iff.rfl, fun j h => absurd h (hD j)⟩
theorem Elim.step {n c p : Nat} {m W : Nat → Nat → Nat} {D D' : Nat → Prop} (h : Elim n m D W) (hc : c < n) (hp : p < n) (nc : ¬ D c) (np : ¬ D p) (h0 : W p c ≠ 0) (hD : ∀ j, D' j → D j ∨ j = c) : Elim n m D' (clr c p W) := by
  refine ⟨clr_bd h.bd, fun x => (ker_clr h.bd hc hp h0).trans (h.ker x), fun j hj => ?_⟩
  rcases hD j hj with hj | rfl
  · obtain ⟨hjn, hu⟩ := h.unit j hj
    refine ⟨hjn, fun i hi => ?_⟩
    have jc : c ≠ j := fun e => nc (e ▸ hj)
    have jp : p ≠ j := fun e => np (e ▸ hj)
    have zc : W c j = 0 := by rw [hu c hc, one_ne jc]
    have zp : W p j = 0 := by rw [hu p hp, one_ne jp]
    have sw : ∀ i, i < n → swp c p W i j = one i j := fun i hi => by
      unfold swp
      by_cases h1 : i = c
      · rw [if_pos h1, zp, h1, one_ne jc]
      · rw [if_neg h1]
        by_cases h2 : i = p
        · rw [if_pos h2, zc, h2, one_ne jp]
        · rw [if_neg h2, hu i hi]
    have sc : ∀ i, i < n → scl c (inv (W p c)) (swp c p W) i j = one i j := fun i hi => by
      show (if i = c then mul (swp c p W i j) (inv (W p c)) else swp c p W i j) = _
      rw [sw i hi]
      split
      · rename_i h1
        rw [h1, one_ne jc, mul_zero_left]
      · rfl
    show (if i = c then scl c (inv (W p c)) (swp c p W) i j else scl c (inv (W p c)) (swp c p W) i j ^^^ mul (scl c (inv (W p c)) (swp c p W) c j) (scl c (inv (W p c)) (swp c p W) i c)) = _
    rw [sc i hi, sc c hc, one_ne jc, mul_zero_left, Nat.xor_zero]
    split <;> rfl
  · refine ⟨hc, fun i hi => ?_⟩
    have sj : scl j (inv (W p j)) (swp j p W) j j = 1 := by
      show (if j = j then mul (swp j p W j j) (inv (W p j)) else swp j p W j j) = 1
      rw [if_pos rfl]
      show mul ((if j = j then W p else if j = p then W j else W j) j) (inv (W p j)) = 1
      rw [if_pos rfl, mul_inv (h.bd p j) h0]
    show (if i = j then scl j (inv (W p j)) (swp j p W) i j else scl j (inv (W p j)) (swp j p W) i j ^^^ mul (scl j (inv (W p j)) (swp j p W) j j) (scl j (inv (W p j)) (swp j p W) i j)) = _
    by_cases h1 : i = j
    · rw [if_pos h1, h1, sj, one_self]
    · rw [if_neg h1, sj, one_mul (scl_bd (swp_bd h.bd) i j), Nat.xor_self, one_ne h1]
theorem Elim.congr {n : Nat} {m W W' : Nat → Nat → Nat} {D : Nat → Prop} (h : Elim n m D W) (hb : Bd2 W') (e : ∀ i j, i < n → j < n + n → W i j = W' i j) : Elim n m D W' :=
  ⟨hb, fun x => (Ker.congr e).symm.trans (h.ker x), fun j hj => ⟨(h.unit j hj).1, fun i hi => by rw [← e i j hi (by have := (h.unit j hj).1; omega)]; exact (h.unit j hj).2 i hi⟩⟩

theorem dot_wide {n : Nat} {W : Nat → Nat → Nat} (i : Nat) (x : Nat → Nat) (hx : ∀ k, n ≤ k → x k = 0) : dot (n + n) (W i) x = dot n (W i) x := by
  rw [dot_split, dot_null_right (g := fun k => x (n + k)) n (fun k _ => hx _ (Nat.le_add_right _ _)), Nat.xor_zero]

/-- Where no row has a byte to clear the column with, the matrix can't be undone. -/
theorem Elim.fails {n c : Nat} {m W : Nat → Nat → Nat} {D : Nat → Prop} (h : Elim n m D W) (hc : c < n) (nc : ¬ D c) (h0 : ∀ i, i < n → ¬ D i → W i c = 0) : Sing n m := by
  classical
  refine ⟨fun j => (if D j then W j c else 0) ^^^ one c j, fun j => xor_lt (by split; exact h.bd j c; omega) (one_lt _ _), ?_, c, hc, ?_⟩
  · have hker : Ker n (n + n) W (fun j => (if D j then W j c else 0) ^^^ one c j) := fun i hi => by
      rw [dot_xor_right (W i) (fun j => if D j then W j c else 0) (one c), dot_one_right (h.bd i), if_pos (by omega)]
      have yb : Bd (fun j => if D j then W j c else 0) := fun j => by
        show (if D j then W j c else 0) < 256
        split
        · exact h.bd j c
        · omega
      have e : dot (n + n) (W i) (fun j => if D j then W j c else 0) = if D i then W i c else 0 := by
        rw [← dot_one_left' (i := i) (n := n + n) yb (by omega)]
        have key : ∀ k N, N ≤ n + n → k = N → dot k (W i) (fun j => if D j then W j c else 0) = dot k (one i) (fun j => if D j then W j c else 0) := by
          intro k N hN hk
          clear hk
          induction k with
          | zero => rfl
          | succ k ih =>
            show dot k (W i) _ ^^^ mul (W i k) (if D k then W k c else 0) = dot k (one i) _ ^^^ mul (one i k) (if D k then W k c else 0)
            rw [ih]
            by_cases hd : D k
            · rw [(h.unit k hd).2 i hi]
            · rw [if_neg hd, mul_zero_right, mul_zero_right]
        exact key _ _ (Nat.le_refl _) rfl
      rw [e]
      by_cases hd : D i
      · rw [if_pos hd, Nat.xor_self]
      · rw [if_neg hd, h0 i hi hd, Nat.xor_self]
    have hk0 := (h.ker _).1 hker
    intro i hi
    have hz := hk0 i hi
    rw [dot_wide (W := wide0 n m) i _ (fun k hk => by
      show (if D k then W k c else 0) ^^^ one c k = 0
      rw [if_neg (fun hd => by have := (h.unit k hd).1; omega), one_ne (by omega), Nat.xor_self])] at hz
    refine Eq.trans (dot_congr n (fun k hk => ?_) (fun _ _ => rfl)) hz
    show m i k = if k < n then m i k else _
    rw [if_pos hk]
  · show (if D c then W c c else 0) ^^^ one c c ≠ 0
    rw [if_neg nc, one_self]
    decide

/-- Where all columns are cleared, what stands beside One undoes the matrix. -/
theorem Elim.done {n : Nat} {m W : Nat → Nat → Nat} {D : Nat → Prop} (h : Elim n m D W) (hm : Bd2 m) (hD : ∀ j, j < n → D j) : Und n m (fun i j => W i (n + j)) := by
  have hl : ∀ (u v : Nat → Nat), Bd u → ∀ i, i < n → dot (n + n) (W i) (fun k => if k < n then u k else v (k - n)) = u i ^^^ dot n (fun k => W i (n + k)) v := fun u v hu i hi => by
    rw [dot_split]
    congr 1
    · rw [dot_congr (f' := one i) (g' := u) n (fun k hk => (h.unit k (hD k hk)).2 i hi) (fun k hk => if_pos hk), dot_one_left' hu hi]
    · refine dot_congr n (fun _ _ => rfl) (fun k _ => ?_)
      show (if n + k < n then u (n + k) else v (n + k - n)) = v k
      rw [if_neg (by omega), Nat.add_sub_cancel_left]
  have hr : ∀ (u v : Nat → Nat), Bd v → ∀ i, i < n → dot (n + n) (wide0 n m i) (fun k => if k < n then u k else v (k - n)) = dot n (m i) u ^^^ v i := fun u v hv i hi => by
    rw [dot_split]
    congr 1
    · refine dot_congr n (fun k hk => if_pos hk) (fun k hk => if_pos hk)
    · rw [dot_congr (f' := one i) (g' := v) n (fun k _ => ?_) (fun k _ => ?_), dot_one_left' hv hi]
      · show (if n + k < n then m i (n + k) else one i (n + k - n)) = one i k
        rw [if_neg (by omega), Nat.add_sub_cancel_left]
      · show (if n + k < n then u (n + k) else v (n + k - n)) = v k
        rw [if_neg (by omega), Nat.add_sub_cancel_left]
  intro i j hi hj
  constructor
  · have hk : Ker n (n + n) W (fun k => if k < n then W k (n + j) else one j (k - n)) := fun a ha => by
      rw [hl (fun k => W k (n + j)) (one j) (fun k => h.bd k (n + j)) a ha, dot_one_right (fun k => h.bd a (n + k)), if_pos hj, Nat.xor_self]
    have := (h.ker _).1 hk i hi
    rw [hr (fun k => W k (n + j)) (one j) (one_lt j) i hi] at this
    show dot n (m i) (fun k => W k (n + j)) = one i j
    rw [one_swap i j]
    have e := congrArg (fun z => z ^^^ one j i) this
    simpa [Nat.xor_assoc, Nat.xor_self] using e
  · have hk : Ker n (n + n) (wide0 n m) (fun k => if k < n then one j k else m (k - n) j) := fun a ha => by
      rw [hr (one j) (fun k => m k j) (fun k => hm k j) a ha, dot_one_right (hm a), if_pos hj, Nat.xor_self]
    have := (h.ker _).2 hk i hi
    rw [hl (one j) (fun k => m k j) (one_lt j) i hi] at this
    show dot n (fun k => W i (n + k)) (fun k => m k j) = one i j
    rw [one_swap i j]
    have e := congrArg (fun z => one j i ^^^ z) this
    simpa [← Nat.xor_assoc, Nat.xor_self] using e

/-! ### Rows alike, and rows of noughts -/
theorem Und.rows {n : Nat} {m r : Nat → Nat → Nat} (h : Und n m r) {i j : Nat} (hi : i < n) (hj : j < n) (hne : i ≠ j) (e : ∀ k, k < n → m i k = m j k) : False := by
  have h1 := (h i i hi hi).1
  have h2 := (h j i hj hi).1
  have : mm n m r i i = mm n m r j i := dot_congr n e (fun _ _ => rfl)
  rw [h1, h2, one_self, one_ne (fun e => hne e.symm)] at this
  exact absurd this (by decide)
end Go.Proofs.YtmcaejooaaahdaaGreat.Gf
