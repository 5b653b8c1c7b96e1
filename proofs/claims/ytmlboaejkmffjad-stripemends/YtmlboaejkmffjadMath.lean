/-
  The plain arithmetic of bytes as polynomials: products, inverses and powers. Nothing of the program is named here.
-/
namespace Go.Proofs.Ytmlboaejkmffjad.Gf

/-- A byte times x. -/
def tx (a : Nat) : Nat := if a / 128 = 0 then a * 2 % 256 else (a * 2 % 256) ^^^ 29
theorem tx_lt (a : Nat) : tx a < 256 := by
  unfold tx
  split
  · omega
  · exact Nat.xor_lt_two_pow (n := 8) (by omega) (by omega)

/-- A byte times x to the k. -/
def txk : Nat → Nat → Nat
  | 0, a => a
  | k + 1, a => tx (txk k a)
theorem txk_lt {a : Nat} (h : a < 256) : (k : Nat) → txk k a < 256
  | 0 => h
  | _ + 1 => tx_lt _

/-- What bit k of b asks for. -/
def sel (b k x : Nat) : Nat := if b / 2 ^ k % 2 = 1 then x else 0
theorem sel_lt {x : Nat} (b k : Nat) (h : x < 256) : sel b k x < 256 := by
  unfold sel
  split <;> omega

/-- The product by the first k bits of b. -/
def mulTo (a b : Nat) : Nat → Nat
  | 0 => 0
  | k + 1 => mulTo a b k ^^^ sel b k (txk k a)
theorem mulTo_lt {a : Nat} (b : Nat) (h : a < 256) : (k : Nat) → mulTo a b k < 256
  | 0 => Nat.zero_lt_succ 255
  | k + 1 => Nat.xor_lt_two_pow (n := 8) (mulTo_lt b h k) (sel_lt b k (txk_lt h k))

def mul (a b : Nat) : Nat := mulTo a b 8
theorem mul_lt {a : Nat} (b : Nat) (h : a < 256) : mul a b < 256 := mulTo_lt b h 8

/-- The same on Int, as a walk meets them. -/
def txI (a : Int) : Int := (tx a.toNat : Nat)
def txkI (k : Nat) (a : Int) : Int := (txk k a.toNat : Nat)
def mulToI (a b : Int) (k : Nat) : Int := (mulTo a.toNat b.toNat k : Nat)
def mulI (a b : Int) : Int := (mul a.toNat b.toNat : Nat)

theorem txI_bd (a : Int) : 0 ≤ txI a ∧ txI a ≤ 255 := by
  have := tx_lt a.toNat
  unfold txI
  omega
theorem txkI_bd (k : Nat) (a : Int) (h0 : 0 ≤ a) (h1 : a ≤ 255) : 0 ≤ txkI k a ∧ txkI k a ≤ 255 := by
  have := txk_lt (a := a.toNat) (by omega) k
  unfold txkI
  omega
theorem txkI_zero (a : Int) (h0 : 0 ≤ a) : txkI 0 a = a := by
  unfold txkI txk
  omega
theorem txkI_succ (k : Nat) (a : Int) : txkI (k + 1) a = txI (txkI k a) := by
  unfold txkI txI
  rw [Int.toNat_natCast]
  rfl
theorem mulToI_bd (a b : Int) (k : Nat) (h0 : 0 ≤ a) (h1 : a ≤ 255) : 0 ≤ mulToI a b k ∧ mulToI a b k ≤ 255 := by
  have := mulTo_lt (a := a.toNat) b.toNat (by omega) k
  unfold mulToI
  omega
theorem mulI_bd (a b : Int) (h0 : 0 ≤ a) (h1 : a ≤ 255) : 0 ≤ mulI a b ∧ mulI a b ≤ 255 := by
  have := mul_lt (a := a.toNat) b.toNat (by omega)
  unfold mulI
  omega
theorem mulToI_eight (a b : Int) : mulToI a b 8 = mulI a b := rfl
theorem mulToI_zero (a b : Int) : mulToI a b 0 = 0 := rfl

theorem mulToI_yes (a b : Int) (k : Nat) (hb : b.toNat / 2 ^ k % 2 = 1) : mulToI a b (k + 1) = (((mulToI a b k).toNat ^^^ (txkI k a).toNat : Nat) : Int) := by
  unfold mulToI txkI
  rw [Int.toNat_natCast, Int.toNat_natCast]
  show ((mulTo a.toNat b.toNat k ^^^ sel b.toNat k (txk k a.toNat) : Nat) : Int) = _
  unfold sel
  rw [if_pos hb]
theorem mulToI_no (a b : Int) (k : Nat) (hb : ¬ b.toNat / 2 ^ k % 2 = 1) : mulToI a b (k + 1) = mulToI a b k := by
  unfold mulToI
  show ((mulTo a.toNat b.toNat k ^^^ sel b.toNat k (txk k a.toNat) : Nat) : Int) = _
  unfold sel
  rw [if_neg hb, Nat.xor_zero]

/-- A byte, squared k times. -/
def sqk : Nat → Nat → Nat
  | 0, a => a
  | k + 1, a => mul (sqk k a) (sqk k a)
theorem sqk_lt {a : Nat} (h : a < 256) : (k : Nat) → sqk k a < 256
  | 0 => h
  | k + 1 => mul_lt _ (sqk_lt h k)
/-- The product of the squares that the first k bits of n ask for. -/
def raiseTo (a n : Nat) : Nat → Nat
  | 0 => 1
  | k + 1 => if n / 2 ^ k % 2 = 1 then mul (raiseTo a n k) (sqk k a) else raiseTo a n k
theorem raiseTo_lt (a n : Nat) : (k : Nat) → raiseTo a n k < 256
  | 0 => Nat.lt_of_sub_pos (Nat.zero_lt_succ 254)
  | k + 1 => by
    unfold raiseTo
    split
    · exact mul_lt _ (raiseTo_lt a n k)
    · exact raiseTo_lt a n k
def raise (a n : Nat) : Nat := raiseTo a n 8
theorem raise_lt (a n : Nat) : raise a n < 256 := raiseTo_lt a n 8

def sqkI (k : Nat) (a : Int) : Int := (sqk k a.toNat : Nat)
def raiseToI (a n : Int) (k : Nat) : Int := (raiseTo a.toNat n.toNat k : Nat)
def raiseI (a n : Int) : Int := (raise a.toNat n.toNat : Nat)
theorem sqkI_bd (k : Nat) (a : Int) (h0 : 0 ≤ a) (h1 : a ≤ 255) : 0 ≤ sqkI k a ∧ sqkI k a ≤ 255 := by
  have := sqk_lt (a := a.toNat) (by omega) k
  unfold sqkI
  omega
theorem sqkI_zero (a : Int) (h0 : 0 ≤ a) : sqkI 0 a = a := by
  unfold sqkI sqk
  omega
theorem sqkI_succ (k : Nat) (a : Int) : sqkI (k + 1) a = mulI (sqkI k a) (sqkI k a) := by
  unfold sqkI mulI
  rw [Int.toNat_natCast]
  rfl
theorem raiseToI_bd (a n : Int) (k : Nat) : 0 ≤ raiseToI a n k ∧ raiseToI a n k ≤ 255 := by
  have := raiseTo_lt a.toNat n.toNat k
  unfold raiseToI
  omega
theorem raiseI_bd (a n : Int) : 0 ≤ raiseI a n ∧ raiseI a n ≤ 255 := raiseToI_bd a n 8
theorem raiseToI_yes (a n : Int) (k : Nat) (h : n.toNat / 2 ^ k % 2 = 1) : raiseToI a n (k + 1) = mulI (raiseToI a n k) (sqkI k a) := by
  unfold raiseToI mulI sqkI
  rw [Int.toNat_natCast, Int.toNat_natCast]
  show ((if n.toNat / 2 ^ k % 2 = 1 then mul (raiseTo a.toNat n.toNat k) (sqk k a.toNat) else raiseTo a.toNat n.toNat k : Nat) : Int) = _
  rw [if_pos h]
theorem raiseToI_no (a n : Int) (k : Nat) (h : ¬ n.toNat / 2 ^ k % 2 = 1) : raiseToI a n (k + 1) = raiseToI a n k := by
  unfold raiseToI
  show ((if n.toNat / 2 ^ k % 2 = 1 then mul (raiseTo a.toNat n.toNat k) (sqk k a.toNat) else raiseTo a.toNat n.toNat k : Nat) : Int) = _
  rw [if_neg h]

end Go.Proofs.Ytmlboaejkmffjad.Gf
