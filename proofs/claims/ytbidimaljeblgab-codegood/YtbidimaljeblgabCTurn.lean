/-
  Shards of which a byte is another one are no good ones: plain arithmetic.
-/
import Derived.Test.YtbidimaljeblgabCAll
namespace Go.Proofs.Ytbidimaljeblgab
open Go.RowKit

/-- A byte turned. -/
def turn (K at' x : Nat) (f : Nat → Nat → Nat) (i j : Nat) : Nat := if i = K ∧ j = at' then f i j ^^^ x else f i j
theorem turn_bd {K at' x : Nat} {f : Nat → Nat → Nat} (hf : Gf.Bd2 f) (hx : x < 256) : Gf.Bd2 (turn K at' x f) := fun i j => by
  unfold turn
  split
  · exact Gf.xor_lt (hf i j) hx
  · exact hf i j
theorem xor_zero_of {a x : Nat} (h : a = a ^^^ x) : x = 0 := by
  have e : a ^^^ a = a ^^^ (a ^^^ x) := by rw [← h]
  rw [Nat.xor_self, ← Nat.xor_assoc, Nat.xor_self, Nat.zero_xor] at e
  exact e.symm
theorem turned_bad {n s c K at' x : Nat} {D : Nat → Nat → Nat} (hD : Gf.Bd2 D) (hn : n + s ≤ 256) (hs : 1 ≤ s) (hK : K < n + s) (ha : at' < c) (hx : x < 256) (hx0 : x ≠ 0) : ¬ GoodP n (n + s) (fun _ => c) (turn K at' x (Gf.mm n (Gf.rowF n) D)) := by
  intro h
  have h3 : ∀ i, n ≤ i → i < n + s → ∀ k, k < c → Gf.mm n (Gf.rowF n) (turn K at' x (Gf.mm n (Gf.rowF n) D)) i k = turn K at' x (Gf.mm n (Gf.rowF n) D) i k := h.2.2
  have hAA : ∀ i k, Gf.mm n (Gf.rowF n) (Gf.mm n (Gf.rowF n) D) i k = Gf.mm n (Gf.rowF n) D i k := fun i k => Gf.mm_congr (fun _ _ => rfl) (fun j hj => allF_data hD hj k)
  generalize hA : Gf.mm n (Gf.rowF n) D = A at h3 hAA
  by_cases hKn : K < n
  · have h4 := h3 n (Nat.le_refl _) (by omega) at' ha
    have e1 : turn K at' x A n at' = A n at' := if_neg (by omega)
    have e2 : Gf.mm n (Gf.rowF n) (turn K at' x A) n at' = Gf.mm n (Gf.rowF n) A n at' ^^^ Gf.mul (Gf.rowF n n K) x := by
      have e3 : Gf.mm n (Gf.rowF n) (turn K at' x A) n at' = Gf.dot n (Gf.rowF n n) (fun l => A l at' ^^^ (if l = K then x else 0)) := Gf.dot_congr n (fun _ _ => rfl) (fun l _ => by
        show (if l = K ∧ at' = at' then A l at' ^^^ x else A l at') = _
        by_cases e : l = K
        · rw [if_pos ⟨e, rfl⟩, if_pos e]
        · rw [if_neg (fun h => e h.1), if_neg e, Nat.xor_zero])
      rw [e3, Gf.dot_xor_right (Gf.rowF n n) (fun l => A l at') (fun l => if l = K then x else 0), Gf.dot_only (j := K) (g := fun l => if l = K then x else 0) n (fun l _ hl => if_neg hl), if_pos hKn, if_pos rfl]
      rfl
    rw [e1, e2, hAA] at h4
    have h5 := xor_zero_of h4.symm
    rw [Gf.rowF_inv (Nat.le_refl n)] at h5
    rcases (Gf.mul_eq_zero (Gf.inv_lt _) hx).1 h5 with h6 | h6
    · exact Gf.inv_ne (Gf.xor_lt (by omega) (by omega)) (Gf.xor_ne (by omega)) h6
    · exact hx0 h6
  · have h4 := h3 K (by omega) hK at' ha
    have e1 : turn K at' x A K at' = A K at' ^^^ x := if_pos ⟨rfl, rfl⟩
    have e2 : Gf.mm n (Gf.rowF n) (turn K at' x A) K at' = Gf.mm n (Gf.rowF n) A K at' := Gf.mm_congr (fun _ _ => rfl) (fun l hl => if_neg (by omega))
    rw [e1, e2, hAA] at h4
    exact hx0 (xor_zero_of h4)

end Go.Proofs.Ytbidimaljeblgab
