/-
  How many of some numbers are struck, and which are left.
-/
import Derived.Test.YtmlboaejkmffjadCMend
namespace Go.Proofs.Ytmlboaejkmffjad
open Go.RowKit

/-- How many of the first N are gone. -/
def cnt (M : Nat → Bool) : Nat → Nat
  | 0 => 0
  | N + 1 => cnt M N + if M N then 1 else 0
theorem cnt_le (M : Nat → Bool) : (N : Nat) → cnt M N ≤ N
  | 0 => Nat.le_refl _
  | N + 1 => by
    have := cnt_le M N
    show cnt M N + (if M N then 1 else 0) ≤ N + 1
    split <;> omega
theorem cnt_none : (N : Nat) → cnt (fun _ => false) N = 0
  | 0 => rfl
  | N + 1 => by
    show cnt (fun _ => false) N + 0 = 0
    rw [cnt_none N]
/-- One more. -/
def lose (k : Nat) (M : Nat → Bool) (i : Nat) : Bool := if i = k then true else M i
theorem cnt_same {k : Nat} {M : Nat → Bool} : (N : Nat) → N ≤ k → cnt (lose k M) N = cnt M N
  | 0, _ => rfl
  | N + 1, h => by
    show cnt (lose k M) N + (if lose k M N then 1 else 0) = cnt M N + (if M N then 1 else 0)
    rw [cnt_same N (by omega), show lose k M N = M N from if_neg (by omega)]
theorem cnt_lose {k : Nat} {M : Nat → Bool} (hM : M k = false) : (N : Nat) → k < N → cnt (lose k M) N = cnt M N + 1
  | 0, h => absurd h (Nat.not_lt_zero k)
  | N + 1, h => by
    show cnt (lose k M) N + (if lose k M N then 1 else 0) = cnt M N + (if M N then 1 else 0) + 1
    by_cases e : N = k
    · subst e
      rw [cnt_same N (Nat.le_refl _), show lose N M N = true from if_pos rfl, hM]
      rfl
    · rw [cnt_lose hM N (by omega), show lose k M N = M N from if_neg e]
      omega
/-- How long each shard is, those that are gone having no bytes. -/
def goneL (M : Nat → Bool) (c i : Nat) : Nat := if M i then 0 else c
theorem there_gone {M : Nat → Bool} {c : Nat} (hc : 1 ≤ c) : (N : Nat) → (there (goneL M c) N).length + cnt M N = N
  | 0 => rfl
  | N + 1 => by
    have ih := there_gone (M := M) hc N
    show _ + (cnt M N + (if M N then 1 else 0)) = N + 1
    cases h : M N with
    | true =>
      have e : goneL M c N = 0 := if_pos h
      rw [there_no (by omega)]
      simp
      omega
    | false =>
      have e : goneL M c N = c := if_neg (by rw [h]; decide)
      rw [there_yes (by omega)]
      simp
      omega
theorem gone_len {M : Nat → Bool} {c N p : Nat} (h : p < (there (goneL M c) N).length) : goneL M c (thr (goneL M c) N p) = c := by
  have h1 := (thr_mem h).2
  unfold goneL at h1 ⊢
  split
  · rename_i h2
    rw [if_pos h2] at h1
    omega
  · rfl

end Go.Proofs.Ytmlboaejkmffjad
