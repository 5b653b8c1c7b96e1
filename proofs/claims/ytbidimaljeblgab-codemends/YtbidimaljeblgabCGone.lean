/-
  Shards of which some are gone: how many are left, and how they lie.
-/
import Derived.Test.YtbidimaljeblgabCAll
namespace Go.Proofs.Ytbidimaljeblgab
open Go.RowKit

/-- How many of the first N are gone. -/
def cnt (M : Nat → Bool) : Nat → Nat
  | 0 => 0
  | N + 1 => cnt M N + if M N then 1 else 0
theorem cnt_le (M : Nat → Bool) : (N : Nat) → cnt M N ≤ N
  | 0 => Nat.le_refl _
  | N + 1 => by
    have := cnt_le M N
    show cnt M N + (if M N then 1 else 0) ≤ N + 1
    split <;> omega
theorem cnt_none : (N : Nat) → cnt (fun _ => false) N = 0
  | 0 => rfl
  | N + 1 => by
    show cnt (fun _ => false) N + 0 = 0
    rw [cnt_none N]
/-- One more. -/
def lose (k : Nat) (M : Nat → Bool) (i : Nat) : Bool := if i = k then true else M i
theorem cnt_same {k : Nat} {M : Nat → Bool} : (N : Nat) → N ≤ k → cnt (lose k M) N = cnt M N
  | 0, _ => rfl
  | N + 1, h => by
    show cnt (lose k M) N + (if lose k M N then 1 else 0) = cnt M N + (if M N then 1 else 0)
    rw [cnt_same N (by omega), show lose k M N = M N from if_neg (by omega)]
theorem cnt_lose {k : Nat} {M : Nat → Bool} (hM : M k = false) : (N : Nat) → k < N → cnt (lose k M) N = cnt M N + 1
  | 0, h => absurd h (Nat.not_lt_zero k)
  | N + 1, h => by
    show cnt (lose k M) N + (if lose k M N then 1 else 0) = cnt M N + (if M N then 1 else 0) + 1
    by_cases e : N = k
    · subst e
      rw [cnt_same N (Nat.le_refl _), show lose N M N = true from if_pos rfl, hM]
      rfl
    · rw [cnt_lose hM N (by omega), show lose k M N = M N from if_neg e]
      omega

/-- How long each shard is, those that are gone having no bytes. -/
def goneL (M : Nat → Bool) (c i : Nat) : Nat := if M i then 0 else c
theorem there_gone {M : Nat → Bool} {c : Nat} (hc : 1 ≤ c) : (N : Nat) → (there (goneL M c) N).length + cnt M N = N
  | 0 => rfl
  | N + 1 => by
    have ih := there_gone (M := M) hc N
    show _ + (cnt M N + (if M N then 1 else 0)) = N + 1
    cases h : M N with
    | true =>
      have e : goneL M c N = 0 := if_pos h
      rw [there_no (by omega)]
      simp
      omega
    | false =>
      have e : goneL M c N = c := if_neg (by rw [h]; decide)
      rw [there_yes (by omega)]
      simp
      omega
theorem gone_len {M : Nat → Bool} {c N p : Nat} (h : p < (there (goneL M c) N).length) : goneL M c (thr (goneL M c) N p) = c := by
  have h1 := (thr_mem h).2
  unfold goneL at h1 ⊢
  split
  · rename_i h2
    rw [if_pos h2] at h1
    omega
  · rfl
theorem gone_lost {M : Nat → Bool} {c n s : Nat} (hc : 1 ≤ c) (h1 : 1 ≤ n) (h2 : n ≤ 8) (h3 : s ≤ 4) (h : s < cnt M (n + s)) : mendE n (n + s) (goneL M c) = 10 := by
  have ht := there_gone (M := M) hc (n + s)
  unfold mendE
  rw [wrongC_ok (by omega), if_neg (by decide), if_pos (by simp; omega)]
theorem gone_ok {M : Nat → Bool} {c n s : Nat} (hc : 1 ≤ c) (hc4 : c ≤ 400) (h1 : 1 ≤ n) (h2 : n ≤ 8) (h3 : s ≤ 4) (h : cnt M (n + s) ≤ s) : mendE n (n + s) (goneL M c) = 0 ∧ n ≤ (there (goneL M c) (n + s)).length := by
  have ht := there_gone (M := M) hc (n + s)
  refine ⟨?_, by omega⟩
  unfold mendE
  rw [wrongC_ok (by omega), if_neg (by decide), if_neg (by simp; omega), if_pos ?_]
  refine ⟨?_, fun p hp => ?_⟩
  · rw [gone_len (by omega)]
    exact hc4
  · rw [gone_len hp, gone_len (by omega)]

theorem Lst.off {S : Nat → Prop} {w w' : World} {B g N c : Nat} {G O K : Nat → Nat} {f : Nat → Nat → Nat} (h : Lst w B g N c G O K f) (ho : Off S w w') (hg : ¬ S g) (hG : ∀ i, i < N → 1 ≤ c → ¬ S (G i)) : Lst w' B g N c G O K f :=
  ⟨h.low, h.top.of_block (ho.block g h.top.lt hg), fun i hi k hk => (World.cell?_of_block (ho.block (G i) (World.block_lt_of_cell? _ _ (h.row i hi k hk)) (hG i hi (by omega)))).trans (h.row i hi k hk), h.apart⟩
theorem Lst.lt {w : World} {B g N c : Nat} {G O K : Nat → Nat} {f : Nat → Nat → Nat} (h : Lst w B g N c G O K f) {i : Nat} (hi : i < N) (hc : 1 ≤ c) : G i < w.heap.size := World.block_lt_of_cell? _ _ (h.row i hi 0 (by omega))

/-- What a list of shards holds of which some are gone. -/
def goneV (M : Nat → Bool) (c : Nat) (G O K : Nat → Nat) (i : Nat) : Value := if M i then .slice none 0 0 else .slice (some ⟨G i, O i, none⟩) c (K i)
theorem arg_gone {w : World} {gL cap N c : Nat} {M : Nat → Bool} {G O K : Nat → Nat} {f : Nat → Nat → Nat} (bd : Gf.Bd2 f) (ht : RowC w gL 34 N (goneV M c G O K)) (hr : ∀ i, i < N → ∀ k, k < c → w.cell? ⟨G i, O i + k, none⟩ = some (.int .u8 (f i k : Nat))) :
    Arg w (.slice (some ⟨gL, 0, none⟩) N cap) N (goneL M c) f := by
  refine ⟨bd, some ⟨gL, 0, none⟩, cap, fun i => if M i then none else some ⟨G i, O i, none⟩, fun i => if M i then 0 else K i, rfl, fun i hi => ⟨gL, 0, rfl, ?_, fun k hk => ?_⟩⟩
  · rw [Nat.zero_add, ht.cell hi]
    unfold goneV goneL
    by_cases h : M i = true
    · simp [h]
    · simp [h]
  · unfold goneL at hk
    cases h : M i with
    | true =>
      rw [h] at hk
      exact absurd hk (Nat.not_lt_zero k)
    | false =>
      rw [h] at hk
      exact ⟨G i, O i, by simp [h], hr i hi k hk⟩
theorem gone_step {w : World} {gL N c k : Nat} {M : Nat → Bool} {G O K : Nat → Nat} (h : RowC w gL 34 N (goneV M c G O K)) : RowC (w.setCell ⟨gL, k, none⟩ (.slice none 0 0)) gL 34 N (goneV (lose k M) c G O K) :=
  (h.set k _).congr (fun j _ => by
    unfold goneV lose
    by_cases e : j = k
    · rw [if_pos e, if_pos e]
      rfl
    · rw [if_neg e, if_neg e])

end Go.Proofs.Ytbidimaljeblgab
