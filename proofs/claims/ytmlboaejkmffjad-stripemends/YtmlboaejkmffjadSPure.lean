/-
  The plain form of segments over shards: how long a shard is, what it has; what is read of blocks.
-/
import Derived.Test.YtmlboaejkmffjadCau
import Derived.Test.YtmlboaejkmffjadBPure
namespace Go.Proofs.Ytmlboaejkmffjad.Seg

/-- How many bytes a shard has: the least number, 1 at least, with which d of them have room for L. -/
def layN (L d : Nat) : Nat := if L ≤ d then 1 else (L + d - 1) / d
theorem layN_pos (L d : Nat) (hd : 1 ≤ d) : 1 ≤ layN L d := by
  unfold layN
  split
  · exact Nat.le_refl _
  · rw [Nat.le_div_iff_mul_le (by omega)]
    omega
theorem layN_room (L d : Nat) (hd : 1 ≤ d) : L ≤ layN L d * d := by
  unfold layN
  split
  · omega
  · have := Nat.div_add_mod (L + d - 1) d
    have h2 := Nat.mod_lt (L + d - 1) (show d > 0 by omega)
    rw [Nat.mul_comm] at this
    omega
theorem layN_least {L d n : Nat} (hd : 1 ≤ d) (h1 : 1 ≤ n) (h : L ≤ n * d) : layN L d ≤ n := by
  unfold layN
  split
  · exact h1
  · have h3 : (L + d - 1) / d < n + 1 := by
      rw [Nat.div_lt_iff_lt_mul (by omega), Nat.succ_mul]
      omega
    omega
theorem layN_le {L d : Nat} (hd : 1 ≤ d) (h : L ≤ 400 * d) : layN L d ≤ 400 := layN_least hd (by decide) h
/-- Data of a segment: byte k of shard i. -/
def layD (r : Nat → Nat) (L n i k : Nat) : Nat := if k < n ∧ i * n + k < L then r (i * n + k) else 0
theorem layD_in {r : Nat → Nat} {L n i k : Nat} (hk : k < n) (h : i * n + k < L) : layD r L n i k = r (i * n + k) := if_pos ⟨hk, h⟩
theorem layD_out {r : Nat → Nat} {L n i k : Nat} (h : ¬ i * n + k < L) : layD r L n i k = 0 := if_neg (fun q => h q.2)
theorem layD_bd {r : Nat → Nat} (hr : ∀ k, r k < 256) (L n : Nat) : Gf.Bd2 (layD r L n) := fun i k => by
  show layD r L n i k < 256
  unfold layD
  split
  · exact hr _
  · decide
/-- What is told of a segment. -/
def layE (L : Nat) (seg d s : Int) : Nat := if d < 1 ∨ 8 < d ∨ s < 0 ∨ 4 < s then 5 else if seg < 0 ∨ 39 < seg then 3 else if 400 * d < (L : Int) then 4 else 0
/-- Shard i of a segment. -/
def shard (r : Nat → Nat) (L d : Nat) : Nat → Nat → Nat := Gf.mm d (Gf.rowF d) (layD r L (layN L d))
/-- Block i of a segment. -/
def blk (r : Nat → Nat) (L seg d i : Nat) : Nat → Nat := if i < 12 then Crc.enc seg i L (layN L d) (shard r L d i) else fun _ => 0
theorem blk_in {r : Nat → Nat} {L seg d i : Nat} (hi : i < 12) : blk r L seg d i = Crc.enc seg i L (layN L d) (shard r L d i) := if_pos hi
theorem blk_bd {r : Nat → Nat} {L seg d : Nat} (hd : 1 ≤ d) (hL : L ≤ 400 * d) (hs : seg ≤ 39) (hd8 : d ≤ 8) : Gf.Bd2 (blk r L seg d) := fun i k => by
  have h2 := layN_le hd hL
  have hb : ∀ k, shard r L d i k < 256 := fun k => Gf.mm_lt (fun p => Gf.rowF_bd d p) _ _ _ _
  unfold blk
  by_cases h : i < 12
  · rw [if_pos h]
    exact Crc.enc_bd (by omega) (by omega) (by omega) (by omega) hb k
  · rw [if_neg h]
    decide

/-- A block is the one that it must be. -/
abbrev right (seg : Int) (L : Nat → Nat) (g : Nat → Nat → Nat) (i : Nat) : Prop := Crc.parseE (g i) (L i) = 0 ∧ ((g i 1 : Nat) : Int) = seg ∧ g i 2 = i
/-- Those that are not, below k. -/
def badL (seg : Int) (L : Nat → Nat) (g : Nat → Nat → Nat) (k : Nat) : List Nat := (List.range k).filter (fun i => decide (¬ right seg L g i))
theorem badL_yes {seg : Int} {L : Nat → Nat} {g : Nat → Nat → Nat} {k : Nat} (h : ¬ right seg L g k) : badL seg L g (k + 1) = badL seg L g k ++ [k] := by
  unfold badL
  rw [List.range_succ, List.filter_append]
  congr 1
  exact List.filter_cons_of_pos (p := fun i => decide (¬ right seg L g i)) (decide_eq_true h)
theorem badL_no {seg : Int} {L : Nat → Nat} {g : Nat → Nat → Nat} {k : Nat} (h : right seg L g k) : badL seg L g (k + 1) = badL seg L g k := by
  unfold badL
  rw [List.range_succ, List.filter_append]
  have e : List.filter (fun i => decide (¬ right seg L g i)) [k] = [] := List.filter_cons_of_neg (p := fun i => decide (¬ right seg L g i)) (fun q => (of_decide_eq_true q) h)
  rw [e, List.append_nil]
/-- A block that was laid is right. -/
theorem blk_right {r : Nat → Nat} {L seg d i : Nat} (hd : 1 ≤ d) (hL : L ≤ 400 * d) (hs : seg ≤ 39) (hi : i ≤ 11) (hd8 : d ≤ 8) :
    Crc.parseE (blk r L seg d i) (layN L d + 11) = 0 ∧ blk r L seg d i 1 = seg ∧ blk r L seg d i 2 = i := by
  have h1 := layN_pos L d hd
  have h2 := layN_le hd hL
  have hw : Crc.wrongB seg i L (layN L d) = 0 := Crc.wrongB_ok (by omega) (by omega)
  have hb : ∀ k, shard r L d i k < 256 := fun k => Gf.mm_lt (fun p => Gf.rowF_bd d p) _ _ _ _
  rw [blk_in (by omega)]
  exact ⟨Crc.parse_enc hb hw, Crc.enc_hd (by omega), Crc.enc_hd (by omega)⟩

/-! ### What is read -/
/-- How many bytes of data block i has: none, if it is not the right one. -/
def rl (seg : Int) (L : Nat → Nat) (g : Nat → Nat → Nat) (i : Nat) : Nat := if right seg L g i then L i - 11 else 0
/-- Its data. -/
def rf (g : Nat → Nat → Nat) (i k : Nat) : Nat := g i (k + 7)
/-- Its Size. -/
def rz (g : Nat → Nat → Nat) (i : Nat) : Nat := g i 3 * 256 + g i 4
theorem rl_yes {seg : Int} {L : Nat → Nat} {g : Nat → Nat → Nat} {i : Nat} (h : right seg L g i) : rl seg L g i = L i - 11 := if_pos h
theorem rl_no {seg : Int} {L : Nat → Nat} {g : Nat → Nat → Nat} {i : Nat} (h : ¬ right seg L g i) : rl seg L g i = 0 := if_neg h
theorem rl_right {seg : Int} {L : Nat → Nat} {g : Nat → Nat → Nat} {i : Nat} (h : 0 < rl seg L g i) : right seg L g i := by
  refine Classical.byContradiction fun q => ?_
  rw [rl_no q] at h
  omega
/-- All right ones have one Size. -/
abbrev sizes (seg : Int) (L : Nat → Nat) (g : Nat → Nat → Nat) (N : Nat) : Prop := ∀ i, i < N → ∀ j, j < N → right seg L g i → right seg L g j → rz g i = rz g j

end Go.Proofs.Ytmlboaejkmffjad.Seg
