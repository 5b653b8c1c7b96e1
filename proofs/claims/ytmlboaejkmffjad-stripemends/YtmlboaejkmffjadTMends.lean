/-
  Blocks of a segment that hurt has struck: what is told of them.
-/
import Derived.Test.YtmlboaejkmffjadTHurtA
namespace Go.Proofs.Ytmlboaejkmffjad
open Go.RowKit

/-- What hurt leaves are blocks of the segment; those that it has struck are wrong ones. -/
theorem hurt_rel {r : Nat → Nat} {L seg d s : Nat} {M : Nat → Bool} {Ls : Nat → Nat} {g : Nat → Nat → Nat} (h1 : 1 ≤ d) (h2 : d ≤ 8) (h3 : s ≤ 4) (h4 : seg ≤ 39) (h5 : L ≤ 400 * d) (bd : Gf.Bd2 g)
    (hok : ∀ i, i < d + s → M i = false → Ls i = Seg.layN L d + 11 ∧ g i = Seg.blk r L seg d i) (hbad : ∀ i, i < d + s → M i = true → Turn (Seg.layN L d + 11) (Seg.blk r L seg d i) (Ls i) (g i)) : Hurt r L seg d s M Ls g := by
  refine ⟨hok, fun i hi hM => ?_⟩
  rcases hbad i hi hM with h0 | ⟨hl, p, x, hp, hx0, hx, hg⟩
  · exact not_right_zero h0
  · intro q
    have q1 := q.1
    have n1 := Seg.layN_pos L d h1
    have n2 := Seg.layN_le h1 h5
    have hne : g i p ≠ Crc.enc seg i L (Seg.layN L d) (Seg.shard r L d i) p := fun e => by
      rw [hg] at e
      simp only [if_true] at e
      rw [Seg.blk_in (by omega)] at e
      have e2 : Crc.enc seg i L (Seg.layN L d) (Seg.shard r L d i) p ^^^ (Crc.enc seg i L (Seg.layN L d) (Seg.shard r L d i) p ^^^ x) = Crc.enc seg i L (Seg.layN L d) (Seg.shard r L d i) p ^^^ Crc.enc seg i L (Seg.layN L d) (Seg.shard r L d i) p := by rw [e]
      rw [← Nat.xor_assoc, Nat.xor_self, Nat.zero_xor] at e2
      exact hx0 e2
    have hs := Crc.parse_turned (s := seg) (h := i) (z := L) (n := Seg.layN L d) (f := Seg.shard r L d i) (g := g i) (p := p) (fun k => Gf.mm_lt (fun p => Gf.rowF_bd d p) _ _ _ _) (bd i) (Crc.wrongB_ok (by omega) (by omega)) hp hne (fun k hk => by
      rw [hg]
      simp only [if_neg hk]
      rw [Seg.blk_in (by omega)])
    rw [hl] at q1
    omega

end Go.Proofs.Ytmlboaejkmffjad
