/-
  Blocks of a segment of which some are gone or spoilt: what is read of them. Nothing of the program is named here.
-/
import Derived.Test.YtmlboaejkmffjadSBase
import Derived.Test.YtmlboaejkmffjadCnt
namespace Go.Proofs.Ytmlboaejkmffjad
open Go.RowKit

theorem there_congr {L L' : Nat → Nat} {N : Nat} (h : ∀ i, i < N → L i = L' i) : there L N = there L' N := by
  unfold there
  refine List.filter_congr (fun i hi => ?_)
  rw [h i (List.mem_range.1 hi)]
/-- Blocks of a segment: those that M strikes are not right, the others are as they were laid. -/
structure Hurt (r : Nat → Nat) (L seg d s : Nat) (M : Nat → Bool) (Ls : Nat → Nat) (g : Nat → Nat → Nat) : Prop where
  ok : ∀ i, i < d + s → M i = false → Ls i = Seg.layN L d + 11 ∧ g i = Seg.blk r L seg d i
  bad : ∀ i, i < d + s → M i = true → ¬ Seg.right seg Ls g i
section
variable {r : Nat → Nat} {L seg d s : Nat} {M : Nat → Bool} {Ls : Nat → Nat} {g : Nat → Nat → Nat}
theorem Hurt.right (h : Hurt r L seg d s M Ls g) (h1 : 1 ≤ d) (h2 : d ≤ 8) (h3 : s ≤ 4) (h4 : seg ≤ 39) (h5 : L ≤ 400 * d) {i : Nat} (hi : i < d + s) : Seg.right seg Ls g i ↔ M i = false := by
  constructor
  · intro q
    cases hM : M i with
    | false => rfl
    | true => exact absurd q (h.bad i hi hM)
  · intro q
    obtain ⟨e1, e2⟩ := h.ok i hi q
    obtain ⟨q1, q2, q3⟩ := Seg.blk_right (r := r) (L := L) (seg := seg) (d := d) (i := i) h1 h5 h4 (by omega) h2
    refine ⟨by rw [e1, e2]; exact q1, by rw [e2, q2], by rw [e2, q3]⟩
theorem Hurt.len (h : Hurt r L seg d s M Ls g) (h1 : 1 ≤ d) (h2 : d ≤ 8) (h3 : s ≤ 4) (h4 : seg ≤ 39) (h5 : L ≤ 400 * d) {i : Nat} (hi : i < d + s) : Seg.rl seg Ls g i = goneL M (Seg.layN L d) i := by
  have hr := h.right h1 h2 h3 h4 h5 hi
  unfold goneL
  cases hM : M i with
  | false =>
    rw [Seg.rl_yes (hr.2 hM), (h.ok i hi hM).1, Nat.add_sub_cancel]
    rfl
  | true =>
    rw [Seg.rl_no (h.bad i hi hM)]
    rfl
theorem Hurt.size (h : Hurt r L seg d s M Ls g) (h1 : 1 ≤ d) (h2 : d ≤ 8) (h3 : s ≤ 4) (h4 : seg ≤ 39) (h5 : L ≤ 400 * d) {i : Nat} (hi : i < d + s) (hr : Seg.right seg Ls g i) : Seg.rz g i = L := by
  obtain ⟨_, e2⟩ := h.ok i hi ((h.right h1 h2 h3 h4 h5 hi).1 hr)
  unfold Seg.rz
  rw [e2, Seg.blk_in (by omega), Crc.enc_hd (by omega), Crc.enc_hd (by omega)]
  show L / 256 * 256 + L % 256 = L
  omega
theorem Hurt.there (h : Hurt r L seg d s M Ls g) (h1 : 1 ≤ d) (h2 : d ≤ 8) (h3 : s ≤ 4) (h4 : seg ≤ 39) (h5 : L ≤ 400 * d) : (there (Seg.rl seg Ls g) (d + s)).length + cnt M (d + s) = d + s := by
  rw [there_congr (fun i hi => h.len h1 h2 h3 h4 h5 hi)]
  exact there_gone (Seg.layN_pos L d h1) _
/-- More are struck than there are spare ones: it is lost. -/
theorem read_lost (h : Hurt r L seg d s M Ls g) (h1 : 1 ≤ d) (h2 : d ≤ 8) (h3 : s ≤ 4) (h4 : seg ≤ 39) (h5 : L ≤ 400 * d) (hc : s < cnt M (d + s)) : readE seg d (d + s) Ls g = 10 := by
  have ht := h.there h1 h2 h3 h4 h5
  have hw : wrongC (d : Int) (((d + s : Nat) : Int) - (d : Int)) = 0 := wrongC_ok (by omega)
  have hm : mendE (d : Int) (d + s) (Seg.rl seg Ls g) = 10 := by
    unfold mendE
    rw [if_neg (fun q => q hw), if_pos (by rw [Int.toNat_natCast]; omega)]
  unfold readE
  rw [if_neg (fun q => q hw), if_neg (fun q => q (fun i hi j hj q1 q2 => by rw [h.size h1 h2 h3 h4 h5 hi q1, h.size h1 h2 h3 h4 h5 hj q2])), if_pos (by rw [hm]; decide), hm]
/-- No more are struck: it is read. -/
theorem read_kept (h : Hurt r L seg d s M Ls g) (h1 : 1 ≤ d) (h2 : d ≤ 8) (h3 : s ≤ 4) (h4 : seg ≤ 39) (h5 : L ≤ 400 * d) (hc : cnt M (d + s) ≤ s) (hr : ∀ k, r k < 256) :
    readE seg d (d + s) Ls g = 0 ∧ Seg.rz g (thr (Seg.rl seg Ls g) (d + s) 0) = L ∧ ∀ r', Gf.Bd2 r' → Gf.Und d (fun p => Gf.rowF d (thr (Seg.rl seg Ls g) (d + s) p)) r' → ∀ k, k < L → readF d (d + s) (Seg.rl seg Ls g) (Seg.rf g) r' k = r k := by
  have ht := h.there h1 h2 h3 h4 h5
  have hn1 := Seg.layN_pos L d h1
  have hn2 := Seg.layN_le h1 h5
  have hw : wrongC (d : Int) (((d + s : Nat) : Int) - (d : Int)) = 0 := wrongC_ok (by omega)
  have hp : ∀ p, p < (there (Seg.rl seg Ls g) (d + s)).length → thr (Seg.rl seg Ls g) (d + s) p < d + s ∧ Seg.right seg Ls g (thr (Seg.rl seg Ls g) (d + s) p) ∧ Seg.rl seg Ls g (thr (Seg.rl seg Ls g) (d + s) p) = Seg.layN L d := fun p hp => by
    obtain ⟨q1, q2⟩ := thr_mem hp
    have q3 := Seg.rl_right q2
    refine ⟨q1, q3, ?_⟩
    rw [Seg.rl_yes q3, (h.ok _ q1 ((h.right h1 h2 h3 h4 h5 q1).1 q3)).1, Nat.add_sub_cancel]
  obtain ⟨a1, a2, a3⟩ := hp 0 (by omega)
  have hm : mendE (d : Int) (d + s) (Seg.rl seg Ls g) = 0 := by
    unfold mendE
    rw [if_neg (fun q => q hw), if_neg (by rw [Int.toNat_natCast]; omega), if_pos ⟨by rw [a3]; exact hn2, fun p q => by rw [(hp p q).2.2, a3]⟩]
  have hz := h.size h1 h2 h3 h4 h5 a1 a2
  refine ⟨?_, hz, fun r' hb' hu k hk => ?_⟩
  · unfold readE
    rw [if_neg (fun q => q hw), if_neg (fun q => q (fun i hi j hj q1 q2 => by rw [h.size h1 h2 h3 h4 h5 hi q1, h.size h1 h2 h3 h4 h5 hj q2])), if_neg (fun q => q hm), hz, a3, Int.toNat_natCast, if_neg]
    have := Seg.layN_room L d h1
    rw [Nat.mul_comm] at this
    omega
  · unfold readF
    rw [a3]
    have hk1 : k / Seg.layN L d < d := by
      rw [Nat.div_lt_iff_lt_mul (by omega), Nat.mul_comm]
      exact Nat.lt_of_lt_of_le hk (Seg.layN_room L d h1)
    have hk2 : k % Seg.layN L d < Seg.layN L d := Nat.mod_lt _ (by omega)
    have hD := Seg.layD_bd hr L (Seg.layN L d)
    rw [mended (D := Seg.layD r L (Seg.layN L d)) hD hb' hu (fun p q => ?_), shard_data hD hk1, Seg.layD_in hk2]
    · rw [Nat.mul_comm, Nat.div_add_mod]
    · rw [Nat.mul_comm, Nat.div_add_mod]; exact hk
    · obtain ⟨b1, b2, _⟩ := hp p (by omega)
      obtain ⟨_, e2⟩ := h.ok _ b1 ((h.right h1 h2 h3 h4 h5 b1).1 b2)
      show g _ (k % Seg.layN L d + 7) = _
      rw [e2, Seg.blk_in (by omega), Crc.enc_hd (by omega)]
      rfl
end

theorem strB_congr {f g : Nat → Nat} {n : Nat} (h : ∀ k, k < n → f k = g k) : strB f n = strB g n := by
  unfold strB
  refine congrArg _ ?_
  exact List.map_congr_left (fun k hk => by rw [h k (List.mem_range.1 hk)])

/-- The blocks of a segment hang on its bytes alone. -/
theorem shard_congr {r r' : Nat → Nat} {L d : Nat} (h : ∀ k, k < L → r k = r' k) : Seg.shard r L d = Seg.shard r' L d := by
  have e : Seg.layD r L (Seg.layN L d) = Seg.layD r' L (Seg.layN L d) := by
    funext i k
    unfold Seg.layD
    split
    · rename_i q
      rw [h _ q.2]
    · rfl
  unfold Seg.shard
  rw [e]
theorem blk_congr {r r' : Nat → Nat} {L seg d : Nat} (h : ∀ k, k < L → r k = r' k) : Seg.blk r L seg d = Seg.blk r' L seg d := by
  funext i
  unfold Seg.blk
  rw [shard_congr h]

end Go.Proofs.Ytmlboaejkmffjad
