/-
  Rows with room behind them, and lists of rows that are appended to.
-/
import Derived.Test.YtmlboaejkmffjadOpen
namespace Go.Proofs.Ytmlboaejkmffjad
open Go.RowKit

theorem i64_xor (a b : Int) (h1 : 0 ≤ a) (h2 : a < 9223372036854775808) (h3 : 0 ≤ b) (h4 : b < 9223372036854775808) : bits .xor .i64 a b = ((a.toNat ^^^ b.toNat : Nat) : Int) := by
  obtain ⟨A, rfl⟩ := Int.eq_ofNat_of_zero_le h1
  obtain ⟨B, rfl⟩ := Int.eq_ofNat_of_zero_le h3
  have hx : A ^^^ B < 2 ^ 63 := Nat.xor_lt_two_pow (by omega) (by omega)
  show IntKind.i64.wrap ((BitVec.ofInt 64 (A : Int) ^^^ BitVec.ofInt 64 (B : Int)).toNat : Int) = _
  rw [BitVec.toNat_xor, ofInt_u64 A (by omega), ofInt_u64 B (by omega), IntKind.wrap_i64, Int.toNat_natCast, Int.toNat_natCast]
  omega



/-- A list of rows that is appended to: k of them so far. -/
structure Acc (w : World) (N : Nat) (v : Value) (k c : Nat) (G K : Nat → Nat) (f : Nat → Nat → Nat) : Prop where
  own : w.ownsRow N 25 1 v k ((List.range k).map fun i => .slice (some ⟨G i, 0, none⟩) c (K i))
  row : ∀ i, i < k → N ≤ G i ∧ RowC w (G i) 5 c (fun j => .int .u8 (f i j : Nat))

theorem Acc.below {w w' : World} {N : Nat} {v : Value} {k c : Nat} {G K : Nat → Nat} {f : Nat → Nat → Nat} (h : Acc w N v k c G K f) (hb : Below w.heap.size w w') : Acc w' N v k c G K f :=
  ⟨owns_below h.own hb, fun i hi => ⟨(h.row i hi).1, (h.row i hi).2.below hb⟩⟩
theorem Acc.start (w : World) (N c : Nat) (G K : Nat → Nat) (f : Nat → Nat → Nat) : Acc w N (.slice none 0 0) 0 c G K f :=
  ⟨World.ownsRow_nil w N _ 1, fun i hi => absurd hi (Nat.not_lt_zero i)⟩
theorem Acc.step {w w' : World} {N : Nat} {v v' : Value} {k c : Nat} {G K : Nat → Nat} {f : Nat → Nat → Nat} {gk Kk : Nat} (h : Acc w N v k c G K f) (hr : N ≤ gk ∧ RowC w gk 5 c (fun j => .int .u8 (f k j : Nat)))
    (ho : w'.ownsRow N 25 1 v' (k + 1) (((List.range k).map fun i => .slice (some ⟨G i, 0, none⟩) c (K i)) ++ [.slice (some ⟨gk, 0, none⟩) c Kk])) (hg : w.grownBy w' v.ownBlock) : Acc w' N v' (k + 1) c (updG G k gk) (updG K k Kk) f := by
  have keep : ∀ x F, RowC w x 5 c F → RowC w' x 5 c F := fun x F hx => hx.of_block (hg.block x hx.lt (fun e => by
    obtain ⟨F2, h2⟩ := owns_block h.own e.symm
    exact hx.ne h2 (by decide) rfl))
  refine ⟨?_, fun i hi => ?_⟩
  · have e : (List.range (k + 1)).map (fun i => Value.slice (some ⟨updG G k gk i, 0, none⟩) c (updG K k Kk i)) = ((List.range k).map fun i => .slice (some ⟨G i, 0, none⟩) c (K i)) ++ [.slice (some ⟨gk, 0, none⟩) c Kk] := by
      rw [List.range_succ, List.map_append]
      congr 1
      · refine List.map_congr_left (fun i hi => ?_)
        have := List.mem_range.1 hi
        unfold updG
        rw [if_neg (by omega), if_neg (by omega)]
      · unfold updG
        simp
    rw [e]
    exact ho
  · unfold updG
    by_cases e : i = k
    · rw [if_pos e, e]
      exact ⟨hr.1, keep _ _ hr.2⟩
    · rw [if_neg e]
      exact ⟨(h.row i (by omega)).1, keep _ _ (h.row i (by omega)).2⟩
theorem Acc.mx {w : World} {N : Nat} {v : Value} {k c : Nat} {G K : Nat → Nat} {f : Nat → Nat → Nat} (h : Acc w N v k c G K f) (bd : Gf.Bd2 f) (dim : 1 ≤ k ∧ k ≤ 12 ∧ 1 ≤ c ∧ c ≤ 400) : Mx w v k c f := by
  obtain ⟨g, cap, hv, _, _, hr⟩ := rowC_owns h.own dim.1
  refine ⟨bd, dim, g, 0, cap, G, fun _ => 0, K, hv, fun r hr' => ?_, fun r hr' j hj => ?_⟩
  · rw [Nat.zero_add, hr.cell hr']
    simp [List.getD, hr']
  · rw [Nat.zero_add]
    exact (h.row r hr').2.cell hj

end Go.Proofs.Ytmlboaejkmffjad
