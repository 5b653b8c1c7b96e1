/-
  Rows with room behind them, and lists of rows that are appended to.
-/
import Derived.Test.YtbidimaljeblgabOpen
namespace Go.Proofs.Ytbidimaljeblgab
open Go.RowKit

theorem i64_xor (a b : Int) (h1 : 0 ≤ a) (h2 : a < 9223372036854775808) (h3 : 0 ≤ b) (h4 : b < 9223372036854775808) : bits .xor .i64 a b = ((a.toNat ^^^ b.toNat : Nat) : Int) := by
  obtain ⟨A, rfl⟩ := Int.eq_ofNat_of_zero_le h1
  obtain ⟨B, rfl⟩ := Int.eq_ofNat_of_zero_le h3
  have hx : A ^^^ B < 2 ^ 63 := Nat.xor_lt_two_pow (by omega) (by omega)
  show IntKind.i64.wrap ((BitVec.ofInt 64 (A : Int) ^^^ BitVec.ofInt 64 (B : Int)).toNat : Int) = _
  rw [BitVec.toNat_xor, ofInt_u64 A (by omega), ofInt_u64 B (by omega), IntKind.wrap_i64, Int.toNat_natCast, Int.toNat_natCast]
  omega

/-- Block g is a row whose first n cells, of type t, hold F. -/
def RowC (w : World) (g : Nat) (t : TypeId) (n : Nat) (F : Nat → Value) : Prop := ∃ m F', w.rowIs g t m F' ∧ n ≤ m ∧ ∀ j, j < n → F' j = F j
namespace RowC
variable {w : World} {g : Nat} {t : TypeId} {n : Nat} {F : Nat → Value}
theorem cell (h : RowC w g t n F) {j : Nat} (hj : j < n) : w.cell? ⟨g, j, none⟩ = some (F j) := by
  obtain ⟨m, F', hr, hm, he⟩ := h
  rw [hr.cell (Nat.lt_of_lt_of_le hj hm), he j hj]
theorem frozen (h : RowC w g t n F) (j : Nat) : w.frozen? ⟨g, j, none⟩ = false := by
  obtain ⟨m, F', hr, _, _⟩ := h
  exact hr.frozen j
theorem lt (h : RowC w g t n F) : g < w.heap.size := by
  obtain ⟨m, F', hr, _, _⟩ := h
  exact hr.lt
theorem congr {F2 : Nat → Value} (h : RowC w g t n F) (e : ∀ j, j < n → F j = F2 j) : RowC w g t n F2 := by
  obtain ⟨m, F', hr, hm, he⟩ := h
  exact ⟨m, F', hr, hm, fun j hj => (he j hj).trans (e j hj)⟩
theorem of_block {w' : World} (h : RowC w g t n F) (e : w'.heap[g]? = w.heap[g]?) : RowC w' g t n F := by
  obtain ⟨m, F', hr, hm, he⟩ := h
  exact ⟨m, F', hr.of_block e, hm, he⟩
theorem set (h : RowC w g t n F) (i : Nat) (v : Value) : RowC (w.setCell ⟨g, i, none⟩ v) g t n (fun j => if j = i then v else F j) := by
  obtain ⟨m, F', hr, hm, he⟩ := h
  refine ⟨m, _, hr.set i v, hm, fun j hj => ?_⟩
  show (if j = i then v else F' j) = (if j = i then v else F j)
  by_cases e : j = i
  · rw [if_pos e, if_pos e]
  · rw [if_neg e, if_neg e, he j hj]
theorem setOther (h : RowC w g t n F) {a : Addr} (ha : g ≠ a.block) (v : Value) : RowC (w.setCell a v) g t n F := h.of_block (Deep.blk_setCell_other _ _ _ _ ha)
theorem alloc (h : RowC w g t n F) (o : Obj) : RowC (w.alloc o) g t n F := h.of_block (Deep.blk_alloc_lt _ _ _ h.lt)
theorem drew (h : RowC w g t n F) : RowC w.drew g t n F := h
theorem below {w' : World} (h : RowC w g t n F) (hb : Below w.heap.size w w') : RowC w' g t n F := h.of_block (hb.block g h.lt)
theorem ne {g' : Nat} {t' : TypeId} {n' : Nat} {F2 : Nat → Value} (h : RowC w g t n F) (h' : RowC w g' t' n' F2) (ht : t ≠ t') : g ≠ g' := fun e => by
  obtain ⟨_, _, ⟨c, h1, _, _⟩, _, _⟩ := h
  obtain ⟨_, _, ⟨c', h2, _, _⟩, _, _⟩ := h'
  rw [e, h2] at h1
  cases h1
  exact ht rfl
end RowC
theorem rowC_of {w : World} {g : Nat} {t : TypeId} {n : Nat} {F : Nat → Value} (h : w.rowIs g t n F) : RowC w g t n F := ⟨n, F, h, Nat.le_refl _, fun _ _ => rfl⟩

/-- What is appended to lies in a block of its own. -/
theorem rowC_owns {w : World} {N : Nat} {t : TypeId} {v : Value} {n : Nat} {xs : List Value} (h : w.ownsRow N t 1 v n xs) (hn : 1 ≤ n) :
    ∃ g cap, v = .slice (some ⟨g, 0, none⟩) n cap ∧ N ≤ g ∧ n ≤ cap ∧ RowC w g t n (fun j => xs.getD j (.slice none 0 0)) := by
  obtain ⟨hl, h⟩ := h
  rcases h with ⟨_, h0⟩ | ⟨g, cap, cur, hv, hN, hg, hc, _, hs, ht⟩
  · omega
  · refine ⟨g, cap, hv, hN, hc, cur.size, fun j => cur.getD j (.slice none 0 0), ⟨cur, hg, rfl, fun i hi => by simp [hi]⟩, by omega, fun j hj => ?_⟩
    have hj' : j < cur.size := by omega
    have : xs[j]? = cur[j]? := by
      rw [← ht, List.getElem?_take, if_pos (by omega)]
      simp
    simp [List.getD, this, hj']

/-- A list of rows that is appended to: k of them so far. -/
structure Acc (w : World) (N : Nat) (v : Value) (k c : Nat) (G K : Nat → Nat) (f : Nat → Nat → Nat) : Prop where
  own : w.ownsRow N 34 1 v k ((List.range k).map fun i => .slice (some ⟨G i, 0, none⟩) c (K i))
  row : ∀ i, i < k → N ≤ G i ∧ RowC w (G i) 5 c (fun j => .int .u8 (f i j : Nat))

theorem grown_of_below {w w' : World} (h : Below w.heap.size w w') (row : Option Nat) : w.grownBy w' row := ⟨h.os, h.tape, h.output, h.size, fun k hk _ => h.block k hk⟩
theorem owns_below {w w' : World} {N : Nat} {t : TypeId} {s : Nat} {v : Value} {n : Nat} {xs : List Value} (h : w.ownsRow N t s v n xs) (hb : Below w.heap.size w w') : w'.ownsRow N t s v n xs :=
  h.kept (grown_of_below hb none) (by cases hv : v.ownBlock <;> simp)
theorem Acc.below {w w' : World} {N : Nat} {v : Value} {k c : Nat} {G K : Nat → Nat} {f : Nat → Nat → Nat} (h : Acc w N v k c G K f) (hb : Below w.heap.size w w') : Acc w' N v k c G K f :=
  ⟨owns_below h.own hb, fun i hi => ⟨(h.row i hi).1, (h.row i hi).2.below hb⟩⟩
theorem Acc.start (w : World) (N c : Nat) (G K : Nat → Nat) (f : Nat → Nat → Nat) : Acc w N (.slice none 0 0) 0 c G K f :=
  ⟨World.ownsRow_nil w N _ 1, fun i hi => absurd hi (Nat.not_lt_zero i)⟩
theorem owns_block {w : World} {N : Nat} {t : TypeId} {v : Value} {n x : Nat} {xs : List Value} (h : w.ownsRow N t 1 v n xs) (hx : v.ownBlock = some x) : ∃ F, RowC w x t 0 F := by
  rcases h.2 with ⟨rfl, _⟩ | ⟨g, cap, cur, rfl, _, hg, _⟩
  · simp [Value.ownBlock] at hx
  · simp [Value.ownBlock] at hx
    subst hx
    exact ⟨fun j => cur.getD j (.slice none 0 0), cur.size, fun j => cur.getD j (.slice none 0 0), ⟨cur, hg, rfl, fun i hi => by simp [hi]⟩, Nat.zero_le _, fun j hj => absurd hj (Nat.not_lt_zero j)⟩
theorem Acc.step {w w' : World} {N : Nat} {v v' : Value} {k c : Nat} {G K : Nat → Nat} {f : Nat → Nat → Nat} {gk Kk : Nat} (h : Acc w N v k c G K f) (hr : N ≤ gk ∧ RowC w gk 5 c (fun j => .int .u8 (f k j : Nat)))
    (ho : w'.ownsRow N 34 1 v' (k + 1) (((List.range k).map fun i => .slice (some ⟨G i, 0, none⟩) c (K i)) ++ [.slice (some ⟨gk, 0, none⟩) c Kk])) (hg : w.grownBy w' v.ownBlock) : Acc w' N v' (k + 1) c (updG G k gk) (updG K k Kk) f := by
  have keep : ∀ x F, RowC w x 5 c F → RowC w' x 5 c F := fun x F hx => hx.of_block (hg.block x hx.lt (fun e => by
    obtain ⟨F2, h2⟩ := owns_block h.own e.symm
    exact hx.ne h2 (by decide) rfl))
  refine ⟨?_, fun i hi => ?_⟩
  · have e : (List.range (k + 1)).map (fun i => Value.slice (some ⟨updG G k gk i, 0, none⟩) c (updG K k Kk i)) = ((List.range k).map fun i => .slice (some ⟨G i, 0, none⟩) c (K i)) ++ [.slice (some ⟨gk, 0, none⟩) c Kk] := by
      rw [List.range_succ, List.map_append]
      congr 1
      · refine List.map_congr_left (fun i hi => ?_)
        have := List.mem_range.1 hi
        unfold updG
        rw [if_neg (by omega), if_neg (by omega)]
      · unfold updG
        simp
    rw [e]
    exact ho
  · unfold updG
    by_cases e : i = k
    · rw [if_pos e, e]
      exact ⟨hr.1, keep _ _ hr.2⟩
    · rw [if_neg e]
      exact ⟨(h.row i (by omega)).1, keep _ _ (h.row i (by omega)).2⟩
theorem Acc.mx {w : World} {N : Nat} {v : Value} {k c : Nat} {G K : Nat → Nat} {f : Nat → Nat → Nat} (h : Acc w N v k c G K f) (bd : Gf.Bd2 f) (dim : 1 ≤ k ∧ k ≤ 12 ∧ 1 ≤ c ∧ c ≤ 400) : Mx w v k c f := by
  obtain ⟨g, cap, hv, _, _, hr⟩ := rowC_owns h.own dim.1
  refine ⟨bd, dim, g, 0, cap, G, fun _ => 0, K, hv, fun r hr' => ?_, fun r hr' j hj => ?_⟩
  · rw [Nat.zero_add, hr.cell hr']
    simp [List.getD, hr']
  · rw [Nat.zero_add]
    exact (h.row r hr').2.cell hj

end Go.Proofs.Ytbidimaljeblgab
