/-
  A matrix of the call's own whose lists have room behind them, and what is done to it.
-/
import Derived.Test.YtmlboaejkmffjadAppZ
namespace Go.Proofs.Ytmlboaejkmffjad
open Go.RowKit

structure Work (w : World) (N b n c : Nat) (G K : Nat → Nat) (f : Nat → Nat → Nat) : Prop where
  top : RowC w b 25 n (fun r => .slice (some ⟨G r, 0, none⟩) c (K r))
  row : ∀ r, r < n → RowC w (G r) 5 c (fun k => .int .u8 (f r k : Nat))
  lob : N ≤ b
  low : ∀ r, r < n → N ≤ G r
  inj : ∀ r s, r < n → s < n → r ≠ s → G r ≠ G s

theorem Work.apart {w : World} {N b n c : Nat} {G K : Nat → Nat} {f : Nat → Nat → Nat} (h : Work w N b n c G K f) (r : Nat) (hr : r < n) : G r ≠ b := (h.row r hr).ne h.top (by decide)
theorem Work.below {w w' : World} {N b n c : Nat} {G K : Nat → Nat} {f : Nat → Nat → Nat} (h : Work w N b n c G K f) (hb : Below w.heap.size w w') : Work w' N b n c G K f :=
  ⟨h.top.below hb, fun r hr => (h.row r hr).below hb, h.lob, h.low, h.inj⟩
theorem Work.drew {w : World} {N b n c : Nat} {G K : Nat → Nat} {f : Nat → Nat → Nat} (h : Work w N b n c G K f) : Work w.drew N b n c G K f := ⟨h.top, h.row, h.lob, h.low, h.inj⟩
theorem Work.congr {w : World} {N b n c : Nat} {G K : Nat → Nat} {f f' : Nat → Nat → Nat} (h : Work w N b n c G K f) (he : ∀ i, i < n → ∀ j, j < c → f i j = f' i j) : Work w N b n c G K f' :=
  ⟨h.top, fun i hi => (h.row i hi).congr (fun j hj => by rw [he i hi j hj]), h.lob, h.low, h.inj⟩
theorem Work.swap {w : World} {N b n c a p : Nat} {G K : Nat → Nat} {f : Nat → Nat → Nat} (h : Work w N b n c G K f) (ha : a < n) (hp : p < n) :
    Work ((w.setCell ⟨b, a, none⟩ (.slice (some ⟨G p, 0, none⟩) c (K p))).setCell ⟨b, p, none⟩ (.slice (some ⟨G a, 0, none⟩) c (K a))) N b n c (swpG a p G) (swpG a p K) (Gf.swp a p f) := by
  have es : ∀ i, i < n → ∃ s, s < n ∧ swpG a p G i = G s ∧ Gf.swp a p f i = f s ∧ s = (if i = a then p else if i = p then a else i) := fun i hi => by
    unfold swpG Gf.swp
    by_cases h1 : i = a
    · exact ⟨p, hp, by rw [if_pos h1], by rw [if_pos h1], by rw [if_pos h1]⟩
    · by_cases h2 : i = p
      · exact ⟨a, ha, by rw [if_neg h1, if_pos h2], by rw [if_neg h1, if_pos h2], by rw [if_neg h1, if_pos h2]⟩
      · exact ⟨i, hi, by rw [if_neg h1, if_neg h2], by rw [if_neg h1, if_neg h2], by rw [if_neg h1, if_neg h2]⟩
  refine ⟨((h.top.set a _).set p _).congr (fun i _ => ?_), fun i hi => ?_, h.lob, fun i hi => ?_, fun i j hi hj hne => ?_⟩
  · unfold swpG
    by_cases h2 : i = p
    · rw [if_pos h2]
      by_cases h1 : i = a
      · rw [if_pos h1, if_pos h1, ← h1, ← h2]
      · rw [if_neg h1, if_pos h2, if_neg h1, if_pos h2]
    · rw [if_neg h2]
      by_cases h1 : i = a
      · rw [if_pos h1, if_pos h1, if_pos h1]
      · rw [if_neg h1, if_neg h1, if_neg h2, if_neg h1, if_neg h2]
  · obtain ⟨s, hs, e1, e2, _⟩ := es i hi
    rw [e1, e2]
    exact ((h.row s hs).setOther (h.apart s hs) _).setOther (h.apart s hs) _
  · obtain ⟨s, hs, e1, _, _⟩ := es i hi
    rw [e1]
    exact h.low s hs
  · obtain ⟨s, hs, e1, _, e3⟩ := es i hi
    obtain ⟨t, ht, d1, _, d3⟩ := es j hj
    rw [e1, d1]
    refine h.inj s t hs ht ?_
    rw [e3, d3]
    (repeat' split) <;> omega
/-- One byte of it rewritten. -/
theorem Work.put {w : World} {N b n c i k x : Nat} {G K : Nat → Nat} {f f' : Nat → Nat → Nat} (h : Work w N b n c G K f) (hi : i < n) (_hk : k < c) (he : ∀ r j, r < n → j < c → f' r j = if r = i ∧ j = k then x else f r j) :
    Work (w.setCell ⟨G i, k, none⟩ (.int .u8 (x : Int))) N b n c G K f' :=
  ⟨h.top.setOther (fun e => h.apart i hi e.symm) _, fun r hr => by
    by_cases e : r = i
    · subst e
      refine ((h.row r hr).set k _).congr (fun j hj => ?_)
      show (if j = k then _ else _) = _
      rw [he r j hr hj]
      by_cases ej : j = k
      · rw [if_pos ej, if_pos ⟨rfl, ej⟩]
      · rw [if_neg ej, if_neg (fun h => ej h.2)]
    · refine ((h.row r hr).setOther (h.inj r i hr hi e) _).congr (fun j hj => ?_)
      rw [he r j hr hj, if_neg (fun h => e h.1)], h.lob, h.low, h.inj⟩

theorem swp_comm (a p : Nat) (W : Nat → Nat → Nat) : Gf.swp a p W = Gf.swp p a W := by
  funext i
  unfold Gf.swp
  by_cases h1 : i = a
  · by_cases h2 : i = p
    · rw [if_pos h1, if_pos h2, ← h1, ← h2]
    · rw [if_pos h1, if_neg h2, if_pos h1]
  · by_cases h2 : i = p
    · rw [if_neg h1, if_pos h2, if_pos h2]
    · rw [if_neg h1, if_neg h2, if_neg h2, if_neg h1]

/-- A row's first t bytes multiplied. -/
def sclTo (c t x : Nat) (W : Nat → Nat → Nat) (i j : Nat) : Nat := if i = c ∧ j < t then Gf.mul (W i j) x else W i j
theorem sclTo_step (c t x : Nat) (W : Nat → Nat → Nat) (i j : Nat) : sclTo c (t + 1) x W i j = if i = c ∧ j = t then Gf.mul (W c t) x else sclTo c t x W i j := by
  unfold sclTo
  by_cases h : i = c ∧ j = t
  · rw [if_pos h, if_pos ⟨h.1, by omega⟩, h.1, h.2]
  · rw [if_neg h]
    by_cases h2 : i = c ∧ j < t
    · rw [if_pos h2, if_pos ⟨h2.1, by omega⟩]
    · rw [if_neg h2, if_neg (fun h3 => h2 ⟨h3.1, by
        have : j ≠ t := fun e => h ⟨h3.1, e⟩
        omega⟩)]
/-- The pivot added to rows before i, and to the first t bytes of row i. -/
def addAt (c i t : Nat) (W : Nat → Nat → Nat) (r j : Nat) : Nat := if r < i ∨ (r = i ∧ j < t) then Gf.add c W r j else W r j
theorem addAt_step (c i t : Nat) (W : Nat → Nat → Nat) (r j : Nat) : addAt c i (t + 1) W r j = if r = i ∧ j = t then Gf.add c W i t else addAt c i t W r j := by
  unfold addAt
  by_cases h : r = i ∧ j = t
  · rw [if_pos h, if_pos (Or.inr ⟨h.1, by omega⟩), h.1, h.2]
  · rw [if_neg h]
    by_cases h2 : r < i ∨ (r = i ∧ j < t)
    · rw [if_pos h2, if_pos (by omega)]
    · rw [if_neg h2, if_neg (by omega)]

end Go.Proofs.Ytmlboaejkmffjad
