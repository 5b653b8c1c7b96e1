/-
  How matrices of bytes lie in memory: those that came in, and those that a call makes.
-/
import Derived.Test.YtmlboaejkmffjadInv
import Derived.Test.YtmlboaejkmffjadMat
import Derived.Deep.OwnRows
import Derived.Deep.RegionWith
import Derived.BigRegion
import Derived.BigQuiet
import Derived.Deep.QuietTactic
namespace Go.Proofs.Ytmlboaejkmffjad
open Go.RowKit



theorem rowIs_off {S : Nat → Prop} {w w' : World} {b : Nat} {t : TypeId} {n : Nat} {f : Nat → Value} (h : w.rowIs b t n f) (o : Off S w w') (hb : ¬ S b) : w'.rowIs b t n f := h.of_block (o.block b h.lt hb)
theorem rowIs_below {w w' : World} {b : Nat} {t : TypeId} {n : Nat} {f : Nat → Value} (h : w.rowIs b t n f) (o : Below w.heap.size w w') : w'.rowIs b t n f := h.of_block (o.block b h.lt)

/-- A byte as a value. -/
def by8 (n : Nat) : Value := .int .u8 (n : Int)

/-- A matrix lies at (b, o): n rows of c bytes, row r at (G r, O r). -/
structure MatAt (w : World) (b o n c : Nat) (G O K : Nat → Nat) (f : Nat → Nat → Nat) : Prop where
  top : ∀ r, r < n → w.cell? ⟨b, o + r, none⟩ = some (.slice (some ⟨G r, O r, none⟩) c (K r))
  row : ∀ r, r < n → ∀ k, k < c → w.cell? ⟨G r, O r + k, none⟩ = some (.int .u8 (f r k : Nat))

theorem MatAt.below {w w' : World} {b o n c : Nat} {G O K : Nat → Nat} {f : Nat → Nat → Nat} (h : MatAt w b o n c G O K f) (hb : Below w.heap.size w w') : MatAt w' b o n c G O K f :=
  ⟨fun r hr => by rw [hb.cell (p := ⟨b, o + r, none⟩) (World.block_lt_of_cell? _ _ (h.top r hr))]; exact h.top r hr,
   fun r hr k hk => by rw [hb.cell (p := ⟨G r, O r + k, none⟩) (World.block_lt_of_cell? _ _ (h.row r hr k hk))]; exact h.row r hr k hk⟩

/-- A matrix that the call itself has made: n rows of c bytes, row r in block G r, from block N on. -/
structure Own (w : World) (N b n c : Nat) (G : Nat → Nat) (f : Nat → Nat → Nat) : Prop where
  top : w.rowIs b 25 n (fun r => .slice (some ⟨G r, 0, none⟩) c c)
  row : ∀ r, r < n → w.rowIs (G r) 5 c (fun k => .int .u8 (f r k : Nat))
  lob : N ≤ b
  low : ∀ r, r < n → N ≤ G r
  apart : ∀ r, r < n → G r ≠ b
  inj : ∀ r s, r < n → s < n → r ≠ s → G r ≠ G s

theorem Own.below {w w' : World} {N b n c : Nat} {G : Nat → Nat} {f : Nat → Nat → Nat} (h : Own w N b n c G f) (hb : Below w.heap.size w w') : Own w' N b n c G f :=
  ⟨rowIs_below h.top hb, fun r hr => rowIs_below (h.row r hr) hb, h.lob, h.low, h.apart, h.inj⟩
theorem Own.lower {w : World} {N M b n c : Nat} {G : Nat → Nat} {f : Nat → Nat → Nat} (h : Own w N b n c G f) (hM : M ≤ N) : Own w M b n c G f :=
  ⟨h.top, h.row, Nat.le_trans hM h.lob, fun r hr => Nat.le_trans hM (h.low r hr), h.apart, h.inj⟩
theorem Own.mat {w : World} {N b n c : Nat} {G : Nat → Nat} {f : Nat → Nat → Nat} (h : Own w N b n c G f) : MatAt w b 0 n c G (fun _ => 0) (fun _ => c) f :=
  ⟨fun r hr => by rw [Nat.zero_add]; exact h.top.cell hr, fun r hr k hk => by rw [Nat.zero_add]; exact (h.row r hr).cell hk⟩

/-- The blocks of such a matrix. -/
def inOwn (b n : Nat) (G : Nat → Nat) (k : Nat) : Prop := k = b ∨ ∃ r, r < n ∧ k = G r

end Go.Proofs.Ytmlboaejkmffjad
