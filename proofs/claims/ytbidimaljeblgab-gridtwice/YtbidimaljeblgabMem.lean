/-
  How matrices of bytes lie in memory: those that came in, and those that a call makes.
-/
import Derived.Test.YtbidimaljeblgabInv
import Derived.Test.YtbidimaljeblgabMat
import Derived.Deep.OwnRows
import Derived.Deep.RegionWith
import Derived.BigRegion
import Derived.BigQuiet
import Derived.Deep.QuietTactic
namespace Go.Proofs.Ytbidimaljeblgab
open Go.RowKit

/-- Of the blocks that were there none but those of S has turned. -/
structure Off (S : Nat → Prop) (w w' : World) : Prop where
  os : w'.os = w.os
  tape : w'.tape = w.tape
  output : w'.output = w.output
  size : w.heap.size ≤ w'.heap.size
  block : ∀ k, k < w.heap.size → ¬ S k → w'.heap[k]? = w.heap[k]?

theorem Off.refl (S : Nat → Prop) (w : World) : Off S w w := ⟨rfl, rfl, rfl, Nat.le_refl _, fun _ _ _ => rfl⟩
theorem Off.trans {S : Nat → Prop} {a b c : World} (h : Off S a b) (k : Off S b c) : Off S a c :=
  ⟨k.os.trans h.os, k.tape.trans h.tape, k.output.trans h.output, Nat.le_trans h.size k.size, fun i hi hs => (k.block i (Nat.lt_of_lt_of_le hi h.size) hs).trans (h.block i hi hs)⟩
theorem Off.of_below {S : Nat → Prop} {a b : World} (h : Below a.heap.size a b) : Off S a b := ⟨h.os, h.tape, h.output, h.size, fun k hk _ => h.block k hk⟩
theorem Off.wider {S T : Nat → Prop} {a b : World} (h : Off S a b) (hs : ∀ k, S k → T k) : Off T a b := ⟨h.os, h.tape, h.output, h.size, fun k hk hn => h.block k hk (fun s => hn (hs k s))⟩
theorem Off.set {S : Nat → Prop} {a b : World} (h : Off S a b) {p : Addr} (hp : S p.block) (v : Value) : Off S a (b.setCell p v) :=
  h.trans ⟨rfl, rfl, rfl, by rw [Deep.nblk_setCell]; exact Nat.le_refl _, fun k _ hk => Deep.blk_setCell_other _ _ _ _ (fun e => hk (e ▸ hp))⟩
theorem Off.drew {S : Nat → Prop} {a b : World} (h : Off S a b) : Off S a b.drew := ⟨h.os, h.tape, h.output, h.size, h.block⟩
theorem Off.below {S : Nat → Prop} {a b : World} {B : Nat} (h : Off S a b) (hB : B ≤ a.heap.size) (hs : ∀ k, S k → B ≤ k) : Below B a b :=
  ⟨h.os, h.tape, h.output, h.size, fun k hk => h.block k (Nat.lt_of_lt_of_le hk hB) (fun s => absurd (hs k s) (by omega))⟩

theorem rowIs_off {S : Nat → Prop} {w w' : World} {b : Nat} {t : TypeId} {n : Nat} {f : Nat → Value} (h : w.rowIs b t n f) (o : Off S w w') (hb : ¬ S b) : w'.rowIs b t n f := h.of_block (o.block b h.lt hb)
theorem rowIs_below {w w' : World} {b : Nat} {t : TypeId} {n : Nat} {f : Nat → Value} (h : w.rowIs b t n f) (o : Below w.heap.size w w') : w'.rowIs b t n f := h.of_block (o.block b h.lt)

/-- A byte as a value. -/
def by8 (n : Nat) : Value := .int .u8 (n : Int)

/-- A matrix lies at (b, o): n rows of c bytes, row r at (G r, O r). -/
structure MatAt (w : World) (b o n c : Nat) (G O K : Nat → Nat) (f : Nat → Nat → Nat) : Prop where
  top : ∀ r, r < n → w.cell? ⟨b, o + r, none⟩ = some (.slice (some ⟨G r, O r, none⟩) c (K r))
  row : ∀ r, r < n → ∀ k, k < c → w.cell? ⟨G r, O r + k, none⟩ = some (.int .u8 (f r k : Nat))

theorem MatAt.below {w w' : World} {b o n c : Nat} {G O K : Nat → Nat} {f : Nat → Nat → Nat} (h : MatAt w b o n c G O K f) (hb : Below w.heap.size w w') : MatAt w' b o n c G O K f :=
  ⟨fun r hr => by rw [hb.cell (p := ⟨b, o + r, none⟩) (World.block_lt_of_cell? _ _ (h.top r hr))]; exact h.top r hr,
   fun r hr k hk => by rw [hb.cell (p := ⟨G r, O r + k, none⟩) (World.block_lt_of_cell? _ _ (h.row r hr k hk))]; exact h.row r hr k hk⟩

/-- A matrix that the call itself has made: n rows of c bytes, row r in block G r, from block N on. -/
structure Own (w : World) (N b n c : Nat) (G : Nat → Nat) (f : Nat → Nat → Nat) : Prop where
  top : w.rowIs b 34 n (fun r => .slice (some ⟨G r, 0, none⟩) c c)
  row : ∀ r, r < n → w.rowIs (G r) 5 c (fun k => .int .u8 (f r k : Nat))
  lob : N ≤ b
  low : ∀ r, r < n → N ≤ G r
  apart : ∀ r, r < n → G r ≠ b
  inj : ∀ r s, r < n → s < n → r ≠ s → G r ≠ G s

theorem Own.below {w w' : World} {N b n c : Nat} {G : Nat → Nat} {f : Nat → Nat → Nat} (h : Own w N b n c G f) (hb : Below w.heap.size w w') : Own w' N b n c G f :=
  ⟨rowIs_below h.top hb, fun r hr => rowIs_below (h.row r hr) hb, h.lob, h.low, h.apart, h.inj⟩
theorem Own.lower {w : World} {N M b n c : Nat} {G : Nat → Nat} {f : Nat → Nat → Nat} (h : Own w N b n c G f) (hM : M ≤ N) : Own w M b n c G f :=
  ⟨h.top, h.row, Nat.le_trans hM h.lob, fun r hr => Nat.le_trans hM (h.low r hr), h.apart, h.inj⟩
theorem Own.mat {w : World} {N b n c : Nat} {G : Nat → Nat} {f : Nat → Nat → Nat} (h : Own w N b n c G f) : MatAt w b 0 n c G (fun _ => 0) (fun _ => c) f :=
  ⟨fun r hr => by rw [Nat.zero_add]; exact h.top.cell hr, fun r hr k hk => by rw [Nat.zero_add]; exact (h.row r hr).cell hk⟩

/-- The blocks of such a matrix. -/
def inOwn (b n : Nat) (G : Nat → Nat) (k : Nat) : Prop := k = b ∨ ∃ r, r < n ∧ k = G r

end Go.Proofs.Ytbidimaljeblgab
