/-
  Texts of the proof, joined: Byt, Math, Mul, Sq, Inv.
-/
import Derived.Test.YtmcaejooaaahdaaGreatRows
import Derived.WalkKit
import Derived.WalkSpells
import Derived.WalkLawsBesides
import Derived.Laws.BitsAllLaws
import Derived.Laws.BytesArg
import Derived.FnLit
import Derived.Shelf.Abstract
import Derived.Deep.OwnRows
import Derived.Deep.RegionWith
import Derived.Deep.Slices
import Derived.Deep.AppendSrc
import Derived.BigRegion
import Derived.BigQuiet
import Derived.Deep.QuietTactic
import Derived.Lib.Bytes
import Derived.Lib.SmallJoins
import Derived.ProofKit
import Derived.OpenShut
import Derived.Carry
namespace Go.Proofs.YtmcaejooaaahdaaGreat
open Go.RowKit

theorem ret_int {k : IntKind} {a b : Int} (h : a = b) : Ending.returned (.int k a) = .returned (.int k b) := by rw [h]
theorem val_int {k : IntKind} {a b : Int} (h : a = b) : Value.int k a = Value.int k b := by rw [h]
theorem Tryz.infoByte : (Tryz.prog.info? 5).map (fun i => (i.zero, i.size, i.bytes)) = some (some (.int .u8 0), 1, 1) := by kernel_rfl
theorem Tryz.laidOut : laidOutB Tryz.prog = true := by kernel_rfl
theorem bt {a b c : World} (h : Below a.heap.size a b) (k : Below b.heap.size b c) : Below a.heap.size a c := h.trans (k.mono h.size)
def Bd (f : Nat → Nat) : Prop := ∀ k, f k < 256

/-- Of the blocks that were there none but those of S has turned. -/
structure Off (S : Nat → Prop) (w w' : World) : Prop where
  os : w'.os = w.os
  tape : w'.tape = w.tape
  output : w'.output = w.output
  size : w.heap.size ≤ w'.heap.size
  block : ∀ k, k < w.heap.size → ¬ S k → w'.heap[k]? = w.heap[k]?

theorem Off.refl (S : Nat → Prop) (w : World) : Off S w w := ⟨rfl, rfl, rfl, Nat.le_refl _, fun _ _ _ => rfl⟩
theorem Off.trans {S : Nat → Prop} {a b c : World} (h : Off S a b) (k : Off S b c) : Off S a c :=
  ⟨k.os.trans h.os, k.tape.trans h.tape, k.output.trans h.output, Nat.le_trans h.size k.size, fun i hi hs => (k.block i (Nat.lt_of_lt_of_le hi h.size) hs).trans (h.block i hi hs)⟩
theorem Off.of_below {S : Nat → Prop} {a b : World} (h : Below a.heap.size a b) : Off S a b := ⟨h.os, h.tape, h.output, h.size, fun k hk _ => h.block k hk⟩
theorem Off.wider {S T : Nat → Prop} {a b : World} (h : Off S a b) (hs : ∀ k, S k → T k) : Off T a b := ⟨h.os, h.tape, h.output, h.size, fun k hk hn => h.block k hk (fun s => hn (hs k s))⟩
theorem Off.set {S : Nat → Prop} {a b : World} (h : Off S a b) {p : Addr} (hp : S p.block) (v : Value) : Off S a (b.setCell p v) :=
  h.trans ⟨rfl, rfl, rfl, by rw [Deep.nblk_setCell]; exact Nat.le_refl _, fun k _ hk => Deep.blk_setCell_other _ _ _ _ (fun e => hk (e ▸ hp))⟩
theorem Off.drew {S : Nat → Prop} {a b : World} (h : Off S a b) : Off S a b.drew := ⟨h.os, h.tape, h.output, h.size, h.block⟩
theorem Off.below {S : Nat → Prop} {a b : World} {B : Nat} (h : Off S a b) (hB : B ≤ a.heap.size) (hs : ∀ k, S k → B ≤ k) : Below B a b :=
  ⟨h.os, h.tape, h.output, h.size, fun k hk => h.block k (Nat.lt_of_lt_of_le hk hB) (fun s => absurd (hs k s) (by omega))⟩

/-- Block g is a row whose first n cells, of type t, hold F. -/
def RowC (w : World) (g : Nat) (t : TypeId) (n : Nat) (F : Nat → Value) : Prop := ∃ m F', w.rowIs g t m F' ∧ n ≤ m ∧ ∀ j, j < n → F' j = F j
namespace RowC
variable {w : World} {g : Nat} {t : TypeId} {n : Nat} {F : Nat → Value}
theorem cell (h : RowC w g t n F) {j : Nat} (hj : j < n) : w.cell? ⟨g, j, none⟩ = some (F j) := by
  obtain ⟨m, F', hr, hm, he⟩ := h
  rw [hr.cell (Nat.lt_of_lt_of_le hj hm), he j hj]
theorem frozen (h : RowC w g t n F) (j : Nat) : w.frozen? ⟨g, j, none⟩ = false := by
  obtain ⟨m, F', hr, _, _⟩ := h
  exact hr.frozen j
theorem lt (h : RowC w g t n F) : g < w.heap.size := by
  obtain ⟨m, F', hr, _, _⟩ := h
  exact hr.lt
theorem congr {F2 : Nat → Value} (h : RowC w g t n F) (e : ∀ j, j < n → F j = F2 j) : RowC w g t n F2 := by
  obtain ⟨m, F', hr, hm, he⟩ := h
  exact ⟨m, F', hr, hm, fun j hj => (he j hj).trans (e j hj)⟩
theorem of_block {w' : World} (h : RowC w g t n F) (e : w'.heap[g]? = w.heap[g]?) : RowC w' g t n F := by
  obtain ⟨m, F', hr, hm, he⟩ := h
  exact ⟨m, F', hr.of_block e, hm, he⟩
theorem set (h : RowC w g t n F) (i : Nat) (v : Value) : RowC (w.setCell ⟨g, i, none⟩ v) g t n (fun j => if j = i then v else F j) := by
  obtain ⟨m, F', hr, hm, he⟩ := h
  refine ⟨m, _, hr.set i v, hm, fun j hj => ?_⟩
  show (if j = i then v else F' j) = (if j = i then v else F j)
  by_cases e : j = i
  · rw [if_pos e, if_pos e]
  · rw [if_neg e, if_neg e, he j hj]
theorem setOther (h : RowC w g t n F) {a : Addr} (ha : g ≠ a.block) (v : Value) : RowC (w.setCell a v) g t n F := h.of_block (Deep.blk_setCell_other _ _ _ _ ha)
theorem alloc (h : RowC w g t n F) (o : Obj) : RowC (w.alloc o) g t n F := h.of_block (Deep.blk_alloc_lt _ _ _ h.lt)
theorem drew (h : RowC w g t n F) : RowC w.drew g t n F := h
theorem below {w' : World} (h : RowC w g t n F) (hb : Below w.heap.size w w') : RowC w' g t n F := h.of_block (hb.block g h.lt)
theorem ne {g' : Nat} {t' : TypeId} {n' : Nat} {F2 : Nat → Value} (h : RowC w g t n F) (h' : RowC w g' t' n' F2) (ht : t ≠ t') : g ≠ g' := fun e => by
  obtain ⟨_, _, ⟨c, h1, _, _⟩, _, _⟩ := h
  obtain ⟨_, _, ⟨c', h2, _, _⟩, _, _⟩ := h'
  rw [e, h2] at h1
  cases h1
  exact ht rfl
end RowC
theorem rowC_of {w : World} {g : Nat} {t : TypeId} {n : Nat} {F : Nat → Value} (h : w.rowIs g t n F) : RowC w g t n F := ⟨n, F, h, Nat.le_refl _, fun _ _ => rfl⟩

/-- What is appended to lies in a block of its own. -/
theorem rowC_owns {w : World} {N : Nat} {t : TypeId} {v : Value} {n : Nat} {xs : List Value} (h : w.ownsRow N t 1 v n xs) (hn : 1 ≤ n) :
    ∃ g cap, v = .slice (some ⟨g, 0, none⟩) n cap ∧ N ≤ g ∧ n ≤ cap ∧ RowC w g t n (fun j => xs.getD j (.slice none 0 0)) := by
  obtain ⟨hl, h⟩ := h
  rcases h with ⟨_, h0⟩ | ⟨g, cap, cur, hv, hN, hg, hc, _, hs, ht⟩
  · omega
  · refine ⟨g, cap, hv, hN, hc, cur.size, fun j => cur.getD j (.slice none 0 0), ⟨cur, hg, rfl, fun i hi => by simp [hi]⟩, by omega, fun j hj => ?_⟩
    have hj' : j < cur.size := by omega
    have : xs[j]? = cur[j]? := by
      rw [← ht, List.getElem?_take, if_pos (by omega)]
      simp
    simp [List.getD, this, hj']

theorem grown_of_below {w w' : World} (h : Below w.heap.size w w') (row : Option Nat) : w.grownBy w' row := ⟨h.os, h.tape, h.output, h.size, fun k hk _ => h.block k hk⟩
theorem owns_below {w w' : World} {N : Nat} {t : TypeId} {s : Nat} {v : Value} {n : Nat} {xs : List Value} (h : w.ownsRow N t s v n xs) (hb : Below w.heap.size w w') : w'.ownsRow N t s v n xs :=
  h.kept (grown_of_below hb none) (by cases hv : v.ownBlock <;> simp)
theorem owns_block {w : World} {N : Nat} {t : TypeId} {v : Value} {n x : Nat} {xs : List Value} (h : w.ownsRow N t 1 v n xs) (hx : v.ownBlock = some x) : ∃ F, RowC w x t 0 F := by
  rcases h.2 with ⟨rfl, _⟩ | ⟨g, cap, cur, rfl, _, hg, _⟩
  · simp [Value.ownBlock] at hx
  · simp [Value.ownBlock] at hx
    subst hx
    exact ⟨fun j => cur.getD j (.slice none 0 0), cur.size, fun j => cur.getD j (.slice none 0 0), ⟨cur, hg, rfl, fun i hi => by simp [hi]⟩, Nat.zero_le _, fun j hj => absurd hj (Nat.not_lt_zero j)⟩
theorem bytes_getD (f : Nat → Nat) (c i : Nat) (h : i < c) : ((List.range c).map fun k => (f k : Int)).getD i 0 = (f i : Int) := by
  simp [List.getD, h]

/-- A bool is told that says whether P. -/
def Tell (e : Ending) (P : Prop) : Prop := ∃ y : Bool, e = .returned (.bool y) ∧ (y = true ↔ P)
theorem tell_of {y : Bool} {P : Prop} (h : y = true ↔ P) : Tell (.returned (.bool y)) P := ⟨y, rfl, h⟩
theorem tell_yes {P : Prop} (h : P) : Tell (.returned (.bool true)) P := ⟨true, rfl, ⟨fun _ => h, fun _ => rfl⟩⟩
theorem tell_no {P : Prop} (h : ¬ P) : Tell (.returned (.bool false)) P := ⟨false, rfl, ⟨fun h => absurd h (by decide), fun h' => absurd h' h⟩⟩

theorem str_list (c : Nat) (f : Nat → Nat) : (strOfNums ((List.range c).map fun k => (f k : Int))).toList = (List.range c).map fun k => UInt8.ofNat (f k) := by
  rw [Lib.strOfNums_toList]
  unfold Lib.bytesOf
  rw [List.map_map]
  rfl
/-- A list of n bytes. -/
structure Byts (w : World) (v : Value) (n : Nat) (f : Nat → Nat) : Prop where
  bd : Bd f
  lies : ∃ (A : Option Addr) (cap : Nat), v = .slice A n cap ∧ n ≤ cap ∧ cap ≤ maxLen ∧ ∀ i, i < n → ∃ b o, A = some ⟨b, o, none⟩ ∧ w.cell? ⟨b, o + i, none⟩ = some (.int .u8 (f i : Nat))
theorem Byts.below {w w' : World} {v : Value} {n : Nat} {f : Nat → Nat} (h : Byts w v n f) (hb : Below w.heap.size w w') : Byts w' v n f := by
  obtain ⟨bd, A, cap, hv, h1, h2, hc⟩ := h
  refine ⟨bd, A, cap, hv, h1, h2, fun i hi => ?_⟩
  obtain ⟨b, o, e1, e2⟩ := hc i hi
  exact ⟨b, o, e1, (hb.cell (p := ⟨b, o + i, none⟩) (World.block_lt_of_cell? _ _ e2)).trans e2⟩
theorem Byts.nil (w : World) : Byts w (.slice none 0 0) 0 (fun _ => 0) := ⟨fun _ => Nat.zero_lt_succ 255, none, 0, rfl, Nat.le_refl _, Nat.zero_le _, fun i hi => absurd hi (Nat.not_lt_zero i)⟩
theorem Byts.len {w : World} {v : Value} {n : Nat} {f : Nat → Nat} (h : Byts w v n f) : n ≤ 9223372036854775807 := by
  obtain ⟨_, A, cap, _, h1, h2, _⟩ := h
  unfold maxLen at h2
  omega
/-- Where there is a byte there is a place. -/
theorem Byts.some {w : World} {v : Value} {n : Nat} {f : Nat → Nat} (h : Byts w v n f) (hn : 1 ≤ n) :
    ∃ b o cap, v = .slice (some ⟨b, o, none⟩) n cap ∧ n ≤ cap ∧ cap ≤ 9223372036854775807 ∧ ∀ i, i < n → w.cell? ⟨b, o + i, none⟩ = some (.int .u8 (f i : Nat)) := by
  obtain ⟨_, A, cap, hv, h1, h2, hc⟩ := h
  obtain ⟨b, o, rfl, _⟩ := hc 0 hn
  refine ⟨b, o, cap, hv, h1, by unfold maxLen at h2; exact h2, fun i hi => ?_⟩
  obtain ⟨b', o', e1, e2⟩ := hc i hi
  cases e1
  exact e2
theorem Byts.zero {w : World} {v : Value} {f : Nat → Nat} (h : Byts w v 0 f) : ∃ A cap, v = .slice A 0 cap := by
  obtain ⟨_, A, cap, hv, _⟩ := h
  exact ⟨A, cap, hv⟩
/-- Bytes in a block of the call's own. -/
theorem byts_of_row {w : World} {g n cap : Nat} {f : Nat → Nat} (hf : Bd f) (h : RowC w g 5 n (fun j => .int .u8 (f j : Nat))) (h1 : n ≤ cap) (h2 : cap ≤ maxLen) : Byts w (.slice (some ⟨g, 0, none⟩) n cap) n f :=
  ⟨hf, some ⟨g, 0, none⟩, cap, rfl, h1, h2, fun i hi => ⟨g, 0, rfl, by rw [Nat.zero_add]; exact h.cell hi⟩⟩

theorem i64_or (A B : Nat) (h2 : A < 9223372036854775808) (h4 : B < 9223372036854775808) : bits .or .i64 (A : Int) (B : Int) = ((A ||| B : Nat) : Int) := by
  have hx : A ||| B < 2 ^ 63 := Nat.or_lt_two_pow (by omega) (by omega)
  show IntKind.i64.wrap ((BitVec.ofInt 64 (A : Int) ||| BitVec.ofInt 64 (B : Int)).toNat : Int) = _
  rw [BitVec.toNat_or, ofInt_u64 A (by omega), ofInt_u64 B (by omega), IntKind.wrap_i64]
  omega
theorem bdn {B : Nat} {a w : World} (h : Below B a w) (m : Nat) : Below B a (w.drewN m) := ⟨h.os, h.tape, h.output, h.size, h.block⟩
end Go.Proofs.YtmcaejooaaahdaaGreat

/-
  The plain arithmetic of bytes as polynomials: products, inverses and powers. Nothing of the program is named here.
-/
namespace Go.Proofs.YtmcaejooaaahdaaGreat.Gf

/-- A byte times x. -/
def tx (a : Nat) : Nat := if a / 128 = 0 then a * 2 % 256 else (a * 2 % 256) ^^^ 29
theorem tx_lt (a : Nat) : tx a < 256 := by
  unfold tx
  split
  · omega
  · exact Nat.xor_lt_two_pow (n := 8) (by omega) (by omega)

/-- A byte times x to the k. -/
def txk : Nat → Nat → Nat
  | 0, a => a
  | k + 1, a => tx (txk k a)
theorem txk_lt {a : Nat} (h : a < 256) : (k : Nat) → txk k a < 256
  | 0 => h
  | _ + 1 => tx_lt _

/-- What bit k of b asks for. -/
def sel (b k x : Nat) : Nat := if b / 2 ^ k % 2 = 1 then x else 0
theorem sel_lt {x : Nat} (b k : Nat) (h : x < 256) : sel b k x < 256 := by
  unfold sel
  split <;> omega

/-- The product by the first k bits of b. -/
def mulTo (a b : Nat) : Nat → Nat
  | 0 => 0
  | k + 1 => mulTo a b k ^^^ sel b k (txk k a)
theorem mulTo_lt {a : Nat} (b : Nat) (h : a < 256) : (k : Nat) → mulTo a b k < 256
  | 0 => Nat.zero_lt_succ 255
  | k + 1 => Nat.xor_lt_two_pow (n := 8) (mulTo_lt b h k) (sel_lt b k (txk_lt h k))

def mul (a b : Nat) : Nat := mulTo a b 8
theorem mul_lt {a : Nat} (b : Nat) (h : a < 256) : mul a b < 256 := mulTo_lt b h 8

/-- The same on Int, as a walk meets them. -/
def txI (a : Int) : Int := (tx a.toNat : Nat)
def txkI (k : Nat) (a : Int) : Int := (txk k a.toNat : Nat)
def mulToI (a b : Int) (k : Nat) : Int := (mulTo a.toNat b.toNat k : Nat)
def mulI (a b : Int) : Int := (mul a.toNat b.toNat : Nat)

theorem txI_bd (a : Int) : 0 ≤ txI a ∧ txI a ≤ 255 := by
  have := tx_lt a.toNat
  unfold txI
  omega
theorem txkI_bd (k : Nat) (a : Int) (h0 : 0 ≤ a) (h1 : a ≤ 255) : 0 ≤ txkI k a ∧ txkI k a ≤ 255 := by
  have := txk_lt (a := a.toNat) (by omega) k
  unfold txkI
  omega
theorem txkI_zero (a : Int) (h0 : 0 ≤ a) : txkI 0 a = a := by
  unfold txkI txk
  omega
theorem txkI_succ (k : Nat) (a : Int) : txkI (k + 1) a = txI (txkI k a) := by
  unfold txkI txI
  rw [Int.toNat_natCast]
  rfl
theorem mulToI_bd (a b : Int) (k : Nat) (h0 : 0 ≤ a) (h1 : a ≤ 255) : 0 ≤ mulToI a b k ∧ mulToI a b k ≤ 255 := by
  have := mulTo_lt (a := a.toNat) b.toNat (by omega) k
  unfold mulToI
  omega
theorem mulToI_yes (a b : Int) (k : Nat) (hb : b.toNat / 2 ^ k % 2 = 1) : mulToI a b (k + 1) = (((mulToI a b k).toNat ^^^ (txkI k a).toNat : Nat) : Int) := by
  unfold mulToI txkI
  rw [Int.toNat_natCast, Int.toNat_natCast]
  show ((mulTo a.toNat b.toNat k ^^^ sel b.toNat k (txk k a.toNat) : Nat) : Int) = _
  unfold sel
  rw [if_pos hb]
theorem mulToI_no (a b : Int) (k : Nat) (hb : ¬ b.toNat / 2 ^ k % 2 = 1) : mulToI a b (k + 1) = mulToI a b k := by
  unfold mulToI
  show ((mulTo a.toNat b.toNat k ^^^ sel b.toNat k (txk k a.toNat) : Nat) : Int) = _
  unfold sel
  rw [if_neg hb, Nat.xor_zero]

/-- A byte, squared k times. -/
def sqk : Nat → Nat → Nat
  | 0, a => a
  | k + 1, a => mul (sqk k a) (sqk k a)
theorem sqk_lt {a : Nat} (h : a < 256) : (k : Nat) → sqk k a < 256
  | 0 => h
  | k + 1 => mul_lt _ (sqk_lt h k)
/-- The product of the squares that the first k bits of n ask for. -/
def raiseTo (a n : Nat) : Nat → Nat
  | 0 => 1
  | k + 1 => if n / 2 ^ k % 2 = 1 then mul (raiseTo a n k) (sqk k a) else raiseTo a n k
theorem raiseTo_lt (a n : Nat) : (k : Nat) → raiseTo a n k < 256
  | 0 => Nat.lt_of_sub_pos (Nat.zero_lt_succ 254)
  | k + 1 => by
    unfold raiseTo
    split
    · exact mul_lt _ (raiseTo_lt a n k)
    · exact raiseTo_lt a n k
def raise (a n : Nat) : Nat := raiseTo a n 8
theorem raise_lt (a n : Nat) : raise a n < 256 := raiseTo_lt a n 8

def sqkI (k : Nat) (a : Int) : Int := (sqk k a.toNat : Nat)
def raiseToI (a n : Int) (k : Nat) : Int := (raiseTo a.toNat n.toNat k : Nat)
def raiseI (a n : Int) : Int := (raise a.toNat n.toNat : Nat)
theorem sqkI_bd (k : Nat) (a : Int) (h0 : 0 ≤ a) (h1 : a ≤ 255) : 0 ≤ sqkI k a ∧ sqkI k a ≤ 255 := by
  have := sqk_lt (a := a.toNat) (by omega) k
  unfold sqkI
  omega
theorem sqkI_zero (a : Int) (h0 : 0 ≤ a) : sqkI 0 a = a := by
  unfold sqkI sqk
  omega
theorem sqkI_succ (k : Nat) (a : Int) : sqkI (k + 1) a = mulI (sqkI k a) (sqkI k a) := by
  unfold sqkI mulI
  rw [Int.toNat_natCast]
  rfl
theorem raiseToI_bd (a n : Int) (k : Nat) : 0 ≤ raiseToI a n k ∧ raiseToI a n k ≤ 255 := by
  have := raiseTo_lt a.toNat n.toNat k
  unfold raiseToI
  omega
theorem raiseToI_yes (a n : Int) (k : Nat) (h : n.toNat / 2 ^ k % 2 = 1) : raiseToI a n (k + 1) = mulI (raiseToI a n k) (sqkI k a) := by
  unfold raiseToI mulI sqkI
  rw [Int.toNat_natCast, Int.toNat_natCast]
  show ((if n.toNat / 2 ^ k % 2 = 1 then mul (raiseTo a.toNat n.toNat k) (sqk k a.toNat) else raiseTo a.toNat n.toNat k : Nat) : Int) = _
  rw [if_pos h]
theorem raiseToI_no (a n : Int) (k : Nat) (h : ¬ n.toNat / 2 ^ k % 2 = 1) : raiseToI a n (k + 1) = raiseToI a n k := by
  unfold raiseToI
  show ((if n.toNat / 2 ^ k % 2 = 1 then mul (raiseTo a.toNat n.toNat k) (sqk k a.toNat) else raiseTo a.toNat n.toNat k : Nat) : Int) = _
  rw [if_neg h]

end Go.Proofs.YtmcaejooaaahdaaGreat.Gf

namespace Go.Proofs.YtmcaejooaaahdaaGreat
open Go.RowKit


/-- A bit of a number, as the walk asks for it. -/
theorem bit_nat (n : Int) (k : Nat) (h0 : 0 ≤ n) : (n / 2 ^ k).toNat = n.toNat / 2 ^ k := by
  obtain ⟨m, rfl⟩ := Int.eq_ofNat_of_zero_le h0
  have e : ((2 : Int) ^ k) = ((2 ^ k : Nat) : Int) := by simp
  rw [e, ← Int.natCast_ediv, Int.toNat_natCast, Int.toNat_natCast]
theorem div_bd (n : Int) (k : Nat) (h0 : 0 ≤ n) : 0 ≤ n / 2 ^ k ∧ n / 2 ^ k ≤ n :=
  ⟨Int.ediv_nonneg h0 (Int.pow_nonneg (by decide)), Int.ediv_le_self _ h0⟩
theorem bit_u8 (b : Int) (k : Nat) (g0 : 0 ≤ b) (g1 : b ≤ 255) : (bits .and .u8 (b / 2 ^ k) 1 == 1) = decide (b.toNat / 2 ^ k % 2 = 1) := by
  have hd := div_bd b k g0
  rw [u8_and _ _ hd.1 (by omega) (by decide) (by decide), bit_nat b k g0, show (1 : Int).toNat = 1 from rfl, nat_mask1]
  generalize b.toNat / 2 ^ k % 2 = m
  rw [Bool.eq_iff_iff, beq_iff_eq, decide_eq_true_iff]
  omega

set_option maxHeartbeats 400000 in
theorem tx_any (a : Int) (w : World) (h0 : 0 ≤ a) (h1 : a ≤ 255) :
    Calls Tryz.prog 186 #[.int .u8 a] w fun e w' => e = .returned (.int .u8 (Gf.txI a)) ∧ w' = w := by
  go_enter Tryz.func186, Tryz.ntmps186
  go_wp2
  · have hz : (a / 128 == 0) = true := by assumption
    go_ret
    refine ⟨ret_int (?_ : a * 2 % 256 = _), rfl⟩
    have hz' : a / 128 = 0 := by simpa using hz
    unfold Gf.txI Gf.tx
    rw [if_pos (by omega)]
    omega
  · have hz : (a / 128 == 0) = false := by assumption
    go_ret
    refine ⟨ret_int (?_ : bits BinOp.xor IntKind.u8 (a * 2 % 256) 29 = _), rfl⟩
    have hz' : ¬ a / 128 = 0 := by simpa using hz
    rw [u8_xor _ _ (by omega) (by omega) (by omega) (by omega)]
    unfold Gf.txI Gf.tx
    rw [if_neg (by omega), show (a * 2 % 256).toNat = a.toNat * 2 % 256 by omega]
    rfl

set_option maxHeartbeats 1000000 in
theorem pows_any (a : Int) (w : World) (h0 : 0 ≤ a) (h1 : a ≤ 255) :
    Calls Tryz.prog 179 #[.int .u8 a] w fun e w' => e = .returned (.agg #[.int .u8 a, .int .u8 (Gf.txI a), .int .u8 (Gf.txI (Gf.txI a)), .int .u8 (Gf.txI (Gf.txI (Gf.txI a))), .int .u8 (Gf.txI (Gf.txI (Gf.txI (Gf.txI a)))), .int .u8 (Gf.txI (Gf.txI (Gf.txI (Gf.txI (Gf.txI a))))), .int .u8 (Gf.txI (Gf.txI (Gf.txI (Gf.txI (Gf.txI (Gf.txI a)))))), .int .u8 (Gf.txI (Gf.txI (Gf.txI (Gf.txI (Gf.txI (Gf.txI (Gf.txI a)))))))]) ∧ Below w.heap.size w w' := by
  go_enter Tryz.func179, Tryz.ntmps179
  go_wp2
  refine wp_loop_rounds 9 ?_
  iterate 8
    rw [rounds_succ]
    go_wp2_with fail
    refine (tx_any _ _ ?_ ?_).mono ?_
    · first | assumption | exact (Gf.txI_bd _).1
    · first | assumption | exact (Gf.txI_bd _).2
    rintro e w' ⟨rfl, rfl⟩
    go_wp2_with fail
  rw [rounds_succ]
  go_wp2_with fail
  exact bodyPost_ret (v := .agg #[.int .u8 a, .int .u8 (Gf.txI a), .int .u8 (Gf.txI (Gf.txI a)), .int .u8 (Gf.txI (Gf.txI (Gf.txI a))), .int .u8 (Gf.txI (Gf.txI (Gf.txI (Gf.txI a)))), .int .u8 (Gf.txI (Gf.txI (Gf.txI (Gf.txI (Gf.txI a))))), .int .u8 (Gf.txI (Gf.txI (Gf.txI (Gf.txI (Gf.txI (Gf.txI a)))))), .int .u8 (Gf.txI (Gf.txI (Gf.txI (Gf.txI (Gf.txI (Gf.txI (Gf.txI a)))))))]) (by simp [results, Tryz.results179, go_sem]) rfl ⟨rfl, ((Below.refl _ _).alloc (Nat.le_refl _) _).alloc (by simp) _⟩

theorem pow_cell (a : Int) (w : World) (h0 : 0 ≤ a) (k : Nat) (hk : k < 8) :
    (w.alloc (.cells #[.int .u8 a, .int .u8 (Gf.txI a), .int .u8 (Gf.txI (Gf.txI a)), .int .u8 (Gf.txI (Gf.txI (Gf.txI a))), .int .u8 (Gf.txI (Gf.txI (Gf.txI (Gf.txI a)))), .int .u8 (Gf.txI (Gf.txI (Gf.txI (Gf.txI (Gf.txI a))))), .int .u8 (Gf.txI (Gf.txI (Gf.txI (Gf.txI (Gf.txI (Gf.txI a)))))), .int .u8 (Gf.txI (Gf.txI (Gf.txI (Gf.txI (Gf.txI (Gf.txI (Gf.txI a)))))))] 212)).cell? ⟨w.heap.size, k, none⟩ = some (.int .u8 (Gf.txkI k a)) := by
  rw [cell_of_row _ _ k _ 212 (0, 0) (heap_alloc_new w _)]
  match k, hk with
  | 0, _ => simp [Gf.txkI_zero a h0]
  | 1, _ => simp [Gf.txkI_succ, Gf.txkI_zero a h0]
  | 2, _ => simp [Gf.txkI_succ, Gf.txkI_zero a h0]
  | 3, _ => simp [Gf.txkI_succ, Gf.txkI_zero a h0]
  | 4, _ => simp [Gf.txkI_succ, Gf.txkI_zero a h0]
  | 5, _ => simp [Gf.txkI_succ, Gf.txkI_zero a h0]
  | 6, _ => simp [Gf.txkI_succ, Gf.txkI_zero a h0]
  | 7, _ => simp [Gf.txkI_succ, Gf.txkI_zero a h0]

theorem mulTo_yes (a b : Int) (k : Nat) (h0 : 0 ≤ a) (h1 : a ≤ 255) (g0 : 0 ≤ b) (g1 : b ≤ 255) (h : (bits .and .u8 (b / 2 ^ k) 1 == 1) = true) :
    bits .xor .u8 (Gf.mulToI a b k) (Gf.txkI k a) = Gf.mulToI a b (k + 1) := by
  rw [bit_u8 b k g0 g1] at h
  have m := Gf.mulToI_bd a b k h0 h1
  have t := Gf.txkI_bd k a h0 h1
  rw [u8_xor _ _ m.1 (by omega) t.1 (by omega), Gf.mulToI_yes a b k (of_decide_eq_true h)]
theorem mulTo_no (a b : Int) (k : Nat) (g0 : 0 ≤ b) (g1 : b ≤ 255) (h : (bits .and .u8 (b / 2 ^ k) 1 == 1) = false) :
    Gf.mulToI a b k = Gf.mulToI a b (k + 1) := by
  rw [bit_u8 b k g0 g1] at h
  rw [Gf.mulToI_no a b k (of_decide_eq_false h)]

set_option maxHeartbeats 1000000 in
theorem mul_any (a b : Int) (w : World) (h0 : 0 ≤ a) (h1 : a ≤ 255) (g0 : 0 ≤ b) (g1 : b ≤ 255) :
    Calls Tryz.prog 164 #[.int .u8 a, .int .u8 b] w fun e w' => e = .returned (.int .u8 (Gf.mulI a b)) ∧ Below w.heap.size w w' := by
  go_enter Tryz.func164, Tryz.ntmps164
  go_wp2_with fail
  refine (pows_any a _ h0 h1).mono ?_
  rintro e w1 ⟨rfl, hb⟩
  go_wp2_with fail
  have hcell := pow_cell a w1 h0
  go_loop [6, 10] (fun s i => ∃ k : Nat, k ≤ 8 ∧ i = .int .i64 k ∧ s = .int .u8 (Gf.mulToI a b k)) (fun _ i => 8 - (intOf i).toNat)
  case atStart => exact ⟨0, Nat.zero_le _, rfl, rfl⟩
  case round =>
    obtain ⟨k, hk, rfl, rfl⟩ := hrel
    by_cases hlt : k < 8
    · have hc := hcell k hlt
      clear hcell
      go_wp2
      · have hy : (bits BinOp.and IntKind.u8 (b / 2 ^ k) 1 == 1) = true := by assumption
        exact ⟨⟨k + 1, by omega, by go_num, val_int (mulTo_yes a b k h0 h1 g0 g1 hy)⟩, by simp [intOf]; omega⟩
      · have hy : (bits BinOp.and IntKind.u8 (b / 2 ^ k) 1 == 1) = false := by assumption
        exact ⟨⟨k + 1, by omega, by go_num, val_int (mulTo_no a b k g0 g1 hy)⟩, by simp [intOf]; omega⟩
    · clear hcell
      have e8 : k = 8 := by omega
      subst e8
      go_wp2
      go_ret
      exact ⟨rfl, hb.alloc hb.size _⟩

end Go.Proofs.YtmcaejooaaahdaaGreat

namespace Go.Proofs.YtmcaejooaaahdaaGreat
open Go.RowKit

/-- Block g of the world holds the row of eight bytes f 0 .. f 7. -/
def Row (w : World) (g : Nat) (f : Nat → Int) : Prop :=
  w.heap[g]? = some (.cells #[.int .u8 (f 0), .int .u8 (f 1), .int .u8 (f 2), .int .u8 (f 3), .int .u8 (f 4), .int .u8 (f 5), .int .u8 (f 6), .int .u8 (f 7)] 212)

theorem Row.cell {w : World} {g : Nat} {f : Nat → Int} (h : Row w g f) (k : Nat) (hk : k < 8) : w.cell? ⟨g, k, none⟩ = some (.int .u8 (f k)) := by
  rw [cell_of_row _ _ k _ 212 (0, 0) h]
  match k, hk with
  | 0, _ => rfl
  | 1, _ => rfl
  | 2, _ => rfl
  | 3, _ => rfl
  | 4, _ => rfl
  | 5, _ => rfl
  | 6, _ => rfl
  | 7, _ => rfl
theorem Row.frozen {w : World} {g : Nat} {f : Nat → Int} (h : Row w g f) (k : Nat) : w.frozen? ⟨g, k, none⟩ = false := frozen_of_row w g k _ 212 h
theorem Row.lt {w : World} {g : Nat} {f : Nat → Int} (h : Row w g f) : g < w.heap.size := by
  unfold Row at h
  exact (Array.getElem?_eq_some_iff.1 h).1
theorem Row.below {w w' : World} {B g : Nat} {f : Nat → Int} (h : Row w g f) (hb : Below B w w') (hg : g < B) : Row w' g f := by
  unfold Row
  rw [hb.block g hg]
  exact h
theorem Row.other {w : World} {g : Nat} {f : Nat → Int} (h : Row w g f) (a : Addr) (v : Value) (hg : g ≠ a.block) : Row (w.setCell a v) g f := by
  unfold Row
  rw [heap_setCell_other w a g v hg]
  exact h
theorem Row.put {w : World} {g : Nat} {f f' : Nat → Int} (h : Row w g f) (k : Nat) (hk : k < 8) (x : Int) (hx : f' k = x) (ho : ∀ j, j ≠ k → f' j = f j) : Row (w.setCell ⟨g, k, none⟩ (.int .u8 x)) g f' := by
  unfold Row
  rw [heap_setCell_same w g k _ 212 _ h, ← hx]
  match k, hk with
  | 0, _ => rw [ho 1 (by decide), ho 2 (by decide), ho 3 (by decide), ho 4 (by decide), ho 5 (by decide), ho 6 (by decide), ho 7 (by decide)]; rfl
  | 1, _ => rw [ho 0 (by decide), ho 2 (by decide), ho 3 (by decide), ho 4 (by decide), ho 5 (by decide), ho 6 (by decide), ho 7 (by decide)]; rfl
  | 2, _ => rw [ho 1 (by decide), ho 0 (by decide), ho 3 (by decide), ho 4 (by decide), ho 5 (by decide), ho 6 (by decide), ho 7 (by decide)]; rfl
  | 3, _ => rw [ho 1 (by decide), ho 2 (by decide), ho 0 (by decide), ho 4 (by decide), ho 5 (by decide), ho 6 (by decide), ho 7 (by decide)]; rfl
  | 4, _ => rw [ho 1 (by decide), ho 2 (by decide), ho 3 (by decide), ho 0 (by decide), ho 5 (by decide), ho 6 (by decide), ho 7 (by decide)]; rfl
  | 5, _ => rw [ho 1 (by decide), ho 2 (by decide), ho 3 (by decide), ho 4 (by decide), ho 0 (by decide), ho 6 (by decide), ho 7 (by decide)]; rfl
  | 6, _ => rw [ho 1 (by decide), ho 2 (by decide), ho 3 (by decide), ho 4 (by decide), ho 5 (by decide), ho 0 (by decide), ho 7 (by decide)]; rfl
  | 7, _ => rw [ho 1 (by decide), ho 2 (by decide), ho 3 (by decide), ho 4 (by decide), ho 5 (by decide), ho 6 (by decide), ho 0 (by decide)]; rfl

/-- The squares, the first k of them written. -/
def sqTo (a : Int) (k : Nat) (j : Nat) : Int := if j < k then Gf.sqkI j a else 0
theorem sqTo_here (a : Int) (k : Nat) : sqTo a (k + 1) k = Gf.sqkI k a := by
  unfold sqTo
  rw [if_pos (by omega)]
theorem sqTo_else (a : Int) (k j : Nat) (h : j ≠ k) : sqTo a (k + 1) j = sqTo a k j := by
  unfold sqTo
  by_cases hj : j < k
  · rw [if_pos (by omega), if_pos hj]
  · rw [if_neg (by omega), if_neg hj]
theorem row_two (w : World) (a : Int) :
    Row ((w.alloc (.cells #[.int .u8 0, .int .u8 0, .int .u8 0, .int .u8 0, .int .u8 0, .int .u8 0, .int .u8 0, .int .u8 0] 212)).alloc (.cells #[.int .u8 0, .int .u8 0, .int .u8 0, .int .u8 0, .int .u8 0, .int .u8 0, .int .u8 0, .int .u8 0] 212)) w.heap.size (fun _ => 0) ∧
    Row ((w.alloc (.cells #[.int .u8 0, .int .u8 0, .int .u8 0, .int .u8 0, .int .u8 0, .int .u8 0, .int .u8 0, .int .u8 0] 212)).alloc (.cells #[.int .u8 0, .int .u8 0, .int .u8 0, .int .u8 0, .int .u8 0, .int .u8 0, .int .u8 0, .int .u8 0] 212)) (w.heap.size + 1) (sqTo a 0) :=
  ⟨heap_alloc2_old w _ _, heap_alloc2_new w _ _⟩

set_option maxHeartbeats 1000000 in
theorem sq_any (a : Int) (w : World) (h0 : 0 ≤ a) (h1 : a ≤ 255) :
    Calls Tryz.prog 187 #[.int .u8 a] w fun e w' => e = .returned (.agg #[.int .u8 (Gf.sqkI 0 a), .int .u8 (Gf.sqkI 1 a), .int .u8 (Gf.sqkI 2 a), .int .u8 (Gf.sqkI 3 a), .int .u8 (Gf.sqkI 4 a), .int .u8 (Gf.sqkI 5 a), .int .u8 (Gf.sqkI 6 a), .int .u8 (Gf.sqkI 7 a)]) ∧ Below w.heap.size w w' := by
  go_enter Tryz.func187, Tryz.ntmps187
  go_wp2
  go_loopw [0, 5] (fun x i wr => ∃ k : Nat, k ≤ 8 ∧ i = .int .i64 k ∧ x = .int .u8 (Gf.sqkI k a) ∧ Row wr w.heap.size (fun _ => 0) ∧ Row wr (w.heap.size + 1) (sqTo a k) ∧ Below w.heap.size w wr) (fun _ i _ => 8 - (intOf i).toNat)
  case atStart => exact ⟨0, Nat.zero_le _, rfl, val_int (Gf.sqkI_zero a h0).symm, (row_two w a).1, (row_two w a).2, ((Below.refl _ _).alloc (Nat.le_refl _) _).alloc (by simp) _⟩
  case round =>
    obtain ⟨k, hk, rfl, rfl, hr0, hr1, hb⟩ := hrel
    have hs := Gf.sqkI_bd k a h0 h1
    by_cases hlt : k < 8
    · have hc := hr1.cell k hlt
      have hf := hr1.frozen k
      go_wp2_with fail
      refine (mul_any _ _ _ hs.1 hs.2 hs.1 hs.2).mono ?_
      rintro e w1 ⟨rfl, hb1⟩
      go_wp2_with fail
      have hz0 := hr0.lt
      have hz1 := hr1.lt
      have q0 := (hr0.other ⟨w.heap.size + 1, k, none⟩ (.int .u8 (Gf.sqkI k a)) (by simp)).below hb1 (by simpa using hz0)
      have q1 := (hr1.put k hlt (Gf.sqkI k a) (sqTo_here a k) (sqTo_else a k)).below hb1 (by simpa using hz1)
      have qb := (hb.setCell (p := ⟨w.heap.size + 1, k, none⟩) (Nat.le_succ _) (.int .u8 (Gf.sqkI k a))).trans (hb1.mono (by simp; omega))
      exact ⟨⟨k + 1, by omega, by go_num, val_int (Gf.sqkI_succ k a).symm, q0, q1, qb⟩, by simp [intOf]; omega⟩
    · have e8 : k = 8 := by omega
      subst e8
      have c0 := hr1.cell 0 (by decide)
      have c1 := hr1.cell 1 (by decide)
      have c2 := hr1.cell 2 (by decide)
      have c3 := hr1.cell 3 (by decide)
      have c4 := hr1.cell 4 (by decide)
      have c5 := hr1.cell 5 (by decide)
      have c6 := hr1.cell 6 (by decide)
      have c7 := hr1.cell 7 (by decide)
      simp only [sqTo, Nat.reduceLT, if_true] at c0 c1 c2 c3 c4 c5 c6 c7
      have d0 := hr0.cell 0 (by decide)
      have d1 := hr0.cell 1 (by decide)
      have d2 := hr0.cell 2 (by decide)
      have d3 := hr0.cell 3 (by decide)
      have d4 := hr0.cell 4 (by decide)
      have d5 := hr0.cell 5 (by decide)
      have d6 := hr0.cell 6 (by decide)
      have d7 := hr0.cell 7 (by decide)
      have f0 := hr0.frozen
      clear hr0 hr1
      go_wp2
      exact bodyPost_ret (v := .agg #[.int .u8 (Gf.sqkI 0 a), .int .u8 (Gf.sqkI 1 a), .int .u8 (Gf.sqkI 2 a), .int .u8 (Gf.sqkI 3 a), .int .u8 (Gf.sqkI 4 a), .int .u8 (Gf.sqkI 5 a), .int .u8 (Gf.sqkI 6 a), .int .u8 (Gf.sqkI 7 a)]) (by simp [results, Tryz.results187, go_sem, d0, d1, d2, d3, d4, d5, d6, d7]) rfl
        ⟨rfl, (((((((hb.setCell (Nat.le_refl _) _).setCell (Nat.le_refl _) _).setCell (Nat.le_refl _) _).setCell (Nat.le_refl _) _).setCell (Nat.le_refl _) _).setCell (Nat.le_refl _) _).setCell (Nat.le_refl _) _).setCell (Nat.le_refl _) _⟩

theorem i64_and (a b : Int) (h1 : 0 ≤ a) (h2 : a < 9223372036854775808) (h3 : 0 ≤ b) (h4 : b < 9223372036854775808) : bits .and .i64 a b = ((a.toNat &&& b.toNat : Nat) : Int) := by
  obtain ⟨A, rfl⟩ := Int.eq_ofNat_of_zero_le h1
  obtain ⟨B, rfl⟩ := Int.eq_ofNat_of_zero_le h3
  have hx : A &&& B < 2 ^ 63 := Nat.and_lt_two_pow _ (by omega)
  show IntKind.i64.wrap ((BitVec.ofInt 64 (A : Int) &&& BitVec.ofInt 64 (B : Int)).toNat : Int) = _
  rw [BitVec.toNat_and, ofInt_u64 A (by omega), ofInt_u64 B (by omega), IntKind.wrap_i64, Int.toNat_natCast, Int.toNat_natCast]
  omega
theorem bit_i64 (b : Int) (k : Nat) (g0 : 0 ≤ b) (g1 : b ≤ 255) : (bits .and .i64 (b / 2 ^ k) 1 == 1) = decide (b.toNat / 2 ^ k % 2 = 1) := by
  have hd := div_bd b k g0
  rw [i64_and _ _ hd.1 (by omega) (by decide) (by decide), bit_nat b k g0, show (1 : Int).toNat = 1 from rfl, nat_mask1]
  generalize b.toNat / 2 ^ k % 2 = m
  rw [Bool.eq_iff_iff, beq_iff_eq, decide_eq_true_iff]
  omega

theorem row_new (w : World) (f : Nat → Int) :
    Row (w.alloc (.cells #[.int .u8 (f 0), .int .u8 (f 1), .int .u8 (f 2), .int .u8 (f 3), .int .u8 (f 4), .int .u8 (f 5), .int .u8 (f 6), .int .u8 (f 7)] 212)) w.heap.size f :=
  heap_alloc_new w _

set_option maxHeartbeats 1000000 in
theorem raise_any (a n : Int) (w : World) (h0 : 0 ≤ a) (h1 : a ≤ 255) (g0 : 0 ≤ n) (g1 : n ≤ 255) :
    Calls Tryz.prog 185 #[.int .u8 a, .int .i64 n] w fun e w' => e = .returned (.int .u8 (Gf.raiseI a n)) ∧ Below w.heap.size w w' := by
  go_enter Tryz.func185, Tryz.ntmps185
  go_wp2_with fail
  refine (sq_any a _ h0 h1).mono ?_
  rintro e w1 ⟨rfl, hb⟩
  go_wp2_with fail
  go_loopw [6, 10] (fun s i wr => ∃ k : Nat, k ≤ 8 ∧ i = .int .i64 k ∧ s = .int .u8 (Gf.raiseToI a n k) ∧ Row wr w1.heap.size (fun j => Gf.sqkI j a) ∧ Below w.heap.size w wr) (fun _ i _ => 8 - (intOf i).toNat)
  case atStart => exact ⟨0, Nat.zero_le _, rfl, rfl, row_new w1 (fun j => Gf.sqkI j a), hb.alloc hb.size _⟩
  case round =>
    obtain ⟨k, hk, rfl, rfl, hr, hbr⟩ := hrel
    have hs := Gf.sqkI_bd k a h0 h1
    have hp := Gf.raiseToI_bd a n k
    by_cases hlt : k < 8
    · have hc := hr.cell k hlt
      have hl := hr.lt
      by_cases hbit : (bits BinOp.and IntKind.i64 (n / 2 ^ k) 1 == 1) = true
      · have hy : n.toNat / 2 ^ k % 2 = 1 := by
          rw [bit_i64 n k g0 g1] at hbit
          exact of_decide_eq_true hbit
        have HY : Hid (n.toNat / 2 ^ k % 2 = 1) := hy
        clear hy
        go_wp2_with fail
        refine (mul_any _ _ _ hp.1 hp.2 hs.1 hs.2).mono ?_
        rintro e w2 ⟨rfl, hb2⟩
        go_wp2_with fail
        exact ⟨⟨k + 1, by omega, by go_num, val_int (Gf.raiseToI_yes a n k HY.out).symm, hr.below hb2 hl, hbr.trans (hb2.mono hbr.size)⟩, by simp [intOf]; omega⟩
      · have hbit' : (bits BinOp.and IntKind.i64 (n / 2 ^ k) 1 == 1) = false := by simpa using hbit
        have hy : ¬ n.toNat / 2 ^ k % 2 = 1 := by
          rw [bit_i64 n k g0 g1] at hbit'
          exact of_decide_eq_false hbit'
        have HY : Hid (¬ n.toNat / 2 ^ k % 2 = 1) := hy
        clear hy hbit
        go_wp2_with fail
        exact ⟨⟨k + 1, by omega, by go_num, val_int (Gf.raiseToI_no a n k HY.out).symm, hr, hbr⟩, by simp [intOf]; omega⟩
    · have e8 : k = 8 := by omega
      subst e8
      go_wp2
      go_ret
      exact ⟨rfl, hbr⟩

end Go.Proofs.YtmcaejooaaahdaaGreat

namespace Go.Proofs.YtmcaejooaaahdaaGreat
open Go.RowKit

set_option maxHeartbeats 400000 in
theorem inv_any (a : Int) (w : World) (h0 : 0 ≤ a) (h1 : a ≤ 255) :
    Calls Tryz.prog 177 #[.int .u8 a] w fun e w' => e = .returned (.int .u8 (Gf.raiseI a 254)) ∧ Below w.heap.size w w' := by
  go_enter Tryz.func177, Tryz.ntmps177
  go_wp2_with fail
  refine (raise_any _ _ _ h0 h1 (by decide) (by decide)).mono ?_
  rintro e w1 ⟨rfl, hb⟩
  go_wp2_with fail
  go_ret
  exact ⟨rfl, hb⟩

end Go.Proofs.YtmcaejooaaahdaaGreat
