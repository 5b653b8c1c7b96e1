/-
  Lists of bytes as they lie in memory: those that came in, those that a call makes. No function of the program is named here.
-/
import Derived.Test.YtabolanakcmgfaeRows
import Derived.WalkKit
import Derived.WalkSpells
import Derived.WalkLawsBesides
import Derived.Laws.BitsAllLaws
import Derived.Laws.BytesArg
import Derived.FnLit
import Derived.Shelf.Abstract
import Derived.Deep.OwnRows
import Derived.Deep.RegionWith
import Derived.Deep.Slices
import Derived.Deep.AppendSrc
import Derived.BigRegion
import Derived.BigQuiet
import Derived.Deep.QuietTactic
import Derived.Lib.Bytes
import Derived.Lib.SmallJoins
import Derived.ProofKit
import Derived.OpenShut
import Derived.Carry
namespace Go.Proofs.Ytabolanakcmgfae
open Go.RowKit

theorem ret_int {k : IntKind} {a b : Int} (h : a = b) : Ending.returned (.int k a) = .returned (.int k b) := by rw [h]
theorem val_int {k : IntKind} {a b : Int} (h : a = b) : Value.int k a = Value.int k b := by rw [h]
theorem Try.infoByte : (Try.prog.info? 5).map (fun i => (i.zero, i.size, i.bytes)) = some (some (.int .u8 0), 1, 1) := by kernel_rfl
theorem Try.laidOut : laidOutB Try.prog = true := by kernel_rfl
theorem bt {a b c : World} (h : Below a.heap.size a b) (k : Below b.heap.size b c) : Below a.heap.size a c := h.trans (k.mono h.size)
def Bd (f : Nat → Nat) : Prop := ∀ k, f k < 256

/-- Of the blocks that were there none but those of S has turned. -/
structure Off (S : Nat → Prop) (w w' : World) : Prop where
  os : w'.os = w.os
  tape : w'.tape = w.tape
  output : w'.output = w.output
  size : w.heap.size ≤ w'.heap.size
  block : ∀ k, k < w.heap.size → ¬ S k → w'.heap[k]? = w.heap[k]?

theorem Off.refl (S : Nat → Prop) (w : World) : Off S w w := ⟨rfl, rfl, rfl, Nat.le_refl _, fun _ _ _ => rfl⟩
theorem Off.trans {S : Nat → Prop} {a b c : World} (h : Off S a b) (k : Off S b c) : Off S a c :=
  ⟨k.os.trans h.os, k.tape.trans h.tape, k.output.trans h.output, Nat.le_trans h.size k.size, fun i hi hs => (k.block i (Nat.lt_of_lt_of_le hi h.size) hs).trans (h.block i hi hs)⟩
theorem Off.of_below {S : Nat → Prop} {a b : World} (h : Below a.heap.size a b) : Off S a b := ⟨h.os, h.tape, h.output, h.size, fun k hk _ => h.block k hk⟩
theorem Off.wider {S T : Nat → Prop} {a b : World} (h : Off S a b) (hs : ∀ k, S k → T k) : Off T a b := ⟨h.os, h.tape, h.output, h.size, fun k hk hn => h.block k hk (fun s => hn (hs k s))⟩
theorem Off.set {S : Nat → Prop} {a b : World} (h : Off S a b) {p : Addr} (hp : S p.block) (v : Value) : Off S a (b.setCell p v) :=
  h.trans ⟨rfl, rfl, rfl, by rw [Deep.nblk_setCell]; exact Nat.le_refl _, fun k _ hk => Deep.blk_setCell_other _ _ _ _ (fun e => hk (e ▸ hp))⟩
theorem Off.drew {S : Nat → Prop} {a b : World} (h : Off S a b) : Off S a b.drew := ⟨h.os, h.tape, h.output, h.size, h.block⟩
theorem Off.below {S : Nat → Prop} {a b : World} {B : Nat} (h : Off S a b) (hB : B ≤ a.heap.size) (hs : ∀ k, S k → B ≤ k) : Below B a b :=
  ⟨h.os, h.tape, h.output, h.size, fun k hk => h.block k (Nat.lt_of_lt_of_le hk hB) (fun s => absurd (hs k s) (by omega))⟩

/-- Block g is a row whose first n cells, of type t, hold F. -/
def RowC (w : World) (g : Nat) (t : TypeId) (n : Nat) (F : Nat → Value) : Prop := ∃ m F', w.rowIs g t m F' ∧ n ≤ m ∧ ∀ j, j < n → F' j = F j
namespace RowC
variable {w : World} {g : Nat} {t : TypeId} {n : Nat} {F : Nat → Value}
theorem cell (h : RowC w g t n F) {j : Nat} (hj : j < n) : w.cell? ⟨g, j, none⟩ = some (F j) := by
  obtain ⟨m, F', hr, hm, he⟩ := h
  rw [hr.cell (Nat.lt_of_lt_of_le hj hm), he j hj]
theorem frozen (h : RowC w g t n F) (j : Nat) : w.frozen? ⟨g, j, none⟩ = false := by
  obtain ⟨m, F', hr, _, _⟩ := h
  exact hr.frozen j
theorem lt (h : RowC w g t n F) : g < w.heap.size := by
  obtain ⟨m, F', hr, _, _⟩ := h
  exact hr.lt
theorem congr {F2 : Nat → Value} (h : RowC w g t n F) (e : ∀ j, j < n → F j = F2 j) : RowC w g t n F2 := by
  obtain ⟨m, F', hr, hm, he⟩ := h
  exact ⟨m, F', hr, hm, fun j hj => (he j hj).trans (e j hj)⟩
theorem of_block {w' : World} (h : RowC w g t n F) (e : w'.heap[g]? = w.heap[g]?) : RowC w' g t n F := by
  obtain ⟨m, F', hr, hm, he⟩ := h
  exact ⟨m, F', hr.of_block e, hm, he⟩
theorem set (h : RowC w g t n F) (i : Nat) (v : Value) : RowC (w.setCell ⟨g, i, none⟩ v) g t n (fun j => if j = i then v else F j) := by
  obtain ⟨m, F', hr, hm, he⟩ := h
  refine ⟨m, _, hr.set i v, hm, fun j hj => ?_⟩
  show (if j = i then v else F' j) = (if j = i then v else F j)
  by_cases e : j = i
  · rw [if_pos e, if_pos e]
  · rw [if_neg e, if_neg e, he j hj]
theorem setOther (h : RowC w g t n F) {a : Addr} (ha : g ≠ a.block) (v : Value) : RowC (w.setCell a v) g t n F := h.of_block (Deep.blk_setCell_other _ _ _ _ ha)
theorem alloc (h : RowC w g t n F) (o : Obj) : RowC (w.alloc o) g t n F := h.of_block (Deep.blk_alloc_lt _ _ _ h.lt)
theorem drew (h : RowC w g t n F) : RowC w.drew g t n F := h
theorem below {w' : World} (h : RowC w g t n F) (hb : Below w.heap.size w w') : RowC w' g t n F := h.of_block (hb.block g h.lt)
theorem ne {g' : Nat} {t' : TypeId} {n' : Nat} {F2 : Nat → Value} (h : RowC w g t n F) (h' : RowC w g' t' n' F2) (ht : t ≠ t') : g ≠ g' := fun e => by
  obtain ⟨_, _, ⟨c, h1, _, _⟩, _, _⟩ := h
  obtain ⟨_, _, ⟨c', h2, _, _⟩, _, _⟩ := h'
  rw [e, h2] at h1
  cases h1
  exact ht rfl
end RowC
theorem rowC_of {w : World} {g : Nat} {t : TypeId} {n : Nat} {F : Nat → Value} (h : w.rowIs g t n F) : RowC w g t n F := ⟨n, F, h, Nat.le_refl _, fun _ _ => rfl⟩

/-- What is appended to lies in a block of its own. -/
theorem rowC_owns {w : World} {N : Nat} {t : TypeId} {v : Value} {n : Nat} {xs : List Value} (h : w.ownsRow N t 1 v n xs) (hn : 1 ≤ n) :
    ∃ g cap, v = .slice (some ⟨g, 0, none⟩) n cap ∧ N ≤ g ∧ n ≤ cap ∧ RowC w g t n (fun j => xs.getD j (.slice none 0 0)) := by
  obtain ⟨hl, h⟩ := h
  rcases h with ⟨_, h0⟩ | ⟨g, cap, cur, hv, hN, hg, hc, _, hs, ht⟩
  · omega
  · refine ⟨g, cap, hv, hN, hc, cur.size, fun j => cur.getD j (.slice none 0 0), ⟨cur, hg, rfl, fun i hi => by simp [hi]⟩, by omega, fun j hj => ?_⟩
    have hj' : j < cur.size := by omega
    have : xs[j]? = cur[j]? := by
      rw [← ht, List.getElem?_take, if_pos (by omega)]
      simp
    simp [List.getD, this, hj']

theorem grown_of_below {w w' : World} (h : Below w.heap.size w w') (row : Option Nat) : w.grownBy w' row := ⟨h.os, h.tape, h.output, h.size, fun k hk _ => h.block k hk⟩
theorem owns_below {w w' : World} {N : Nat} {t : TypeId} {s : Nat} {v : Value} {n : Nat} {xs : List Value} (h : w.ownsRow N t s v n xs) (hb : Below w.heap.size w w') : w'.ownsRow N t s v n xs :=
  h.kept (grown_of_below hb none) (by cases hv : v.ownBlock <;> simp)
theorem owns_block {w : World} {N : Nat} {t : TypeId} {v : Value} {n x : Nat} {xs : List Value} (h : w.ownsRow N t 1 v n xs) (hx : v.ownBlock = some x) : ∃ F, RowC w x t 0 F := by
  rcases h.2 with ⟨rfl, _⟩ | ⟨g, cap, cur, rfl, _, hg, _⟩
  · simp [Value.ownBlock] at hx
  · simp [Value.ownBlock] at hx
    subst hx
    exact ⟨fun j => cur.getD j (.slice none 0 0), cur.size, fun j => cur.getD j (.slice none 0 0), ⟨cur, hg, rfl, fun i hi => by simp [hi]⟩, Nat.zero_le _, fun j hj => absurd hj (Nat.not_lt_zero j)⟩
theorem rowC_owns' {w : World} {N : Nat} {t : TypeId} {v : Value} {n : Nat} {xs : List Value} (h : w.ownsRow N t 1 v n xs) (hne : v ≠ .slice none 0 0) :
    ∃ g cap, v = .slice (some ⟨g, 0, none⟩) n cap ∧ N ≤ g ∧ n ≤ cap ∧ RowC w g t n (fun j => xs.getD j (.slice none 0 0)) := by
  by_cases hn : 1 ≤ n
  · exact rowC_owns h hn
  · rcases h.2 with ⟨h1, _⟩ | ⟨g, cap, cur, hv, hN, hg, hc, _⟩
    · exact absurd h1 hne
    · exact ⟨g, cap, hv, hN, hc, cur.size, fun j => cur.getD j (.slice none 0 0), ⟨cur, hg, rfl, fun i hi => by simp [hi]⟩, by omega, fun j hj => by omega⟩

/-- A row appended to one of no bytes: a copy. -/
theorem copy_row (w : World) (R : Option Addr) (L C : Nat) (f : Nat → Nat) (hL : L ≤ reachBytes) (hc : ∀ k, k < L → ∃ b o, R = some ⟨b, o, none⟩ ∧ w.cell? ⟨b, o + k, none⟩ = some (.int .u8 (f k : Nat))) :
    ∃ g cap w', (Builtin.append_ #[22, 22] 22 #[.slice (some ⟨w.heap.size, 0, none⟩) 0 0, .slice R L C]).run Try.prog (w.alloc (.cells #[] 5)) = .ok (.slice (some ⟨g, 0, none⟩) L cap) w' ∧ w.heap.size ≤ g ∧
      RowC w' g 5 L (fun j => .int .u8 (f j : Nat)) ∧ Below w.heap.size w w' := by
  obtain ⟨i1, hi1, hh1⟩ := Option.map_eq_some_iff.1 Try.infoByte
  simp only [Prod.mk.injEq] at hh1
  obtain ⟨hy0, hy1, hy2⟩ := hh1
  have hbX := (Below.refl w.heap.size w).alloc (Nat.le_refl _) (.cells #[] 5)
  have hown0 : (w.alloc (.cells #[] 5)).ownsRow w.heap.size 5 1 (.slice (some ⟨w.heap.size, 0, none⟩) 0 0) 0 [] := World.ownsRow_made w #[] 0 (Nat.le_refl _) (by unfold maxLen; omega) rfl
  cases hR : R with
  | none =>
    have e : L = 0 := by
      rcases Nat.eq_zero_or_pos L with h | h
      · exact h
      · obtain ⟨b, o, h1, _⟩ := hc 0 h
        rw [hR] at h1
        cases h1
    subst e
    refine ⟨w.heap.size, 0, _, run_append_room_src (P := Try.prog) _ 22 22 22 5 i1 Try.underlying22 hi1 w.heap.size 0 0 0 _ 0 [] (Src.ofNil _ Try.underlying22 C) (Nat.le_refl _) (fun j hj => by cases hj) (fun j hj => by cases hj), Nat.le_refl _, ?_, hbX⟩
    exact ⟨0, fun _ => .slice none 0 0, (World.rowIs_alloc w #[] 5 (fun _ => .slice none 0 0) (fun i hi => by simp at hi)), Nat.le_refl _, fun j hj => absurd hj (Nat.not_lt_zero j)⟩
  | some r =>
    have hn : ∀ j u, ((List.range L).map fun j => Value.int .u8 (f j : Nat))[j]? = some u → (w.alloc (.cells #[] 5)).cell? (r.add j) = some u := fun j u hj => by
      rcases Nat.lt_or_ge j L with h | h
      · simp [h] at hj
        obtain ⟨b', o', e1, e2⟩ := hc j h
        rw [hR] at e1
        cases e1
        rw [WideShapes.add_plain, (hbX.cell (p := ⟨b', o' + j, none⟩) (World.block_lt_of_cell? _ _ e2)).trans e2, ← hj]
      · simp [List.getElem?_eq_none (show ((List.range L).map fun j => Value.int .u8 (f j : Nat)).length ≤ j by simpa using h)] at hj
    have hre := reachBytes_lt
    obtain ⟨v', w', hrun, ho, hg, hnil⟩ := run_append_own (P := Try.prog) (w.alloc (.cells #[] 5)) w.heap.size 22 22 5 i1 (.int .u8 0) 1 1 Try.underlying22 hi1 hy0 hy1 hy2 rfl (by decide) _ 0 [] hown0 r L C ((List.range L).map fun j => Value.int .u8 (f j : Nat)) (by simp) hn (by intro u hu; obtain ⟨_, _, rfl⟩ := List.mem_map.1 hu; rfl) (by unfold maxLen; omega) (by omega) hbX.size
    rw [Nat.zero_add, List.nil_append] at ho
    obtain ⟨g, cap, rfl, hNg, _, hrow⟩ := rowC_owns' ho (fun e => by
      have := (hnil.1 e).1
      cases this)
    exact ⟨g, cap, w', hrun, hNg, hrow.congr (fun j hj => by simp [List.getD, hj]), hbX.grown hg hbX.size (fun x hx => (hown0.lt x hx).1)⟩

theorem bytes_getD (f : Nat → Nat) (c i : Nat) (h : i < c) : ((List.range c).map fun k => (f k : Int)).getD i 0 = (f i : Int) := by
  simp [List.getD, h]

/-- A bool is told that says whether P. -/
def Tell (e : Ending) (P : Prop) : Prop := ∃ y : Bool, e = .returned (.bool y) ∧ (y = true ↔ P)
theorem tell_of {y : Bool} {P : Prop} (h : y = true ↔ P) : Tell (.returned (.bool y)) P := ⟨y, rfl, h⟩
theorem tell_yes {P : Prop} (h : P) : Tell (.returned (.bool true)) P := ⟨true, rfl, ⟨fun _ => h, fun _ => rfl⟩⟩
theorem tell_no {P : Prop} (h : ¬ P) : Tell (.returned (.bool false)) P := ⟨false, rfl, ⟨fun h => absurd h (by decide), fun h' => absurd h' h⟩⟩

theorem str_list (c : Nat) (f : Nat → Nat) : (strOfNums ((List.range c).map fun k => (f k : Int))).toList = (List.range c).map fun k => UInt8.ofNat (f k) := by
  rw [Lib.strOfNums_toList]
  unfold Lib.bytesOf
  rw [List.map_map]
  rfl
theorem str_iff {c : Nat} {f g : Nat → Nat} (hf : Bd f) (hg : Bd g) : (strOfNums ((List.range c).map fun k => (f k : Int))).toList = (strOfNums ((List.range c).map fun k => (g k : Int))).toList ↔ ∀ k, k < c → f k = g k := by
  rw [str_list, str_list]
  constructor
  · intro h k hk
    have h1 := congrArg (fun s => s[k]?) h
    simp only [List.getElem?_map, List.getElem?_range hk, Option.map_some, Option.some.injEq] at h1
    have h2 := congrArg UInt8.toNat h1
    have h3 := hf k
    have h4 := hg k
    simp only [UInt8.toNat_ofNat'] at h2
    omega
  · intro h
    exact List.map_congr_left (fun k hk => by rw [h k (List.mem_range.1 hk)])


/-- A list of n bytes. -/
structure Byts (w : World) (v : Value) (n : Nat) (f : Nat → Nat) : Prop where
  bd : Bd f
  lies : ∃ (A : Option Addr) (cap : Nat), v = .slice A n cap ∧ n ≤ cap ∧ cap ≤ maxLen ∧ ∀ i, i < n → ∃ b o, A = some ⟨b, o, none⟩ ∧ w.cell? ⟨b, o + i, none⟩ = some (.int .u8 (f i : Nat))
theorem Byts.below {w w' : World} {v : Value} {n : Nat} {f : Nat → Nat} (h : Byts w v n f) (hb : Below w.heap.size w w') : Byts w' v n f := by
  obtain ⟨bd, A, cap, hv, h1, h2, hc⟩ := h
  refine ⟨bd, A, cap, hv, h1, h2, fun i hi => ?_⟩
  obtain ⟨b, o, e1, e2⟩ := hc i hi
  exact ⟨b, o, e1, (hb.cell (p := ⟨b, o + i, none⟩) (World.block_lt_of_cell? _ _ e2)).trans e2⟩
theorem Byts.nil (w : World) : Byts w (.slice none 0 0) 0 (fun _ => 0) := ⟨fun _ => Nat.zero_lt_succ 255, none, 0, rfl, Nat.le_refl _, Nat.zero_le _, fun i hi => absurd hi (Nat.not_lt_zero i)⟩
theorem Byts.len {w : World} {v : Value} {n : Nat} {f : Nat → Nat} (h : Byts w v n f) : n ≤ 9223372036854775807 := by
  obtain ⟨_, A, cap, _, h1, h2, _⟩ := h
  unfold maxLen at h2
  omega
/-- Where there is a byte there is a place. -/
theorem Byts.some {w : World} {v : Value} {n : Nat} {f : Nat → Nat} (h : Byts w v n f) (hn : 1 ≤ n) :
    ∃ b o cap, v = .slice (some ⟨b, o, none⟩) n cap ∧ n ≤ cap ∧ cap ≤ 9223372036854775807 ∧ ∀ i, i < n → w.cell? ⟨b, o + i, none⟩ = some (.int .u8 (f i : Nat)) := by
  obtain ⟨_, A, cap, hv, h1, h2, hc⟩ := h
  obtain ⟨b, o, rfl, _⟩ := hc 0 hn
  refine ⟨b, o, cap, hv, h1, by unfold maxLen at h2; exact h2, fun i hi => ?_⟩
  obtain ⟨b', o', e1, e2⟩ := hc i hi
  cases e1
  exact e2
theorem Byts.zero {w : World} {v : Value} {f : Nat → Nat} (h : Byts w v 0 f) : ∃ A cap, v = .slice A 0 cap := by
  obtain ⟨_, A, cap, hv, _⟩ := h
  exact ⟨A, cap, hv⟩
/-- Bytes in a block of the call's own. -/
theorem byts_of_row {w : World} {g n cap : Nat} {f : Nat → Nat} (hf : Bd f) (h : RowC w g 5 n (fun j => .int .u8 (f j : Nat))) (h1 : n ≤ cap) (h2 : cap ≤ maxLen) : Byts w (.slice (some ⟨g, 0, none⟩) n cap) n f :=
  ⟨hf, some ⟨g, 0, none⟩, cap, rfl, h1, h2, fun i hi => ⟨g, 0, rfl, by rw [Nat.zero_add]; exact h.cell hi⟩⟩

theorem byts_of {H : Type} {enc : TypeId × Value → H} {W : World} {a : Option Addr} {len cap : Nat} {d : DataW H} {ps : List MemPlace} {fuel : Nat} (hf : DataW.trod enc Try.prog W 0 (fun _ => true) true fuel 22 [.slice a len cap] = some (d, ps)) :
    ∃ f, Byts W (.slice a len cap) len f := by
  rcases ChangeShapes.open_ints Try.underlying22 Try.underlying5 (by kernel_rfl) hf with ⟨hcs, _⟩ | ⟨x, l, c, zs, hcs, _, hl, hm, hz, _, hcell, hwz⟩
  · simp at hcs
    obtain ⟨rfl, rfl, rfl⟩ := hcs
    exact ⟨fun _ => 0, Byts.nil _⟩
  · simp at hcs
    obtain ⟨rfl, rfl, rfl⟩ := hcs
    simp only [if_true] at hz
    have hzz : ∀ i, 0 ≤ zs.getD i 0 ∧ zs.getD i 0 ≤ 255 := fun i => by
      by_cases h : i < zs.length
      · have hm : zs.getD i 0 ∈ zs := by simp [List.getD, h]
        exact bounds_u8 (hwz _ hm)
      · simp [List.getD, h]
    refine ⟨fun i => (zs.getD i 0).toNat, fun i => by have := hzz i; omega, some x, cap, rfl, hl, hm, fun i hi => ?_⟩
    obtain ⟨b, o, spot⟩ := x
    have hspot : spot = none := by simpa [Addr.add] using World.cell?_spot (hcell 0 (by omega))
    subst hspot
    refine ⟨b, o, rfl, ?_⟩
    rw [← WideShapes.add_plain, hcell i (by omega)]
    have := hzz i
    rw [Int.toNat_of_nonneg this.1]

theorem i64_or (A B : Nat) (h2 : A < 9223372036854775808) (h4 : B < 9223372036854775808) : bits .or .i64 (A : Int) (B : Int) = ((A ||| B : Nat) : Int) := by
  have hx : A ||| B < 2 ^ 63 := Nat.or_lt_two_pow (by omega) (by omega)
  show IntKind.i64.wrap ((BitVec.ofInt 64 (A : Int) ||| BitVec.ofInt 64 (B : Int)).toNat : Int) = _
  rw [BitVec.toNat_or, ofInt_u64 A (by omega), ofInt_u64 B (by omega), IntKind.wrap_i64]
  omega
theorem bdn {B : Nat} {a w : World} (h : Below B a w) (m : Nat) : Below B a (w.drewN m) := ⟨h.os, h.tape, h.output, h.size, h.block⟩
theorem byt_of {H : Type} {enc : TypeId × Value → H} {W : World} {a : Option Addr} {len cap : Nat} {d : DataW H} {ps : List MemPlace} (h : DataW.Trod enc Try.prog W 0 (fun _ => true) true 22 (.slice a len cap) d ps) :
    ∃ f, Byts W (.slice a len cap) len f := by
  obtain ⟨fuel, hf⟩ := h
  exact byts_of (fuel := fuel) (by simpa [Value.cells] using hf)

end Go.Proofs.Ytabolanakcmgfae
