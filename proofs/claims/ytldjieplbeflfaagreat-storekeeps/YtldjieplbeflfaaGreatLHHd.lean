/-
  Maps that a law makes: a set of numbers, with its size; what is said of each number.
-/
import Derived.Test.YtldjieplbeflfaaGreatLHKeepL
import Derived.Maps.RangeWalk
namespace Go.Proofs.YtldjieplbeflfaaGreat
open Go.RowKit Go.Maps

/-- Block b is a map whose keys are those numbers below N that M strikes. -/
def Hd8 (w : World) (b m N : Nat) (M : Nat → Bool) : Prop := ∃ D : DataW Unit, w.ownsMap Tryz.prog 3 (plainElem Tryz.prog 4) b m D ∧ Tidy D ∧ (∀ j : Nat, j < N → Maps.has D (.int .i64 (j : Int)) = M j) ∧ (∀ x : Int, Maps.has D (.int .i64 x) = true → ∃ j : Nat, j < N ∧ x = (j : Int)) ∧ Maps.size D = cnt M N
/-- Block b is a map that tells g of the numbers below N. -/
def Go8 (w : World) (b m N : Nat) (g : Nat → Bool) : Prop := ∃ D : DataW Unit, w.ownsMap Tryz.prog 3 (plainElem Tryz.prog 4) b m D ∧ IsMap D ∧ ∀ j : Nat, j < N → D.atKey (.int .i64 (j : Int)) (.lit (.bool false)) = .lit (.bool (g j))
theorem key8 (j : Nat) (h : j < 1000) : keyOf Tryz.prog 3 (.int .i64 (j : Int)) = some (.int .i64 (j : Int)) := keyOf_int_mk Tryz.underlying3 (WalkArith.wf_i64 (by omega))
theorem hd8_start (w : World) (N : Nat) : Hd8 (w.alloc (.map #[] 0)) w.heap.size 0 N (fun _ => false) := ⟨.map [], World.ownsMap_made _ _ _ _, tidy_empty, fun j _ => rfl, fun x h => (by cases h), by rw [cnt_none]; rfl⟩
theorem go8_start (w : World) (N : Nat) : Go8 (w.alloc (.map #[] 0)) w.heap.size 0 N (fun _ => false) := ⟨.map [], World.ownsMap_made _ _ _ _, ⟨[], rfl⟩, fun j _ => by simp; rfl⟩
theorem Go8.look {w : World} {b m N : Nat} {g : Nat → Bool} (h : Go8 w b m N g) (k : Nat) (hk : k < N) (hN : N ≤ 1000) : (Instr.lookup 49 (.map (some b)) (.int .i64 (k : Int)) false).run Tryz.prog w = .ok (.bool (g k)) w := by
  obtain ⟨D, hown, _, hat⟩ := h
  obtain ⟨v, ps, hrun, hv⟩ := hown.lookup keyedI Tryz.mapIB (Tryz.zeroBoolI w) (plainElem_bool Tryz.underlying4 false) (key8 k (by omega))
  obtain ⟨x, rfl, hz⟩ := plainElem_boolI hv
  rw [hat k hk] at hz
  simp at hz
  rw [hrun, hz.1]
theorem Hd8.len {w : World} {b m N : Nat} {M : Nat → Bool} (h : Hd8 w b m N M) (ty : TypeId) : (Builtin.len_ #[49] ty #[.map (some b)]).run Tryz.prog w = .ok (.int .i64 (cnt M N : Nat)) w := by
  obtain ⟨D, hown, _, _, _, hs⟩ := h
  rw [← hs]
  exact hown.len Tryz.mapIB ty
theorem Hd8.kept {w w' : World} {b m N : Nat} {M : Nat → Bool} {row : Option Nat} (h : Hd8 w b m N M) (hg : w.grownBy w' row) (hne : some b ≠ row) : Hd8 w' b m N M := by
  obtain ⟨D, hown, hr⟩ := h
  exact ⟨D, hown.kept hg hne, hr⟩
theorem Go8.kept {w w' : World} {b m N : Nat} {g : Nat → Bool} {row : Option Nat} (h : Go8 w b m N g) (hg : w.grownBy w' row) (hne : some b ≠ row) : Go8 w' b m N g := by
  obtain ⟨D, hown, hr⟩ := h
  exact ⟨D, hown.kept hg hne, hr⟩
theorem grownB8 {w w' : World} (hb : Below w.heap.size w w') : w.grownBy w' none := by
  have ho : Off (fun _ => False) w w' := Off.of_below hb
  exact ⟨ho.os, ho.tape, ho.output, ho.size, fun k hk _ => ho.block k hk id⟩
theorem Hd8.below {w w' : World} {b m N : Nat} {M : Nat → Bool} (h : Hd8 w b m N M) (hb : Below w.heap.size w w') : Hd8 w' b m N M := h.kept (grownB8 hb) (by simp)
theorem Go8.below {w w' : World} {b m N : Nat} {g : Nat → Bool} (h : Go8 w b m N g) (hb : Below w.heap.size w w') : Go8 w' b m N g := h.kept (grownB8 hb) (by simp)
theorem Hd8.lt {w : World} {b m N : Nat} {M : Nat → Bool} (h : Hd8 w b m N M) : b < w.heap.size := by
  obtain ⟨D, hown, _⟩ := h
  exact hown.lt
theorem Go8.lt {w : World} {b m N : Nat} {g : Nat → Bool} (h : Go8 w b m N g) : b < w.heap.size := by
  obtain ⟨D, hown, _⟩ := h
  exact hown.lt
theorem lose_same {k : Nat} {M : Nat → Bool} (h : M k = true) : lose k M = M := by
  funext i
  unfold lose
  by_cases e : i = k
  · rw [if_pos e, e, h]
  · rw [if_neg e]
/-- One more is struck. -/
theorem Hd8.put {w' : World} {b m N k : Nat} {M : Nat → Bool} {D : DataW Unit} (hT : Tidy D) (hh : ∀ j : Nat, j < N → Maps.has D (.int .i64 (j : Int)) = M j) (hx : ∀ x : Int, Maps.has D (.int .i64 x) = true → ∃ j : Nat, j < N ∧ x = (j : Int)) (hs : Maps.size D = cnt M N)
    (hk : k < N) (h : w'.ownsMap Tryz.prog 3 (plainElem Tryz.prog 4) b m (D.put (.int .i64 (k : Int)) (.lit (.bool true)))) : Hd8 w' b m N (lose k M) := by
  refine ⟨_, h, hT.put (k := .int .i64 (k : Int)) trivial _, fun j hj => ?_, fun x hp => ?_, ?_⟩
  · by_cases e : j = k
    · subst e
      rw [has_put_same (k := .int .i64 (j : Int)) hT.isMap trivial, show lose j M j = true from if_pos rfl]
    · rw [has_put_other (fun q => by simp at q; omega), hh j hj, show lose k M j = M j from if_neg e]
  · by_cases e : x = (k : Int)
    · exact ⟨k, hk, e⟩
    · rw [has_put_other (fun q => by simp at q; exact e q)] at hp
      exact hx x hp
  · rw [size_put hT, hh k hk, hs]
    by_cases hM : M k = true
    · rw [hM, lose_same hM]
      rfl
    · have hM : M k = false := by simpa using hM
      rw [hM, cnt_lose hM N hk]
      rfl
/-- Of one more it is said. -/
theorem Go8.put {w' : World} {b m N k : Nat} {g : Nat → Bool} {D : DataW Unit} {y : Bool} (hD : IsMap D) (hat : ∀ j : Nat, j < N → D.atKey (.int .i64 (j : Int)) (.lit (.bool false)) = .lit (.bool (g j)))
    (h : w'.ownsMap Tryz.prog 3 (plainElem Tryz.prog 4) b m (D.put (.int .i64 (k : Int)) (.lit (.bool y)))) : Go8 w' b m N (fun i => if i = k then y else g i) := by
  refine ⟨_, h, (by obtain ⟨es, rfl⟩ := hD; exact ⟨_, rfl⟩), fun j hj => ?_⟩
  by_cases e : j = k
  · subst e
    rw [atKey_put_same (k := .int .i64 (j : Int)) hD trivial]
    show _ = DataW.lit (Lit.bool (if j = j then y else g j))
    rw [if_pos rfl]
  · rw [atKey_put_other (fun q => by simp at q; omega), hat j hj]
    show _ = DataW.lit (Lit.bool (if j = k then y else g j))
    rw [if_neg e]
theorem cnt_mono {A B : Nat → Bool} : ∀ N, (∀ i, i < N → A i = true → B i = true) → cnt A N ≤ cnt B N
  | 0, _ => Nat.le_refl _
  | N + 1, h => by
    have h1 := cnt_mono N fun i hi => h i (by omega)
    show cnt A N + (if A N then 1 else 0) ≤ cnt B N + if B N then 1 else 0
    by_cases q : A N = true
    · rw [if_pos q, if_pos (h N (by omega) q)]
      omega
    · rw [if_neg q]
      omega
theorem key_ne {i j : Nat} (h : i ≠ j) : (Lit.int .i64 (i : Int)).sameKey (.int .i64 (j : Int)) = false := sameKey_ne fun e => h (by
  simp at e
  omega)
theorem key_same (j : Nat) : (Lit.int .i64 (j : Int)).sameKey (.int .i64 (j : Int)) = true := WideAt.sameKey_self trivial
theorem invK8 (key : Value) (kl : Lit) (h : keyOf Tryz.prog 3 key = some kl) : ∃ x, key = Value.int .i64 x := by
  obtain ⟨x, hx, _⟩ := Maps.keyOf_int_inv Tryz.underlying3 h
  exact ⟨x, hx⟩
theorem invV8 (v : Value) (y : DataW Unit × List MemPlace) (h : plainElem Tryz.prog 4 v = some y) : ∃ c, v = Value.bool c := by
  obtain ⟨x, hx, _⟩ := plainElem_boolI h
  exact ⟨x, hx⟩

end Go.Proofs.YtldjieplbeflfaaGreat
