/-
  Rows that are picked, each once; the set of those that were.
-/
import Derived.Test.YtbidimaljeblgacCAlive
import Derived.Maps.Own
import Derived.Maps.Views
namespace Go.Proofs.Ytbidimaljeblgac
open Go.RowKit Go.Maps

theorem keyed : Keyed Try.prog 3 := int_keyed Try.underlying3
theorem Try.zeroBool (w : World) : (zeroValue 4).run Try.prog w = .ok (.bool false) w := by kernel_rfl
theorem Try.mapIntBool : Try.prog.underlying 35 = some (.map 3 4) := by kernel_rfl

/-- Block b is a map whose keys, as far as it tells true of them, are the list's. -/
def Had (w : World) (b m N : Nat) (P : List Nat) : Prop := ∃ D : DataW Unit, w.ownsMap Try.prog 3 (plainElem Try.prog 4) b m D ∧ ∀ j : Nat, j < N → D.atKey (.int .i64 (j : Int)) (.lit (.bool false)) = .lit (.bool (decide (j ∈ P)))

theorem plainElem_bool_inv {v : Value} {z : DataW Unit × List MemPlace} (h : plainElem Try.prog 4 v = some z) : ∃ x, v = .bool x ∧ z = (.lit (.bool x), []) := by
  unfold plainElem at h
  rw [Try.underlying4] at h
  cases v <;> simp at h
  subst h
  exact ⟨_, rfl, rfl⟩
theorem key64 (j : Nat) (h : j < 1000) : keyOf Try.prog 3 (.int .i64 (j : Int)) = some (.int .i64 (j : Int)) := keyOf_int_mk Try.underlying3 (WalkArith.wf_i64 (by omega))

theorem had_start (w : World) (N : Nat) : Had (w.alloc (.map #[] 0)) w.heap.size 0 N [] := ⟨.map [], World.ownsMap_made _ _ _ _, fun j _ => by simp; rfl⟩
theorem Had.look {w : World} {b m N : Nat} {P : List Nat} (h : Had w b m N P) (k : Nat) (hk : k < N) (hN : N ≤ 1000) : (Instr.lookup 35 (.map (some b)) (.int .i64 (k : Int)) false).run Try.prog w = .ok (.bool (decide (k ∈ P))) w := by
  obtain ⟨D, hown, hat⟩ := h
  obtain ⟨v, ps, hrun, hv⟩ := hown.lookup keyed Try.mapIntBool (Try.zeroBool w) (plainElem_bool Try.underlying4 false) (key64 k (by omega))
  obtain ⟨x, rfl, hz⟩ := plainElem_bool_inv hv
  rw [hat k hk] at hz
  simp at hz
  rw [hrun, hz.1]
theorem Had.put {w' : World} {b m N k : Nat} {P : List Nat} {D : DataW Unit} (hat : ∀ j : Nat, j < N → D.atKey (.int .i64 (j : Int)) (.lit (.bool false)) = .lit (.bool (decide (j ∈ P)))) (hD : IsMap D)
    (h : w'.ownsMap Try.prog 3 (plainElem Try.prog 4) b m (D.put (.int .i64 (k : Int)) (.lit (.bool true)))) : Had w' b m N (P ++ [k]) := by
  refine ⟨_, h, fun j hj => ?_⟩
  by_cases e : j = k
  · subst e
    rw [atKey_put_same (k := .int .i64 (j : Int)) hD trivial]
    simp
  · rw [atKey_put_other (fun h => by simp at h; omega), hat j hj]
    simp [e]
theorem Had.kept {w w' : World} {b m N : Nat} {P : List Nat} {row : Option Nat} (h : Had w b m N P) (hg : w.grownBy w' row) (hne : some b ≠ row) : Had w' b m N P := by
  obtain ⟨D, hown, hat⟩ := h
  exact ⟨D, hown.kept hg hne, hat⟩
theorem Had.alloc {w : World} {b m N : Nat} {P : List Nat} (h : Had w b m N P) (o : Obj) : Had (w.alloc o) b m N P := by
  obtain ⟨D, hown, hat⟩ := h
  exact ⟨D, hown.alloc o, hat⟩
theorem Had.lt {w : World} {b m N : Nat} {P : List Nat} (h : Had w b m N P) : b < w.heap.size := by
  obtain ⟨D, hown, _⟩ := h
  exact hown.lt
theorem isMap_of {w : World} {b m : Nat} {D : DataW Unit} (h : w.ownsMap Try.prog 3 (plainElem Try.prog 4) b m D) : IsMap D := by
  obtain ⟨es, clock, _, _, _, hD⟩ := h
  exact ⟨_, hD⟩
/-- A map's block is no list's. -/
theorem had_ne {w : World} {b m M N n : Nat} {P : List Nat} {v : Value} {xs : List Value} (h : Had w b m M P) (ho : w.ownsRow N 24 1 v n xs) : some b ≠ v.ownBlock := fun e => by
  obtain ⟨D, ⟨es, clock, hb, _⟩, _⟩ := h
  rcases ho.2 with ⟨rfl, _⟩ | ⟨g, cap, cur, rfl, _, hg, _⟩
  · simp [Value.ownBlock] at e
  · simp [Value.ownBlock] at e
    subst e
    rw [hb] at hg
    cases hg

theorem owns_shape {w : World} {N n : Nat} {t : TypeId} {v : Value} {xs : List Value} (ho : w.ownsRow N t 1 v n xs) : ∃ A cap, v = .slice A n cap := by
  rcases ho.2 with ⟨rfl, rfl⟩ | ⟨g, cap, _, rfl, _⟩
  · exact ⟨none, 0, rfl⟩
  · exact ⟨_, cap, rfl⟩
theorem nodup_snoc {P : List Nat} {k : Nat} (h : P.Nodup) (hk : ¬ k ∈ P) : (P ++ [k]).Nodup := by
  rw [List.nodup_append]
  refine ⟨h, by simp, fun a ha b hb e => ?_⟩
  simp at hb
  subst hb
  subst e
  exact hk ha

theorem pick_undo {n : Nat} {P : List Nat} (h1 : 1 ≤ n) (h2 : n ≤ 8) (hn : P.length = n) (hP : P.Nodup) (hlt : ∀ r, r ∈ P → r < 12) (w : World) (v : Value) (ha : Arg w v P.length (fun _ => n) (fun p => Gf.rowF n (P.getD p 0))) :
    Calls Try.prog 10 #[v] w fun e w' => ∃ v', e = .returned (.tuple #[v', .int .i64 0]) ∧ Below w.heap.size w w' := by
  rw [hn] at ha
  have mx := ha.mx (wrongE_ok h1 (by omega) h1 (by omega) (fun _ _ => rfl))
  refine (undo_any v n _ w mx).mono fun e w' ⟨hh, hb⟩ => ?_
  rcases hh with ⟨v', r, q1, _, _⟩ | ⟨_, hs⟩
  · exact ⟨v', q1, hb⟩
  · have mem : ∀ p, p < n → P.getD p 0 ∈ P := fun p hp => by
      have : p < P.length := by omega
      simp [List.getD, this]
    refine (Gf.rows_not_sing (n := n) (pick := fun p => P.getD p 0) (by omega) (fun p hp => by have h9 : P.getD p 0 < 12 := hlt _ (mem p hp); show P.getD p 0 < 256; omega) (fun p q hp hq hne e => ?_) hs).elim
    have hp' : p < P.length := by omega
    have hq' : q < P.length := by omega
    simp only [List.getD, List.getElem?_eq_getElem hp', List.getElem?_eq_getElem hq', Option.getD_some] at e
    exact hne ((List.getElem_inj hP).1 e)

end Go.Proofs.Ytbidimaljeblgac
