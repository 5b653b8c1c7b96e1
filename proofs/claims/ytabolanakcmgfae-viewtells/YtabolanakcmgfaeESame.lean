/-
  What the document's own SameEvents and SameBatches do, call by call.
-/
import Derived.Test.YtabolanakcmgfaeEMem
import Derived.Laws.StructEq
namespace Go.Proofs.Ytabolanakcmgfae
open Go.RowKit

theorem nb_inj {s s' : ByteArray} : nb s = nb s' ↔ s.toList = s'.toList := by
  unfold nb
  rw [ByteArray.toList_eq, ByteArray.toList_eq]
  constructor
  · intro h
    exact List.map_inj_right (fun a b e => UInt8.toNat_inj.1 e) |>.1 h
  · intro h
    rw [h]
theorem Try.isAggInt : (Try.prog.info? 3).map (fun i => i.size) = some 1 := by kernel_rfl

theorem fault_eql (a b c d : Int) (w : World) : (binOp .eql 36 (.agg #[.int .i64 a, .int .i64 b]) (.agg #[.int .i64 c, .int .i64 d])).run Try.prog w = .ok (.bool (a == c && b == d)) w := by
  have u3 := Try.underlying3
  have u9 := Try.underlying25
  have a3 := Try.isAgg3
  have z3 := Try.sizeOf3
  have a9 := Try.isAgg25
  have z9 := Try.sizeOf25
  have hS : Try.prog.underlying 36 = some (.struct (Try.prog.fieldsOf 36)) := by kernel_rfl
  have hp : Try.prog.stoodInHeld 36 = false := by kernel_rfl
  rw [run_eql_struct, show (10000 : Nat) = 9999 + 1 from rfl, run_equalIn_agg w 9999 36 _ _ hS hp]
  simp only [Program.fieldsOf, Try.underlying36]
  go_simp
  by_cases h1 : a = c <;> by_cases h2 : b = d <;> simp [h1, h2]

theorem ev_neq (s s' : ByteArray) (k k' m m' : Int) (w : World) : (binOp .neq 42 (.agg #[.string s, .int .i64 k, .int .i64 m]) (.agg #[.string s', .int .i64 k', .int .i64 m'])).run Try.prog w = .ok (.bool (!(s.toList == s'.toList && (k == k' && m == m')))) w := by
  have u3 := Try.underlying3
  have u9 := Try.underlying9
  have a3 := Try.isAgg3
  have z3 := Try.sizeOf3
  have a9 := Try.isAgg9
  have z9 := Try.sizeOf9
  have hS : Try.prog.underlying 42 = some (.struct (Try.prog.fieldsOf 42)) := by kernel_rfl
  have hp : Try.prog.stoodInHeld 42 = false := by kernel_rfl
  rw [run_neq_struct, show (10000 : Nat) = 9999 + 1 from rfl, run_equalIn_agg w 9999 42 _ _ hS hp]
  simp only [Program.fieldsOf, Try.underlying42]
  go_simp
  by_cases h1 : s.toList = s'.toList <;> by_cases h2 : k = k' <;> by_cases h3 : m = m' <;> simp [h1, h2, h3]

theorem ev_eq {s s' : ByteArray} {e e' : Evt.Ev} (h : nb s = e.name) (h' : nb s' = e'.name) : (s.toList == s'.toList && (e.kind == e'.kind && e.num == e'.num)) = true ↔ e = e' := by
  rw [Bool.and_eq_true, Bool.and_eq_true, beq_iff_eq, beq_iff_eq, beq_iff_eq, ← nb_inj, h, h']
  obtain ⟨n, k, m⟩ := e
  obtain ⟨n', k', m'⟩ := e'
  simp
theorem drew_drew (w : World) (m q : Nat) : (w.drewN m).drewN q = w.drewN (m + q) := by
  simp [World.drewN, Nat.add_assoc]
theorem list_eq_of {α : Type} {l l' : List α} (hl : l.length = l'.length) (h : ∀ j, j < l.length → l[j]? = l'[j]?) : l = l' := by
  apply List.ext_getElem?
  intro j
  by_cases hj : j < l.length
  · exact h j hj
  · rw [List.getElem?_eq_none (by omega), List.getElem?_eq_none (by omega)]


theorem drewN_below (w : World) (m : Nat) : Below w.heap.size w (w.drewN m) := ⟨rfl, rfl, rfl, Nat.le_refl _, fun _ _ => rfl⟩
theorem dn_trans {w wr : World} (h : ∃ m, wr = w.drewN m) (q : Nat) : ∃ m, wr.drewN q = w.drewN m := by
  obtain ⟨m, rfl⟩ := h
  exact ⟨_, drew_drew w m q⟩

end Go.Proofs.Ytabolanakcmgfae
