/-
  Bytes as strings. No function of the program is named here.
-/
import Derived.Test.YtniaffofeeieeadByt
namespace Go.Proofs.Ytniaffofeeieead
open Go.RowKit

theorem Byts.shape {w : World} {v : Value} {n : Nat} {f : Nat → Nat} (h : Byts w v n f) : ∃ A C, v = .slice A n C := by
  obtain ⟨_, A, C, hv, _⟩ := h
  exact ⟨A, C, hv⟩

/-- Bytes as a string. -/
def strB (f : Nat → Nat) (n : Nat) : ByteArray := strOfNums ((List.range n).map fun k => (f k : Int))
theorem strB_iff {n n' : Nat} {f f' : Nat → Nat} (hf : Bd f) (hg : Bd f') : (strB f n).toList = (strB f' n').toList ↔ n = n' ∧ ∀ k, k < n → f k = f' k := by
  constructor
  · intro h
    have hl : n = n' := by
      have := congrArg List.length h
      unfold strB at this
      rw [str_list, str_list] at this
      simpa using this
    subst hl
    exact ⟨rfl, (str_iff hf hg).1 h⟩
  · rintro ⟨rfl, h⟩
    exact (str_iff hf hg).2 h
theorem conv_zero (w : World) (A : Option Addr) (cap : Nat) : (convert 25 9 (.slice A 0 cap)).run Try.prog w = .ok (.string ByteArray.empty) w := by
  rw [run_convert_bytes_string w 25 9 5 _ 0 cap Try.underlying25 Try.underlying5 Try.underlying9]
  cases A with
  | none => simp [Conv.bytesToString]
  | some x => simp [Conv.bytesToString, loadCells]; rfl
theorem conv_any {w : World} {v : Value} {n : Nat} {f : Nat → Nat} (h : Byts w v n f) : (convert 25 9 v).run Try.prog w = .ok (.string (strB f n)) w := by
  by_cases hn : 1 ≤ n
  · obtain ⟨b, o, cap, rfl, _, _, hc⟩ := h.some hn
    exact run_convert_bytes_arg (P := Try.prog) w 25 5 Try.underlying25 Try.underlying5 b o n cap ((List.range n).map fun j => (f j : Int)) (by simp) (fun i hi => by rw [bytes_getD _ _ _ hi]; exact hc i hi) 9 Try.underlying9
  · obtain rfl : n = 0 := by omega
    obtain ⟨A, cap, rfl⟩ := h.zero
    exact conv_zero w A cap

theorem cells_new (w : World) (c : Array Value) (t : TypeId) : ∀ j u, c.toList[j]? = some u → (w.alloc (.cells c t)).cell? ((⟨w.heap.size, 0, none⟩ : Addr).add j) = some u := fun j u hj => by
  have hj' : c[j]? = some u := by simpa using hj
  obtain ⟨hlt, he⟩ := Array.getElem?_eq_some_iff.1 hj'
  have hr := World.rowIs_alloc w c t (fun i => c.getD i (.slice none 0 0)) (fun i hi => by simp [hi])
  rw [WideShapes.add_plain, Nat.zero_add, hr.cell hlt]
  simp [Array.getD, hlt, he]

end Go.Proofs.Ytniaffofeeieead
