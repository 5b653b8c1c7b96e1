/-
  Bytes as strings. No function of the program is named here.
-/
import Derived.Test.YtabolanakcmgfaeByt
import Derived.Lib.ConvBytes
namespace Go.Proofs.Ytabolanakcmgfae
open Go.RowKit

theorem Byts.shape {w : World} {v : Value} {n : Nat} {f : Nat → Nat} (h : Byts w v n f) : ∃ A C, v = .slice A n C := by
  obtain ⟨_, A, C, hv, _⟩ := h
  exact ⟨A, C, hv⟩

/-- Bytes as a string. -/
def strB (f : Nat → Nat) (n : Nat) : ByteArray := strOfNums ((List.range n).map fun k => (f k : Int))
theorem strB_iff {n n' : Nat} {f f' : Nat → Nat} (hf : Bd f) (hg : Bd f') : (strB f n).toList = (strB f' n').toList ↔ n = n' ∧ ∀ k, k < n → f k = f' k := by
  constructor
  · intro h
    have hl : n = n' := by
      have := congrArg List.length h
      unfold strB at this
      rw [str_list, str_list] at this
      simpa using this
    subst hl
    exact ⟨rfl, (str_iff hf hg).1 h⟩
  · rintro ⟨rfl, h⟩
    exact (str_iff hf hg).2 h
theorem conv_zero (w : World) (A : Option Addr) (cap : Nat) : (convert 22 9 (.slice A 0 cap)).run Try.prog w = .ok (.string ByteArray.empty) w := by
  rw [run_convert_bytes_string w 22 9 5 _ 0 cap Try.underlying22 Try.underlying5 Try.underlying9]
  cases A with
  | none => simp [Conv.bytesToString]
  | some x => simp [Conv.bytesToString, loadCells]; rfl
theorem conv_any {w : World} {v : Value} {n : Nat} {f : Nat → Nat} (h : Byts w v n f) : (convert 22 9 v).run Try.prog w = .ok (.string (strB f n)) w := by
  by_cases hn : 1 ≤ n
  · obtain ⟨b, o, cap, rfl, _, _, hc⟩ := h.some hn
    exact run_convert_bytes_arg (P := Try.prog) w 22 5 Try.underlying22 Try.underlying5 b o n cap ((List.range n).map fun j => (f j : Int)) (by simp) (fun i hi => by rw [bytes_getD _ _ _ hi]; exact hc i hi) 9 Try.underlying9
  · obtain rfl : n = 0 := by omega
    obtain ⟨A, cap, rfl⟩ := h.zero
    exact conv_zero w A cap

theorem cells_new (w : World) (c : Array Value) (t : TypeId) : ∀ j u, c.toList[j]? = some u → (w.alloc (.cells c t)).cell? ((⟨w.heap.size, 0, none⟩ : Addr).add j) = some u := fun j u hj => by
  have hj' : c[j]? = some u := by simpa using hj
  obtain ⟨hlt, he⟩ := Array.getElem?_eq_some_iff.1 hj'
  have hr := World.rowIs_alloc w c t (fun i => c.getD i (.slice none 0 0)) (fun i hi => by simp [hi])
  rw [WideShapes.add_plain, Nat.zero_add, hr.cell hlt]
  simp [Array.getD, hlt, he]

/-- The string of bytes. -/
def strL (t : List Nat) : ByteArray := strB (fun k => t.getD k 0) t.length
theorem strL_list (t : List Nat) : (strL t).toList = t.map UInt8.ofNat := by
  unfold strL strB
  rw [str_list]
  apply List.ext_getElem?
  intro i
  by_cases hi : i < t.length
  · simp [hi, List.getD]
  · rw [List.getElem?_eq_none (by simpa using hi), List.getElem?_eq_none (by simpa using hi)]
theorem strL_size (t : List Nat) : (strL t).size = t.length := by
  have h := congrArg List.length (strL_list t)
  rw [List.length_map, ByteArray.toList_eq, Array.length_toList] at h
  exact h
theorem strL_app (a b : List Nat) : (strL a ++ strL b).toList = (strL (a ++ b)).toList := by
  rw [strL_list, List.map_append, ← strL_list, ← strL_list]
  simp only [ByteArray.toList_eq, ByteArray.data_append, Array.toList_append]
theorem strL_cat (a b : List Nat) : strL a ++ strL b = strL (a ++ b) := by
  refine ByteArray.ext (Array.ext' ?_)
  rw [← ByteArray.toList_eq, ← ByteArray.toList_eq]
  exact strL_app a b
/-- The first n of g. -/
theorem strB_list (g : Nat → Nat) (n : Nat) : strB g n = strL ((List.range n).map g) := by
  unfold strL strB
  rw [List.length_map, List.length_range]
  congr 1
  refine List.map_congr_left (fun k hk => ?_)
  have := List.mem_range.1 hk
  simp [List.getD, this]

theorem flat_get {α β : Type} (f : α → List β) (m : Nat) : ∀ (l : List α), (∀ a, a ∈ l → (f a).length = m) → ∀ (i t : Nat), t < m → ∀ a, l[i]? = some a → (l.flatMap f)[i * m + t]? = (f a)[t]?
  | [], _, i, t, _, a, h => by cases h
  | x :: l, hm, 0, t, ht, a, h => by
    cases h
    rw [List.flatMap_cons, Nat.zero_mul, Nat.zero_add, List.getElem?_append_left (by rw [hm x List.mem_cons_self]; exact ht)]
  | x :: l, hm, i + 1, t, ht, a, h => by
    have hx := hm x List.mem_cons_self
    rw [List.flatMap_cons, List.getElem?_append_right (by rw [hx, Nat.succ_mul]; omega), hx, show (i + 1) * m + t - m = i * m + t by rw [Nat.succ_mul]; omega]
    exact flat_get f m l (fun a ha => hm a (List.mem_cons_of_mem _ ha)) i t ht a (by simpa using h)
theorem flat_len {α β : Type} (f : α → List β) (m : Nat) : ∀ (l : List α), (∀ a, a ∈ l → (f a).length = m) → (l.flatMap f).length = l.length * m
  | [], _ => by simp
  | x :: l, hm => by
    rw [List.flatMap_cons, List.length_append, hm x List.mem_cons_self, flat_len f m l (fun a ha => hm a (List.mem_cons_of_mem _ ha)), List.length_cons, Nat.succ_mul]
    omega
theorem bytesWorld_below (w : World) (e : TypeId) (s : ByteArray) : Below w.heap.size w (Lib.bytesWorld w e s) :=
  ⟨rfl, rfl, rfl, by rw [Lib.bytesWorld_size]; omega, fun k hk => Lib.bytesWorld_at_old w e s k hk⟩

end Go.Proofs.Ytabolanakcmgfae
