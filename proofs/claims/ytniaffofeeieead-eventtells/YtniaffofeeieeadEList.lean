/-
  The bytes that Parse is handed, as a list: what is told of them place by place.
-/
import Derived.Test.YtniaffofeeieeadEBuf
namespace Go.Proofs.Ytniaffofeeieead
open Go.RowKit

/-- The first N of g. -/
def bl (g : Nat → Nat) (N : Nat) : List Nat := (List.range N).map g
theorem bl_len (g : Nat → Nat) (N : Nat) : (bl g N).length = N := by simp [bl]
theorem bl_get (g : Nat → Nat) {N i : Nat} (h : i < N) : (bl g N)[i]? = some (g i) := by simp [bl, h]
theorem bl_bytes {g : Nat → Nat} (hg : Bd g) (N : Nat) : Evt.Bytes (bl g N) := fun x hx => by
  obtain ⟨k, _, rfl⟩ := List.mem_map.1 hx
  exact hg k
theorem drop_cons (g : Nat → Nat) {N A : Nat} (h : A < N) : (bl g N).drop A = g A :: (bl g N).drop (A + 1) := by
  have hl : A < (bl g N).length := by rw [bl_len]; exact h
  rw [List.drop_eq_getElem_cons hl]
  congr 1
  have := bl_get g h
  rw [List.getElem?_eq_getElem hl, Option.some.injEq] at this
  exact this
theorem drop_none (g : Nat → Nat) {N A : Nat} (h : N ≤ A) : (bl g N).drop A = [] := List.drop_eq_nil_of_le (by rw [bl_len]; exact h)
theorem num1_yes (g : Nat → Nat) {N A : Nat} (h : A + 1 ≤ N) : Evt.num 1 0 ((bl g N).drop A) = some (numV g A 1, (bl g N).drop (A + 1)) := by
  rw [drop_cons g (by omega), Evt.num_one]
  show _ = some (256 * 0 + g A, _)
  rw [Nat.mul_zero, Nat.zero_add]
theorem num1_no (g : Nat → Nat) {N A : Nat} (h : N < A + 1) : Evt.num 1 0 ((bl g N).drop A) = none := by
  rw [drop_none g (by omega)]
  rfl
theorem num3_yes (g : Nat → Nat) {N A : Nat} (h : A + 3 ≤ N) : Evt.num 3 0 ((bl g N).drop A) = some (numV g A 3, (bl g N).drop (A + 3)) := by
  rw [drop_cons g (by omega), drop_cons g (show A + 1 < N by omega), drop_cons g (show A + 1 + 1 < N by omega)]
  rfl
theorem num3_no (g : Nat → Nat) {N A : Nat} (h : N < A + 3) : Evt.num 3 0 ((bl g N).drop A) = none := by
  by_cases h1 : A < N
  · rw [drop_cons g h1]
    by_cases h2 : A + 1 < N
    · rw [drop_cons g h2, drop_none g (by omega)]
      rfl
    · rw [drop_none g (by omega)]
      rfl
  · rw [drop_none g (by omega)]
    rfl
/-- The stream's bytes of the event at A. -/
def nameAt (g : Nat → Nat) (A : Nat) : List Nat := bl (fun k => g (A + 1 + k)) (g A)
theorem name_take (g : Nat → Nat) {N A n : Nat} (h : A + n ≤ N) : ((bl g N).drop A).take n = bl (fun k => g (A + k)) n := by
  apply List.ext_getElem?
  intro i
  rw [List.getElem?_take]
  by_cases hi : i < n
  · rw [if_pos hi, List.getElem?_drop, bl_get g (by omega), bl_get _ hi]
  · rw [if_neg hi, List.getElem?_eq_none (by rw [bl_len]; omega)]
theorem nb_strB {f : Nat → Nat} (hf : Bd f) (n : Nat) : nb (strB f n) = bl f n := by
  unfold nb bl
  rw [← ByteArray.toList_eq]
  unfold strB
  rw [str_list, List.map_map]
  apply List.map_congr_left
  intro k _
  have := hf k
  show (UInt8.ofNat (f k)).toNat = f k
  rw [UInt8.toNat_ofNat']
  omega

/-- What is told of an event at A. -/
theorem getE_some {g : Nat → Nat} {N A : Nat} (h : A + 5 + g A ≤ N) : Evt.getE ((bl g N).drop A) = some (⟨nameAt g A, (g (A + 1 + g A) : Nat), (numV g (A + 2 + g A) 3 : Nat)⟩, (bl g N).drop (A + 5 + g A)) := by
  unfold Evt.getE
  rw [num1_yes g (by omega)]
  have e1 : numV g A 1 = g A := by
    show 256 * 0 + g (A + 0) = _
    rw [Nat.mul_zero, Nat.zero_add, Nat.add_zero]
  rw [e1]
  show (if ((bl g N).drop (A + 1)).length < g A then none else _) = _
  rw [if_neg (by rw [List.length_drop, bl_len]; omega), List.drop_drop, num1_yes g (by omega)]
  have e2 : numV g (A + 1 + g A) 1 = g (A + 1 + g A) := by
    show 256 * 0 + g (A + 1 + g A + 0) = _
    rw [Nat.mul_zero, Nat.zero_add, Nat.add_zero]
  rw [e2]
  show (match Evt.num 3 0 ((bl g N).drop (A + 1 + g A + 1)) with | none => none | some (m, r'') => some ((⟨((bl g N).drop (A + 1)).take (g A), ((g (A + 1 + g A) : Nat) : Int), (m : Int)⟩ : Evt.Ev), r'')) = _
  rw [show A + 1 + g A + 1 = A + 2 + g A by omega, num3_yes g (by omega), name_take g (by omega), show A + 2 + g A + 3 = A + 5 + g A by omega]
  rfl
theorem getE_none {g : Nat → Nat} {N A : Nat} (h : N < A + 5 + g A ∨ N ≤ A) : Evt.getE ((bl g N).drop A) = none := by
  unfold Evt.getE
  by_cases h1 : A + 1 ≤ N
  · rw [num1_yes g h1]
    have e1 : numV g A 1 = g A := by
      show 256 * 0 + g (A + 0) = _
      rw [Nat.mul_zero, Nat.zero_add, Nat.add_zero]
    rw [e1]
    show (if ((bl g N).drop (A + 1)).length < g A then none else match Evt.num 1 0 (((bl g N).drop (A + 1)).drop (g A)) with | none => none | some (k, r') => match Evt.num 3 0 r' with | none => none | some (m, r'') => some ((⟨((bl g N).drop (A + 1)).take (g A), (k : Int), (m : Int)⟩ : Evt.Ev), r'')) = none
    by_cases h2 : ((bl g N).drop (A + 1)).length < g A
    · rw [if_pos h2]
    · rw [if_neg h2, List.drop_drop]
      rw [List.length_drop, bl_len] at h2
      by_cases h3 : A + 1 + g A + 1 ≤ N
      · rw [num1_yes g h3]
        show (match Evt.num 3 0 ((bl g N).drop (A + 1 + g A + 1)) with | none => none | some (m, r'') => some ((⟨((bl g N).drop (A + 1)).take (g A), ((numV g (A + 1 + g A) 1 : Nat) : Int), (m : Int)⟩ : Evt.Ev), r'')) = none
        rw [num3_no g (by omega)]
      · rw [num1_no g (by omega)]
  · rw [num1_no g (by omega)]

end Go.Proofs.Ytniaffofeeieead
