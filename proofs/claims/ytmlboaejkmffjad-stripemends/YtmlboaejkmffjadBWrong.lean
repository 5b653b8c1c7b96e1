/-
  What block.Wrong, the document's own WrongBlock and SameBlock do, call by call.
-/
import Derived.Test.YtmlboaejkmffjadBSum
import Derived.Test.YtmlboaejkmffjadBPure
namespace Go.Proofs.Ytmlboaejkmffjad
open Go.RowKit

set_option maxHeartbeats 400000 in
theorem wrong_blk (s h z : Int) (A : Option Addr) (n cap : Nat) (w : World) :
    Calls Try.prog 84 #[.agg #[.int .i64 s, .int .i64 h, .int .i64 z, .slice A n cap]] w fun e w' => e = .returned (.int .i64 (Crc.wrongB s h z n : Nat)) ∧ Below w.heap.size w w' := by
  by_cases c0 : s < 0
  · have H : Hid (Crc.wrongB s h z n = 3) := Crc.wrongB_range (by omega)
    go_enter Try.func84, Try.ntmps84
    go_wp2_with fail
    go_ret
    exact ⟨ret_int (by rw [H.out]; rfl), (Below.refl _ _).alloc (Nat.le_refl _) _⟩
  by_cases c1 : 39 < s
  · have H : Hid (Crc.wrongB s h z n = 3) := Crc.wrongB_range (by omega)
    go_enter Try.func84, Try.ntmps84
    go_wp2_with fail
    go_ret
    exact ⟨ret_int (by rw [H.out]; rfl), (Below.refl _ _).alloc (Nat.le_refl _) _⟩
  by_cases c2 : h < 0
  · have H : Hid (Crc.wrongB s h z n = 3) := Crc.wrongB_range (by omega)
    go_enter Try.func84, Try.ntmps84
    go_wp2_with fail
    go_ret
    exact ⟨ret_int (by rw [H.out]; rfl), (Below.refl _ _).alloc (Nat.le_refl _) _⟩
  by_cases c3 : 11 < h
  · have H : Hid (Crc.wrongB s h z n = 3) := Crc.wrongB_range (by omega)
    go_enter Try.func84, Try.ntmps84
    go_wp2_with fail
    go_ret
    exact ⟨ret_int (by rw [H.out]; rfl), (Below.refl _ _).alloc (Nat.le_refl _) _⟩
  by_cases c4 : z < 0
  · have H : Hid (Crc.wrongB s h z n = 3) := Crc.wrongB_range (by omega)
    go_enter Try.func84, Try.ntmps84
    go_wp2_with fail
    go_ret
    exact ⟨ret_int (by rw [H.out]; rfl), (Below.refl _ _).alloc (Nat.le_refl _) _⟩
  by_cases c5 : 3200 < z
  · have H : Hid (Crc.wrongB s h z n = 3) := Crc.wrongB_range (by omega)
    go_enter Try.func84, Try.ntmps84
    go_wp2_with fail
    go_ret
    exact ⟨ret_int (by rw [H.out]; rfl), (Below.refl _ _).alloc (Nat.le_refl _) _⟩
  by_cases c6 : n < 1
  · have H : Hid (Crc.wrongB s h z n = 5) := Crc.wrongB_many (by omega) (by omega)
    have c6' : n = 0 := by omega
    subst c6'
    go_enter Try.func84, Try.ntmps84
    go_wp2_with fail
    go_ret
    exact ⟨ret_int (by rw [H.out]; rfl), (Below.refl _ _).alloc (Nat.le_refl _) _⟩
  by_cases c7 : 400 < n
  · have H : Hid (Crc.wrongB s h z n = 5) := Crc.wrongB_many (by omega) (by omega)
    have c7' : (400 : Int) < (n : Int) := by omega
    have c8' : ¬ (n : Int) < 1 := by omega
    have c9' : ((n : Int) == 0) = false := by rw [beq_eq_false_iff_ne]; omega
    go_enter Try.func84, Try.ntmps84
    go_wp2_with fail
    go_ret
    exact ⟨ret_int (by rw [H.out]; rfl), (Below.refl _ _).alloc (Nat.le_refl _) _⟩
  have H : Hid (Crc.wrongB s h z n = 0) := Crc.wrongB_ok (by omega) (by omega)
  have c7' : ¬ (400 : Int) < (n : Int) := by omega
  have c8' : ¬ (n : Int) < 1 := by omega
  have c9' : ((n : Int) == 0) = false := by rw [beq_eq_false_iff_ne]; omega
  go_enter Try.func84, Try.ntmps84
  go_wp2_with fail
  go_ret
  exact ⟨ret_int (by rw [H.out]; rfl), (Below.refl _ _).alloc (Nat.le_refl _) _⟩

set_option maxHeartbeats 400000 in
theorem refWrong_blk (s h z : Int) (A : Option Addr) (n cap : Nat) (w : World) :
    Calls Try.prog 67 #[.agg #[.int .i64 s, .int .i64 h, .int .i64 z, .slice A n cap]] w fun e w' => e = .returned (.int .i64 (Crc.wrongB s h z n : Nat)) ∧ Below w.heap.size w w' := by
  by_cases c0 : s < 0
  · have H : Hid (Crc.wrongB s h z n = 3) := Crc.wrongB_range (by omega)
    go_enter Try.func67, Try.ntmps67
    go_wp2_with fail
    go_ret
    exact ⟨ret_int (by rw [H.out]; rfl), (Below.refl _ _).alloc (Nat.le_refl _) _⟩
  by_cases c1 : 39 < s
  · have H : Hid (Crc.wrongB s h z n = 3) := Crc.wrongB_range (by omega)
    go_enter Try.func67, Try.ntmps67
    go_wp2_with fail
    go_ret
    exact ⟨ret_int (by rw [H.out]; rfl), (Below.refl _ _).alloc (Nat.le_refl _) _⟩
  by_cases c2 : h < 0
  · have H : Hid (Crc.wrongB s h z n = 3) := Crc.wrongB_range (by omega)
    go_enter Try.func67, Try.ntmps67
    go_wp2_with fail
    go_ret
    exact ⟨ret_int (by rw [H.out]; rfl), (Below.refl _ _).alloc (Nat.le_refl _) _⟩
  by_cases c3 : 11 < h
  · have H : Hid (Crc.wrongB s h z n = 3) := Crc.wrongB_range (by omega)
    go_enter Try.func67, Try.ntmps67
    go_wp2_with fail
    go_ret
    exact ⟨ret_int (by rw [H.out]; rfl), (Below.refl _ _).alloc (Nat.le_refl _) _⟩
  by_cases c4 : z < 0
  · have H : Hid (Crc.wrongB s h z n = 3) := Crc.wrongB_range (by omega)
    go_enter Try.func67, Try.ntmps67
    go_wp2_with fail
    go_ret
    exact ⟨ret_int (by rw [H.out]; rfl), (Below.refl _ _).alloc (Nat.le_refl _) _⟩
  by_cases c5 : 3200 < z
  · have H : Hid (Crc.wrongB s h z n = 3) := Crc.wrongB_range (by omega)
    go_enter Try.func67, Try.ntmps67
    go_wp2_with fail
    go_ret
    exact ⟨ret_int (by rw [H.out]; rfl), (Below.refl _ _).alloc (Nat.le_refl _) _⟩
  by_cases c6 : n < 1
  · have H : Hid (Crc.wrongB s h z n = 5) := Crc.wrongB_many (by omega) (by omega)
    have c6' : n = 0 := by omega
    subst c6'
    go_enter Try.func67, Try.ntmps67
    go_wp2_with fail
    go_ret
    exact ⟨ret_int (by rw [H.out]; rfl), (Below.refl _ _).alloc (Nat.le_refl _) _⟩
  by_cases c7 : 400 < n
  · have H : Hid (Crc.wrongB s h z n = 5) := Crc.wrongB_many (by omega) (by omega)
    have c7' : (400 : Int) < (n : Int) := by omega
    have c8' : ¬ (n : Int) < 1 := by omega
    have c9' : ((n : Int) == 0) = false := by rw [beq_eq_false_iff_ne]; omega
    go_enter Try.func67, Try.ntmps67
    go_wp2_with fail
    go_ret
    exact ⟨ret_int (by rw [H.out]; rfl), (Below.refl _ _).alloc (Nat.le_refl _) _⟩
  have H : Hid (Crc.wrongB s h z n = 0) := Crc.wrongB_ok (by omega) (by omega)
  have c7' : ¬ (400 : Int) < (n : Int) := by omega
  have c8' : ¬ (n : Int) < 1 := by omega
  have c9' : ((n : Int) == 0) = false := by rw [beq_eq_false_iff_ne]; omega
  go_enter Try.func67, Try.ntmps67
  go_wp2_with fail
  go_ret
  exact ⟨ret_int (by rw [H.out]; rfl), (Below.refl _ _).alloc (Nat.le_refl _) _⟩

end Go.Proofs.Ytmlboaejkmffjad
