/-
  What the document's own SameBlock does, call by call; bytes as strings.
-/
import Derived.Test.YtfddjmkbejjhdacBRest
namespace Go.Proofs.Ytfddjmkbejjhdac
open Go.RowKit

/-- Bytes as a string. -/
def strB (f : Nat → Nat) (n : Nat) : ByteArray := strOfNums ((List.range n).map fun k => (f k : Int))
theorem strB_iff {n n' : Nat} {f f' : Nat → Nat} (hf : Bd f) (hg : Bd f') : (strB f n).toList = (strB f' n').toList ↔ n = n' ∧ ∀ k, k < n → f k = f' k := by
  constructor
  · intro h
    have hl : n = n' := by
      have := congrArg List.length h
      unfold strB at this
      rw [str_list, str_list] at this
      simpa using this
    subst hl
    exact ⟨rfl, (str_iff hf hg).1 h⟩
  · rintro ⟨rfl, h⟩
    exact (str_iff hf hg).2 h
theorem conv_zero (w : World) (A : Option Addr) (cap : Nat) : (convert 24 9 (.slice A 0 cap)).run Try.prog w = .ok (.string ByteArray.empty) w := by
  rw [run_convert_bytes_string w 24 9 5 _ 0 cap Try.underlying24 Try.underlying5 Try.underlying9]
  cases A with
  | none => simp [Conv.bytesToString]
  | some x => simp [Conv.bytesToString, loadCells]; rfl
theorem conv_any {w : World} {v : Value} {n : Nat} {f : Nat → Nat} (h : Byts w v n f) : (convert 24 9 v).run Try.prog w = .ok (.string (strB f n)) w := by
  by_cases hn : 1 ≤ n
  · obtain ⟨b, o, cap, rfl, _, _, hc⟩ := h.some hn
    exact run_convert_bytes_arg (P := Try.prog) w 24 5 Try.underlying24 Try.underlying5 b o n cap ((List.range n).map fun j => (f j : Int)) (by simp) (fun i hi => by rw [bytes_getD _ _ _ hi]; exact hc i hi) 9 Try.underlying9
  · obtain rfl : n = 0 := by omega
    obtain ⟨A, cap, rfl⟩ := h.zero
    exact conv_zero w A cap

/-- A block as a value: three numbers and n bytes. -/
def Blk (w : World) (v : Value) (s h z : Int) (n : Nat) (f : Nat → Nat) : Prop := ∃ d, v = .agg #[.int .i64 s, .int .i64 h, .int .i64 z, d] ∧ Byts w d n f
theorem Blk.below {w w' : World} {v : Value} {s h z : Int} {n : Nat} {f : Nat → Nat} (k : Blk w v s h z n f) (hb : Below w.heap.size w w') : Blk w' v s h z n f := by
  obtain ⟨d, hv, hd⟩ := k
  exact ⟨d, hv, hd.below hb⟩
/-- Two blocks are the same. -/
def SameP (s h z : Int) (n : Nat) (f : Nat → Nat) (s' h' z' : Int) (n' : Nat) (f' : Nat → Nat) : Prop := s = s' ∧ h = h' ∧ z = z' ∧ n = n' ∧ ∀ k, k < n → f k = f' k

set_option maxHeartbeats 400000 in
theorem same_blk (v v' : Value) (s h z s' h' z' : Int) (n n' : Nat) (f f' : Nat → Nat) (w : World) (hx : Blk w v s h z n f) (hy : Blk w v' s' h' z' n' f') :
    Calls Try.prog 23 #[v, v'] w fun e w' => Tell e (SameP s h z n f s' h' z' n' f') ∧ Below w.heap.size w w' := by
  obtain ⟨d, rfl, hd⟩ := hx
  obtain ⟨d', rfl, hd'⟩ := hy
  have hb1 : Below w.heap.size w (w.alloc (.cells #[.int .i64 s, .int .i64 h, .int .i64 z, d] 39)) := (Below.refl _ _).alloc (Nat.le_refl _) _
  have hb2 : Below w.heap.size w ((w.alloc (.cells #[.int .i64 s, .int .i64 h, .int .i64 z, d] 39)).alloc (.cells #[.int .i64 s', .int .i64 h', .int .i64 z', d'] 39)) := hb1.alloc hb1.size _
  have q1 := conv_any (hd.below hb2)
  have q2 := conv_any (hd'.below hb2)
  have HQ := strB_iff (n := n) (n' := n') hd.bd hd'.bd
  have HD : Hid ((strB f n).toList = (strB f' n').toList ↔ n = n' ∧ ∀ k, k < n → f k = f' k) := HQ
  clear HQ
  obtain ⟨_, A, C, rfl, _⟩ := hd
  obtain ⟨_, A', C', rfl, _⟩ := hd'
  generalize strB f n = S at q1 HD
  generalize strB f' n' = T at q2 HD
  by_cases e0 : s = s'
  case neg =>
    have H : Hid (¬ SameP s h z n f s' h' z' n' f') := fun k => e0 k.1
    have t0 : (s == s') = false := by rw [beq_eq_false_iff_ne]; exact e0
    clear e0 HD
    go_enter Try.func23, Try.ntmps23
    go_wp2_with fail
    go_ret
    exact ⟨tell_no H.out, hb2⟩
  have E0 : Hid (s = s') := e0
  have t0 : (s == s') = true := by rw [beq_iff_eq]; exact e0
  clear e0
  by_cases e1 : h = h'
  case neg =>
    have H : Hid (¬ SameP s h z n f s' h' z' n' f') := fun k => e1 k.2.1
    have t1 : (h == h') = false := by rw [beq_eq_false_iff_ne]; exact e1
    clear e1 HD
    go_enter Try.func23, Try.ntmps23
    go_wp2_with fail
    go_ret
    exact ⟨tell_no H.out, hb2⟩
  have E1 : Hid (h = h') := e1
  have t1 : (h == h') = true := by rw [beq_iff_eq]; exact e1
  clear e1
  by_cases e2 : z = z'
  case neg =>
    have H : Hid (¬ SameP s h z n f s' h' z' n' f') := fun k => e2 k.2.2.1
    have t2 : (z == z') = false := by rw [beq_eq_false_iff_ne]; exact e2
    clear e2 HD
    go_enter Try.func23, Try.ntmps23
    go_wp2_with fail
    go_ret
    exact ⟨tell_no H.out, hb2⟩
  have E2 : Hid (z = z') := e2
  have t2 : (z == z') = true := by rw [beq_iff_eq]; exact e2
  clear e2
  by_cases hst : S.toList = T.toList
  · have hst' : (S.toList == T.toList) = true := by rw [beq_iff_eq]; exact hst
    have H : Hid (SameP s h z n f s' h' z' n' f') := ⟨E0.out, E1.out, E2.out, HD.out.1 hst⟩
    clear hst HD
    go_enter Try.func23, Try.ntmps23
    go_wp2_with fail
    go_ret
    exact ⟨tell_yes H.out, hb2⟩
  · have hst' : (S.toList == T.toList) = false := by rw [beq_eq_false_iff_ne]; exact hst
    have H : Hid (¬ SameP s h z n f s' h' z' n' f') := fun k => hst (HD.out.2 k.2.2.2)
    clear hst HD
    go_enter Try.func23, Try.ntmps23
    go_wp2_with fail
    go_ret
    exact ⟨tell_no H.out, hb2⟩

end Go.Proofs.Ytfddjmkbejjhdac
