/-
  What the document's own WrongEvent does, call by call.
-/
import Derived.Test.YtabolanakcmgfaeENamed
namespace Go.Proofs.Ytabolanakcmgfae
open Go.RowKit

/-- The three cells of an event's variable. -/
structure VarE (w : World) (p : Nat) (a b c : Value) : Prop where
  c0 : w.cell? ⟨p, 0, none⟩ = some a
  c1 : w.cell? ⟨p, 1, none⟩ = some b
  c2 : w.cell? ⟨p, 2, none⟩ = some c
theorem varE_new (w : World) (a b c : Value) : VarE (w.alloc (.cells #[a, b, c] 42)) w.heap.size a b c := by
  have hr := World.rowIs_alloc w #[a, b, c] 42 (fun k => #[a, b, c].getD k a) (fun i hi => by simp only [Array.getElem?_eq_getElem hi, Array.getD, hi, dif_pos]; rfl)
  exact ⟨hr.cell (i := 0) (by simp), hr.cell (i := 1) (by simp), hr.cell (i := 2) (by simp)⟩
theorem VarE.below {w w' : World} {p : Nat} {a b c : Value} (h : VarE w p a b c) (hb : Below w.heap.size w w') : VarE w' p a b c := by
  have hp : p < w.heap.size := World.block_lt_of_cell? _ _ h.c0
  exact ⟨(hb.cell (p := ⟨p, 0, none⟩) hp).trans h.c0, (hb.cell (p := ⟨p, 1, none⟩) hp).trans h.c1, (hb.cell (p := ⟨p, 2, none⟩) hp).trans h.c2⟩

set_option maxHeartbeats 1000000 in
theorem refWrongE_any (s : ByteArray) (k m : Int) (w : World) (hs : s.size ≤ 9223372036854775807) :
    Calls Try.prog 15 #[.agg #[.string s, .int .i64 k, .int .i64 m]] w fun e w' => e = .returned (.int .i64 (Evt.wrongE ⟨nb s, k, m⟩ : Nat)) ∧ Below w.heap.size w w' := by
  have HN := fun w' => refNamed_any s w' hs
  have hb0 : Below w.heap.size w (w.alloc (.cells #[.string s, .int .i64 k, .int .i64 m] 42)) := (Below.refl _ _).alloc (Nat.le_refl _) _
  have V0 := varE_new w (.string s) (.int .i64 k) (.int .i64 m)
  by_cases hn0 : Evt.named (nb s)
  case neg =>
    have hn : Hid (¬ Evt.named (nb s)) := hn0
    have H : Hid (Evt.wrongE ⟨nb s, k, m⟩ = 7) := Evt.wrongE_name hn0
    clear hn0
    go_enter Try.func15, Try.ntmps15
    go_wp2_with fail
    refine (HN _).mono ?_
    rintro e w1 ⟨⟨y, rfl, hy⟩, b1⟩
    obtain ⟨c0, c1, c2⟩ := V0.below b1
    have b1 := bt hb0 b1
    obtain rfl : y = false := by cases y with | false => rfl | true => exact absurd (hy.1 rfl) hn.out
    clear hy HN V0
    go_wp2_with fail
    go_ret
    exact ⟨ret_int (by rw [H.out]; rfl), b1⟩
  have hn : Hid (Evt.named (nb s)) := hn0
  clear hn0
  by_cases q0 : k < 1
  · have H : Hid (Evt.wrongE ⟨nb s, k, m⟩ = 1) := Evt.wrongE_kind hn.out (Or.inl q0)
    go_enter Try.func15, Try.ntmps15
    go_wp2_with fail
    refine (HN _).mono ?_
    rintro e w1 ⟨⟨y, rfl, hy⟩, b1⟩
    obtain ⟨c0, c1, c2⟩ := V0.below b1
    have b1 := bt hb0 b1
    obtain rfl : y = true := hy.2 hn.out
    clear hy HN V0
    go_wp2_with fail
    go_ret
    exact ⟨ret_int (by rw [H.out]; rfl), b1⟩
  by_cases q1 : 4 < k
  · have H : Hid (Evt.wrongE ⟨nb s, k, m⟩ = 1) := Evt.wrongE_kind hn.out (Or.inr q1)
    go_enter Try.func15, Try.ntmps15
    go_wp2_with fail
    refine (HN _).mono ?_
    rintro e w1 ⟨⟨y, rfl, hy⟩, b1⟩
    obtain ⟨c0, c1, c2⟩ := V0.below b1
    have b1 := bt hb0 b1
    obtain rfl : y = true := hy.2 hn.out
    clear hy HN V0
    go_wp2_with fail
    go_ret
    exact ⟨ret_int (by rw [H.out]; rfl), b1⟩
  have hk : Hid (¬ (k < 1 ∨ 4 < k)) := show ¬ (_ ∨ _) by omega
  by_cases q2 : m < 0
  · have H : Hid (Evt.wrongE ⟨nb s, k, m⟩ = 3) := Evt.wrongE_range hn.out hk.out (Or.inl q2)
    go_enter Try.func15, Try.ntmps15
    go_wp2_with fail
    refine (HN _).mono ?_
    rintro e w1 ⟨⟨y, rfl, hy⟩, b1⟩
    obtain ⟨c0, c1, c2⟩ := V0.below b1
    have b1 := bt hb0 b1
    obtain rfl : y = true := hy.2 hn.out
    clear hy HN V0
    go_wp2_with fail
    go_ret
    exact ⟨ret_int (by rw [H.out]; rfl), b1⟩
  by_cases q3 : 1000000 < m
  · have H : Hid (Evt.wrongE ⟨nb s, k, m⟩ = 3) := Evt.wrongE_range hn.out hk.out (Or.inr (Or.inl q3))
    go_enter Try.func15, Try.ntmps15
    go_wp2_with fail
    refine (HN _).mono ?_
    rintro e w1 ⟨⟨y, rfl, hy⟩, b1⟩
    obtain ⟨c0, c1, c2⟩ := V0.below b1
    have b1 := bt hb0 b1
    obtain rfl : y = true := hy.2 hn.out
    clear hy HN V0
    go_wp2_with fail
    go_ret
    exact ⟨ret_int (by rw [H.out]; rfl), b1⟩
  by_cases q4 : m = 0
  · have H : Hid (Evt.wrongE ⟨nb s, k, m⟩ = 0) := Evt.wrongE_ok hn.out hk.out (show ¬ (m < 0 ∨ 1000000 < m ∨ (0 < m ∧ k ≠ 2 ∧ k ≠ 3)) by omega)
    have g4 : ¬ 0 < m := by omega
    clear q4
    go_enter Try.func15, Try.ntmps15
    go_wp2_with fail
    refine (HN _).mono ?_
    rintro e w1 ⟨⟨y, rfl, hy⟩, b1⟩
    obtain ⟨c0, c1, c2⟩ := V0.below b1
    have b1 := bt hb0 b1
    obtain rfl : y = true := hy.2 hn.out
    clear hy HN V0
    go_wp2_with fail
    go_ret
    exact ⟨ret_int (by rw [H.out]; rfl), b1⟩
  have g4 : 0 < m := by omega
  by_cases q5 : k = 2
  · have H : Hid (Evt.wrongE ⟨nb s, k, m⟩ = 0) := Evt.wrongE_ok hn.out hk.out (show ¬ (m < 0 ∨ 1000000 < m ∨ (0 < m ∧ k ≠ 2 ∧ k ≠ 3)) by omega)
    have g5 : (k != 2) = false := by rw [q5]; rfl
    clear q5
    go_enter Try.func15, Try.ntmps15
    go_wp2_with fail
    refine (HN _).mono ?_
    rintro e w1 ⟨⟨y, rfl, hy⟩, b1⟩
    obtain ⟨c0, c1, c2⟩ := V0.below b1
    have b1 := bt hb0 b1
    obtain rfl : y = true := hy.2 hn.out
    clear hy HN V0
    go_wp2_with fail
    go_ret
    exact ⟨ret_int (by rw [H.out]; rfl), b1⟩
  have g5 : (k != 2) = true := by rw [bne_iff_ne]; exact q5
  by_cases q6 : k = 3
  · have H : Hid (Evt.wrongE ⟨nb s, k, m⟩ = 0) := Evt.wrongE_ok hn.out hk.out (show ¬ (m < 0 ∨ 1000000 < m ∨ (0 < m ∧ k ≠ 2 ∧ k ≠ 3)) by omega)
    have g6 : (k != 3) = false := by rw [q6]; rfl
    clear q6
    go_enter Try.func15, Try.ntmps15
    go_wp2_with fail
    refine (HN _).mono ?_
    rintro e w1 ⟨⟨y, rfl, hy⟩, b1⟩
    obtain ⟨c0, c1, c2⟩ := V0.below b1
    have b1 := bt hb0 b1
    obtain rfl : y = true := hy.2 hn.out
    clear hy HN V0
    go_wp2_with fail
    go_ret
    exact ⟨ret_int (by rw [H.out]; rfl), b1⟩
  have g6 : (k != 3) = true := by rw [bne_iff_ne]; exact q6
  have H : Hid (Evt.wrongE ⟨nb s, k, m⟩ = 3) := Evt.wrongE_range hn.out hk.out (Or.inr (Or.inr ⟨g4, q5, q6⟩))
  clear q5 q6
  go_enter Try.func15, Try.ntmps15
  go_wp2_with fail
  refine (HN _).mono ?_
  rintro e w1 ⟨⟨y, rfl, hy⟩, b1⟩
  obtain ⟨c0, c1, c2⟩ := V0.below b1
  have b1 := bt hb0 b1
  obtain rfl : y = true := hy.2 hn.out
  clear hy HN V0
  go_wp2_with fail
  go_ret
  exact ⟨ret_int (by rw [H.out]; rfl), b1⟩

end Go.Proofs.Ytabolanakcmgfae
