/-
  What event.plain, event.Named, event.mostOf and event.Wrong do, call by call.
-/
import Derived.Test.YtabolanakcmgfaeEMem
namespace Go.Proofs.Ytabolanakcmgfae
open Go.RowKit

set_option maxHeartbeats 400000 in
theorem plain_any (x : Nat) (w : World) (hx : x < 256) : Calls Try.prog 40 #[.int .u8 (x : Int)] w fun e w' => Tell e (Evt.letter x = true) ∧ w' = w := by
  by_cases q0 : 97 ≤ x ∧ x ≤ 122
  · have H : Hid (Evt.letter x = true) := by
      show Evt.letter _ = true
      rw [Evt.letter_iff]
      omega
    have f1 : (97 : Int) ≤ (x : Int) := by omega
    have f2 : (x : Int) ≤ 122 := by omega
    go_enter Try.func40, Try.ntmps40
    go_wp2_with fail
    go_ret
    exact ⟨tell_yes H.out, rfl⟩
  by_cases q1 : 48 ≤ x ∧ x ≤ 57
  · have H : Hid (Evt.letter x = true) := by
      show Evt.letter _ = true
      rw [Evt.letter_iff]
      omega
    have f1 : ¬ (97 : Int) ≤ (x : Int) := by omega
    have f3 : (48 : Int) ≤ (x : Int) := by omega
    have f4 : (x : Int) ≤ 57 := by omega
    go_enter Try.func40, Try.ntmps40
    go_wp2_with fail
    go_ret
    exact ⟨tell_yes H.out, rfl⟩
  have H : Hid (¬ Evt.letter x = true) := by
    show ¬ Evt.letter _ = true
    rw [Evt.letter_iff]
    omega
  by_cases q2 : x < 48
  · have f1 : ¬ (97 : Int) ≤ (x : Int) := by omega
    have f3 : ¬ (48 : Int) ≤ (x : Int) := by omega
    go_enter Try.func40, Try.ntmps40
    go_wp2_with fail
    go_ret
    exact ⟨tell_no H.out, rfl⟩
  have f3 : (48 : Int) ≤ (x : Int) := by omega
  have f4 : ¬ (x : Int) ≤ 57 := by omega
  by_cases q3 : 122 < x
  · have f1 : (97 : Int) ≤ (x : Int) := by omega
    have f2 : ¬ (x : Int) ≤ 122 := by omega
    go_enter Try.func40, Try.ntmps40
    go_wp2_with fail
    go_ret
    exact ⟨tell_no H.out, rfl⟩
  · have f1 : ¬ (97 : Int) ≤ (x : Int) := by omega
    go_enter Try.func40, Try.ntmps40
    go_wp2_with fail
    go_ret
    exact ⟨tell_no H.out, rfl⟩

theorem ch_at (s : ByteArray) {k : Nat} (h : k < s.size) : ch s k = s[k].toNat := by
  have h' : k < s.data.size := h
  unfold ch
  have e : s.data.toList[k]? = some s.data[k] := by simp
  rw [List.getD_eq_getElem?_getD, e]
  rfl

set_option maxHeartbeats 400000 in
theorem named_any (s : ByteArray) (w : World) (hs : s.size ≤ 9223372036854775807) :
    Calls Try.prog 24 #[.string s] w fun e w' => Tell e (Evt.named (nb s)) ∧ w' = w := by
  by_cases p0 : s.size < 1
  · have HN : Hid (¬ Evt.named (nb s)) := fun q => by
      have := q.2.1
      rw [nb_len] at this
      omega
    have p0' : (s.size : Int) < 1 := by omega
    go_enter Try.func24, Try.ntmps24
    go_wp2_with fail
    go_ret
    exact ⟨tell_no HN.out, rfl⟩
  have p0' : ¬ (s.size : Int) < 1 := by omega
  by_cases p1 : 10 < s.size
  · have HN : Hid (¬ Evt.named (nb s)) := fun q => by
      have := q.2.2
      rw [nb_len] at this
      omega
    have p1' : (10 : Int) < (s.size : Int) := by omega
    go_enter Try.func24, Try.ntmps24
    go_wp2_with fail
    go_ret
    exact ⟨tell_no HN.out, rfl⟩
  have p1' : ¬ (10 : Int) < (s.size : Int) := by omega
  go_enter Try.func24, Try.ntmps24
  go_wp2_with fail
  go_loop [14] (fun x => ∃ k : Nat, k ≤ s.size ∧ x = .int .i64 k ∧ Hid (∀ j, j < k → Evt.letter (ch s j) = true)) (fun x => s.size - (intOf x).toNat)
  case atStart => exact ⟨0, Nat.zero_le _, rfl, fun j hj => absurd hj (Nat.not_lt_zero j)⟩
  case round =>
    obtain ⟨k, hk, rfl, HS⟩ := hrel
    by_cases hk2 : k < s.size
    · have hk3 : (k : Int) < (s.size : Int) := by omega
      have HC : Hid (ch s k = s[k].toNat) := ch_at s hk2
      have HP := plain_any s[k].toNat w (UInt8.toNat_lt _)
      by_cases hL : Evt.letter s[k].toNat = true
      · have HL : Hid (Evt.letter (ch s k) = true) := by
          show Evt.letter _ = true
          rw [HC.out]
          exact hL
        go_wp2_with fail
        refine HP.mono ?_
        rintro e w1 ⟨⟨y, rfl, hy⟩, rfl⟩
        obtain rfl : y = true := hy.2 hL
        clear hy HP hL
        go_wp2_with fail
        refine ⟨⟨k + 1, by omega, by go_num, fun j hj => ?_⟩, by simp [intOf]; omega⟩
        by_cases e : j = k
        · rw [e]; exact HL.out
        · exact HS.out j (by omega)
      · have HN : Hid (¬ Evt.named (nb s)) := not_named hk2 (by rw [HC.out]; exact hL)
        go_wp2_with fail
        refine HP.mono ?_
        rintro e w1 ⟨⟨y, rfl, hy⟩, rfl⟩
        obtain rfl : y = false := by cases y with | false => rfl | true => exact absurd (hy.1 rfl) hL
        clear hy HP hL
        go_wp2_with fail
        go_ret
        exact ⟨tell_no HN.out, rfl⟩
    · obtain rfl : k = s.size := by omega
      have HY : Hid (Evt.named (nb s)) := (named_iff s HS.out).2 ⟨by omega, by omega⟩
      go_wp2_with fail
      go_ret
      exact ⟨tell_yes HY.out, rfl⟩

/-- The most that N may be. -/
def mostV (k : Int) : Int := if k = 2 ∨ k = 3 then 1000000 else 0
set_option maxHeartbeats 400000 in
theorem most_any (k : Int) (w : World) : Calls Try.prog 51 #[.int .i64 k] w fun e w' => e = .returned (.tuple #[.int .i64 (mostV k), .bool (decide (1 ≤ k ∧ k ≤ 4))]) ∧ w' = w := by
  by_cases q1 : k = 1
  · subst q1
    go_enter Try.func51, Try.ntmps51
    go_wp2_with fail
    go_ret2
    exact ⟨rfl, rfl⟩
  by_cases q4 : k = 4
  · subst q4
    go_enter Try.func51, Try.ntmps51
    go_wp2_with fail
    go_ret2
    exact ⟨rfl, rfl⟩
  by_cases q2 : k = 2
  · subst q2
    go_enter Try.func51, Try.ntmps51
    go_wp2_with fail
    go_ret2
    exact ⟨rfl, rfl⟩
  by_cases q3 : k = 3
  · subst q3
    go_enter Try.func51, Try.ntmps51
    go_wp2_with fail
    go_ret2
    exact ⟨rfl, rfl⟩
  have e1 : (k == 1) = false := by rw [beq_eq_false_iff_ne]; exact q1
  have e2 : (k == 2) = false := by rw [beq_eq_false_iff_ne]; exact q2
  have e3 : (k == 3) = false := by rw [beq_eq_false_iff_ne]; exact q3
  have e4 : (k == 4) = false := by rw [beq_eq_false_iff_ne]; exact q4
  have HM : Hid (mostV k = 0) := if_neg (by omega)
  have HD : Hid (decide (1 ≤ k ∧ k ≤ 4) = false) := decide_eq_false (by omega)
  clear q1 q2 q3 q4
  go_enter Try.func51, Try.ntmps51
  go_wp2_with fail
  go_ret2
  exact ⟨by rw [HM.out, HD.out]; rfl, rfl⟩

set_option maxHeartbeats 1000000 in
theorem wrongE_any (s : ByteArray) (k m : Int) (w : World) (hs : s.size ≤ 9223372036854775807) :
    Calls Try.prog 36 #[.agg #[.string s, .int .i64 k, .int .i64 m]] w fun e w' => e = .returned (.int .i64 (Evt.wrongE ⟨nb s, k, m⟩ : Nat)) ∧ Below w.heap.size w w' := by
  have HN := fun w' => named_any s w' hs
  have HM := fun w' => most_any k w'
  have hb0 : Below w.heap.size w (w.alloc (.cells #[.string s, .int .i64 k, .int .i64 m] 42)) := (Below.refl _ _).alloc (Nat.le_refl _) _
  obtain ⟨c0, c1, c2⟩ := varE_new w (.string s) (.int .i64 k) (.int .i64 m)
  by_cases hn0 : Evt.named (nb s)
  case neg =>
    have hn : Hid (¬ Evt.named (nb s)) := hn0
    have H : Hid (Evt.wrongE ⟨nb s, k, m⟩ = 7) := Evt.wrongE_name hn0
    clear hn0
    go_enter Try.func36, Try.ntmps36
    go_wp2_with fail
    refine (HN _).mono ?_
    rintro e w1 ⟨⟨y, rfl, hy⟩, rfl⟩
    obtain rfl : y = false := by cases y with | false => rfl | true => exact absurd (hy.1 rfl) hn.out
    clear hy HN HM
    go_wp2_with fail
    go_ret
    exact ⟨ret_int (by rw [H.out]; rfl), hb0⟩
  have hn : Hid (Evt.named (nb s)) := hn0
  clear hn0
  by_cases q0 : k < 1 ∨ 4 < k
  · have H : Hid (Evt.wrongE ⟨nb s, k, m⟩ = 1) := Evt.wrongE_kind hn.out q0
    have hd : decide (1 ≤ k ∧ k ≤ 4) = false := decide_eq_false (by omega)
    rw [hd] at HM
    clear hd q0
    go_enter Try.func36, Try.ntmps36
    go_wp2_with fail
    refine (HN _).mono ?_
    rintro e w1 ⟨⟨y, rfl, hy⟩, rfl⟩
    obtain rfl : y = true := hy.2 hn.out
    clear hy HN
    go_wp2_with fail
    refine (HM _).mono ?_
    rintro e w1 ⟨rfl, rfl⟩
    clear HM
    go_wp2_with fail
    go_ret
    exact ⟨ret_int (by rw [H.out]; rfl), hb0⟩
  have hk : Hid (¬ (k < 1 ∨ 4 < k)) := q0
  have hd : decide (1 ≤ k ∧ k ≤ 4) = true := decide_eq_true (by omega)
  rw [hd] at HM
  clear hd q0
  have HQ : Hid ((m < 0 ∨ 1000000 < m ∨ (0 < m ∧ k ≠ 2 ∧ k ≠ 3)) ↔ (m < 0 ∨ mostV k < m)) := by
    show _ ↔ _
    unfold mostV
    by_cases e : k = 2 ∨ k = 3
    · rw [if_pos e]
      omega
    · rw [if_neg e]
      omega
  generalize mostV k = M at HM HQ
  by_cases q2 : m < 0
  · have H : Hid (Evt.wrongE ⟨nb s, k, m⟩ = 3) := Evt.wrongE_range hn.out hk.out (HQ.out.2 (Or.inl q2))
    go_enter Try.func36, Try.ntmps36
    go_wp2_with fail
    refine (HN _).mono ?_
    rintro e w1 ⟨⟨y, rfl, hy⟩, rfl⟩
    obtain rfl : y = true := hy.2 hn.out
    clear hy HN
    go_wp2_with fail
    refine (HM _).mono ?_
    rintro e w1 ⟨rfl, rfl⟩
    clear HM
    go_wp2_with fail
    go_ret
    exact ⟨ret_int (by rw [H.out]; rfl), hb0⟩
  by_cases q3 : M < m
  · have H : Hid (Evt.wrongE ⟨nb s, k, m⟩ = 3) := Evt.wrongE_range hn.out hk.out (HQ.out.2 (Or.inr q3))
    go_enter Try.func36, Try.ntmps36
    go_wp2_with fail
    refine (HN _).mono ?_
    rintro e w1 ⟨⟨y, rfl, hy⟩, rfl⟩
    obtain rfl : y = true := hy.2 hn.out
    clear hy HN
    go_wp2_with fail
    refine (HM _).mono ?_
    rintro e w1 ⟨rfl, rfl⟩
    clear HM
    go_wp2_with fail
    go_ret
    exact ⟨ret_int (by rw [H.out]; rfl), hb0⟩
  · have H : Hid (Evt.wrongE ⟨nb s, k, m⟩ = 0) := Evt.wrongE_ok hn.out hk.out (fun q => by have := HQ.out.1 q; omega)
    go_enter Try.func36, Try.ntmps36
    go_wp2_with fail
    refine (HN _).mono ?_
    rintro e w1 ⟨⟨y, rfl, hy⟩, rfl⟩
    obtain rfl : y = true := hy.2 hn.out
    clear hy HN
    go_wp2_with fail
    refine (HM _).mono ?_
    rintro e w1 ⟨rfl, rfl⟩
    clear HM
    go_wp2_with fail
    go_ret
    exact ⟨ret_int (by rw [H.out]; rfl), hb0⟩

end Go.Proofs.Ytabolanakcmgfae
