/-
  Texts of the proof, joined: EOff, EThree, XNamed, XBatch.
-/
import Derived.Test.YtmcaejooaaahdaaGreatZ15
import Derived.Deep.RegionLaw
import Derived.Test.YtmcaejooaaahdaaGreatZ14
namespace Go.Proofs.YtmcaejooaaahdaaGreat
open Go.RowKit


/-! ### Lists read one behind the other -/
def joinB (l : List Evt.Bat) : Option (List Evt.Bat × List Nat) → Option (List Evt.Bat × List Nat)
  | none => none
  | some (l', r) => some (l ++ l', r)
def joinE (l : List Evt.Ev) : Option (List Evt.Ev × List Nat) → Option (List Evt.Ev × List Nat)
  | none => none
  | some (l', r) => some (l ++ l', r)
theorem getBs_step {m : Nat} {r r' : List Nat} {b : Evt.Bat} (h : Evt.getB r = some (b, r')) (l : List Evt.Bat) : joinB l (Evt.getBs (m + 1) r) = joinB (l ++ [b]) (Evt.getBs m r') := by
  have e : Evt.getBs (m + 1) r = match Evt.getBs m r' with | none => none | some (l, r) => some (b :: l, r) := by
    show (match Evt.getB r with | none => none | some (e, r) => match Evt.getBs m r with | none => none | some (l, r) => some (e :: l, r)) = _
    rw [h]
  rw [e]
  cases Evt.getBs m r' with
  | none => rfl
  | some p => show some (l ++ b :: p.1, p.2) = some (l ++ [b] ++ p.1, p.2); rw [List.append_assoc]; rfl
theorem getBs_fail {m : Nat} {r : List Nat} (h : Evt.getB r = none) (l : List Evt.Bat) : joinB l (Evt.getBs (m + 1) r) = none := by
  have e : Evt.getBs (m + 1) r = none := by
    show (match Evt.getB r with | none => none | some (e, r) => match Evt.getBs m r with | none => none | some (l, r) => some (e :: l, r)) = _
    rw [h]
  rw [e]
  rfl
theorem getEs_step {m : Nat} {r r' : List Nat} {b : Evt.Ev} (h : Evt.getE r = some (b, r')) (l : List Evt.Ev) : joinE l (Evt.getEs (m + 1) r) = joinE (l ++ [b]) (Evt.getEs m r') := by
  have e : Evt.getEs (m + 1) r = match Evt.getEs m r' with | none => none | some (l, r) => some (b :: l, r) := by
    show (match Evt.getE r with | none => none | some (e, r) => match Evt.getEs m r with | none => none | some (l, r) => some (e :: l, r)) = _
    rw [h]
  rw [e]
  cases Evt.getEs m r' with
  | none => rfl
  | some p => show some (l ++ b :: p.1, p.2) = some (l ++ [b] ++ p.1, p.2); rw [List.append_assoc]; rfl
theorem getEs_fail {m : Nat} {r : List Nat} (h : Evt.getE r = none) (l : List Evt.Ev) : joinE l (Evt.getEs (m + 1) r) = none := by
  have e : Evt.getEs (m + 1) r = none := by
    show (match Evt.getE r with | none => none | some (e, r) => match Evt.getEs m r with | none => none | some (l, r) => some (e :: l, r)) = _
    rw [h]
  rw [e]
  rfl
/-- What is told of a batch at A. -/
theorem getB_drop {g : Nat → Nat} {N A m : Nat} (h : A + 4 ≤ N) (hm : g (A + 3) = m) : Evt.getB ((bl g N).drop A) = match Evt.getEs m ((bl g N).drop (A + 4)) with | none => none | some (l, r) => some (⟨(numV g A 3 : Nat), l⟩, r) := by
  unfold Evt.getB
  rw [num3_yes g (by omega)]
  show (match Evt.num 1 0 ((bl g N).drop (A + 3)) with | none => none | some (m, r) => match Evt.getEs m r with | none => none | some (l, r) => some ((⟨((numV g A 3 : Nat) : Int), l⟩ : Evt.Bat), r)) = _
  rw [num1_yes g (by omega)]
  have e1 : numV g (A + 3) 1 = m := by
    show 256 * 0 + g (A + 3) = _
    rw [Nat.mul_zero, Nat.zero_add, hm]
  rw [e1]
theorem getB_none {g : Nat → Nat} {N A : Nat} (h : N < A + 4) : Evt.getB ((bl g N).drop A) = none := by
  unfold Evt.getB
  by_cases h1 : A + 3 ≤ N
  · rw [num3_yes g h1]
    show (match Evt.num 1 0 ((bl g N).drop (A + 3)) with | none => none | some (m, r) => match Evt.getEs m r with | none => none | some (l, r) => some ((⟨((numV g A 3 : Nat) : Int), l⟩ : Evt.Bat), r)) = _
    rw [num1_no g (by omega)]
  · rw [num3_no g (by omega)]

end Go.Proofs.YtmcaejooaaahdaaGreat

namespace Go.Proofs.YtmcaejooaaahdaaGreat
open Go.RowKit

set_option maxHeartbeats 400000 in
theorem refThree_any (n : Nat) (w : World) (hn : n < 16777216) :
    Calls Tryz.prog 93 #[.int .i64 (n : Int)] w fun e w' => e = .returned (.slice (some ⟨w.heap.size, 0, none⟩) 3 3) ∧ w' = w.alloc (.cells #[.int .u8 ((n : Int) / 65536), .int .u8 ((n : Int) / 256 % 256), .int .u8 ((n : Int) % 256)] 5) := by
  go_enter Tryz.func93, Tryz.ntmps93
  go_wp2_with fail
  go_ret
  exact ⟨rfl, rfl⟩

/-- Bytes as a list of cells. -/
def clB (bs : List Nat) : List Value := bs.map fun x => .int .u8 (x : Nat)
/-- Bytes that are appended to, as a list. -/
def BufL (w : World) (N : Nat) (v : Value) (bs : List Nat) : Prop := w.ownsRow N 5 1 v bs.length (clB bs)
theorem BufL.below {w w' : World} {N : Nat} {v : Value} {bs : List Nat} (h : BufL w N v bs) (hb : Below w.heap.size w w') : BufL w' N v bs := owns_below h hb
theorem BufL.off {S : Nat → Prop} {w w' : World} {N : Nat} {v : Value} {bs : List Nat} (h : BufL w N v bs) (ho : Off S w w') (hS : ∀ g, v.ownBlock = some g → ¬ S g) : BufL w' N v bs := owns_off h ho hS
theorem BufL.more {w : World} {N : Nat} {v : Value} {bs cs : List Nat} {ns : List Value} {m : Nat} (h : w.ownsRow N 5 1 v (bs.length + m) (clB bs ++ ns)) (hn : ns = clB cs) (hm : cs.length = m) : BufL w N v (bs ++ cs) := by
  unfold BufL
  rw [List.length_append, hm]
  unfold clB at hn h ⊢
  rw [List.map_append, ← hn]
  exact h
theorem BufL.byts {w : World} {N : Nat} {v : Value} {bs : List Nat} (h : BufL w N v bs) (hb : Evt.Bytes bs) : Byts w v bs.length (fun k => bs.getD k 0) := by
  have hbd : Bd (fun k => bs.getD k 0) := fun k => by
    show bs.getD k 0 < 256
    by_cases hk : k < bs.length
    · have : bs.getD k 0 ∈ bs := by simp [List.getD, hk]
      exact hb _ this
    · simp [List.getD, hk]
  by_cases hn : 1 ≤ bs.length
  · obtain ⟨g, cap, rfl, _, h1, h2, _, hc⟩ := owns_cells h hn
    refine ⟨hbd, some ⟨g, 0, none⟩, cap, rfl, h1, h2, fun i hi => ⟨g, 0, rfl, ?_⟩⟩
    rw [Nat.zero_add]
    refine hc i _ ?_
    simp [clB, List.getD, hi]
  · obtain rfl : bs = [] := List.eq_nil_of_length_eq_zero (by omega)
    rcases h.2 with ⟨rfl, _⟩ | ⟨g, cap, cur, rfl, _, _, hc, hm, _⟩
    · exact ⟨hbd, none, 0, rfl, Nat.le_refl _, Nat.zero_le _, fun i hi => absurd hi (Nat.not_lt_zero i)⟩
    · exact ⟨hbd, _, cap, rfl, hc, hm, fun i hi => absurd hi (Nat.not_lt_zero i)⟩

end Go.Proofs.YtmcaejooaaahdaaGreat

namespace Go.Proofs.YtmcaejooaaahdaaGreat
open Go.RowKit

set_option maxHeartbeats 400000 in
theorem plain_any (x : Nat) (w : World) (hx : x < 256) : Calls Tryz.prog 85 #[.int .u8 (x : Int)] w fun e w' => Tell e (Evt.letter x = true) ∧ w' = w := by
  by_cases q0 : 97 ≤ x ∧ x ≤ 122
  · have H : Hid (Evt.letter x = true) := by
      show Evt.letter _ = true
      rw [Evt.letter_iff]
      omega
    have f1 : (97 : Int) ≤ (x : Int) := by omega
    have f2 : (x : Int) ≤ 122 := by omega
    go_enter Tryz.func85, Tryz.ntmps85
    go_wp2_with fail
    go_ret
    exact ⟨tell_yes H.out, rfl⟩
  by_cases q1 : 48 ≤ x ∧ x ≤ 57
  · have H : Hid (Evt.letter x = true) := by
      show Evt.letter _ = true
      rw [Evt.letter_iff]
      omega
    have f1 : ¬ (97 : Int) ≤ (x : Int) := by omega
    have f3 : (48 : Int) ≤ (x : Int) := by omega
    have f4 : (x : Int) ≤ 57 := by omega
    go_enter Tryz.func85, Tryz.ntmps85
    go_wp2_with fail
    go_ret
    exact ⟨tell_yes H.out, rfl⟩
  have H : Hid (¬ Evt.letter x = true) := by
    show ¬ Evt.letter _ = true
    rw [Evt.letter_iff]
    omega
  by_cases q2 : x < 48
  · have f1 : ¬ (97 : Int) ≤ (x : Int) := by omega
    have f3 : ¬ (48 : Int) ≤ (x : Int) := by omega
    go_enter Tryz.func85, Tryz.ntmps85
    go_wp2_with fail
    go_ret
    exact ⟨tell_no H.out, rfl⟩
  have f3 : (48 : Int) ≤ (x : Int) := by omega
  have f4 : ¬ (x : Int) ≤ 57 := by omega
  by_cases q3 : 122 < x
  · have f1 : (97 : Int) ≤ (x : Int) := by omega
    have f2 : ¬ (x : Int) ≤ 122 := by omega
    go_enter Tryz.func85, Tryz.ntmps85
    go_wp2_with fail
    go_ret
    exact ⟨tell_no H.out, rfl⟩
  · have f1 : ¬ (97 : Int) ≤ (x : Int) := by omega
    go_enter Tryz.func85, Tryz.ntmps85
    go_wp2_with fail
    go_ret
    exact ⟨tell_no H.out, rfl⟩

theorem ch_at (s : ByteArray) {k : Nat} (h : k < s.size) : ch s k = s[k].toNat := by
  have h' : k < s.data.size := h
  unfold ch
  have e : s.data.toList[k]? = some s.data[k] := by simp
  rw [List.getD_eq_getElem?_getD, e]
  rfl

set_option maxHeartbeats 400000 in
theorem named_any (s : ByteArray) (w : World) (hs : s.size ≤ 9223372036854775807) :
    Calls Tryz.prog 48 #[.string s] w fun e w' => Tell e (Evt.named (nb s)) ∧ w' = w := by
  by_cases p0 : s.size < 1
  · have HN : Hid (¬ Evt.named (nb s)) := fun q => by
      have := q.2.1
      rw [nb_len] at this
      omega
    have p0' : (s.size : Int) < 1 := by omega
    go_enter Tryz.func48, Tryz.ntmps48
    go_wp2_with fail
    go_ret
    exact ⟨tell_no HN.out, rfl⟩
  have p0' : ¬ (s.size : Int) < 1 := by omega
  by_cases p1 : 10 < s.size
  · have HN : Hid (¬ Evt.named (nb s)) := fun q => by
      have := q.2.2
      rw [nb_len] at this
      omega
    have p1' : (10 : Int) < (s.size : Int) := by omega
    go_enter Tryz.func48, Tryz.ntmps48
    go_wp2_with fail
    go_ret
    exact ⟨tell_no HN.out, rfl⟩
  have p1' : ¬ (10 : Int) < (s.size : Int) := by omega
  go_enter Tryz.func48, Tryz.ntmps48
  go_wp2_with fail
  go_loop [14] (fun x => ∃ k : Nat, k ≤ s.size ∧ x = .int .i64 k ∧ Hid (∀ j, j < k → Evt.letter (ch s j) = true)) (fun x => s.size - (intOf x).toNat)
  case atStart => exact ⟨0, Nat.zero_le _, rfl, fun j hj => absurd hj (Nat.not_lt_zero j)⟩
  case round =>
    obtain ⟨k, hk, rfl, HS⟩ := hrel
    by_cases hk2 : k < s.size
    · have hk3 : (k : Int) < (s.size : Int) := by omega
      have HC : Hid (ch s k = s[k].toNat) := ch_at s hk2
      have HP := plain_any s[k].toNat w (UInt8.toNat_lt _)
      by_cases hL : Evt.letter s[k].toNat = true
      · have HL : Hid (Evt.letter (ch s k) = true) := by
          show Evt.letter _ = true
          rw [HC.out]
          exact hL
        go_wp2_with fail
        refine HP.mono ?_
        rintro e w1 ⟨⟨y, rfl, hy⟩, rfl⟩
        obtain rfl : y = true := hy.2 hL
        clear hy HP hL
        go_wp2_with fail
        refine ⟨⟨k + 1, by omega, by go_num, fun j hj => ?_⟩, by simp [intOf]; omega⟩
        by_cases e : j = k
        · rw [e]; exact HL.out
        · exact HS.out j (by omega)
      · have HN : Hid (¬ Evt.named (nb s)) := not_named hk2 (by rw [HC.out]; exact hL)
        go_wp2_with fail
        refine HP.mono ?_
        rintro e w1 ⟨⟨y, rfl, hy⟩, rfl⟩
        obtain rfl : y = false := by cases y with | false => rfl | true => exact absurd (hy.1 rfl) hL
        clear hy HP hL
        go_wp2_with fail
        go_ret
        exact ⟨tell_no HN.out, rfl⟩
    · obtain rfl : k = s.size := by omega
      have HY : Hid (Evt.named (nb s)) := (named_iff s HS.out).2 ⟨by omega, by omega⟩
      go_wp2_with fail
      go_ret
      exact ⟨tell_yes HY.out, rfl⟩

/-- The most that N may be. -/
def mostV (k : Int) : Int := if k = 2 ∨ k = 3 then 1000000 else 0
set_option maxHeartbeats 400000 in
theorem most_any (k : Int) (w : World) : Calls Tryz.prog 101 #[.int .i64 k] w fun e w' => e = .returned (.tuple #[.int .i64 (mostV k), .bool (decide (1 ≤ k ∧ k ≤ 4))]) ∧ w' = w := by
  by_cases q1 : k = 1
  · subst q1
    go_enter Tryz.func101, Tryz.ntmps101
    go_wp2_with fail
    go_ret2
    exact ⟨rfl, rfl⟩
  by_cases q4 : k = 4
  · subst q4
    go_enter Tryz.func101, Tryz.ntmps101
    go_wp2_with fail
    go_ret2
    exact ⟨rfl, rfl⟩
  by_cases q2 : k = 2
  · subst q2
    go_enter Tryz.func101, Tryz.ntmps101
    go_wp2_with fail
    go_ret2
    exact ⟨rfl, rfl⟩
  by_cases q3 : k = 3
  · subst q3
    go_enter Tryz.func101, Tryz.ntmps101
    go_wp2_with fail
    go_ret2
    exact ⟨rfl, rfl⟩
  have e1 : (k == 1) = false := by rw [beq_eq_false_iff_ne]; exact q1
  have e2 : (k == 2) = false := by rw [beq_eq_false_iff_ne]; exact q2
  have e3 : (k == 3) = false := by rw [beq_eq_false_iff_ne]; exact q3
  have e4 : (k == 4) = false := by rw [beq_eq_false_iff_ne]; exact q4
  have HM : Hid (mostV k = 0) := if_neg (by omega)
  have HD : Hid (decide (1 ≤ k ∧ k ≤ 4) = false) := decide_eq_false (by omega)
  clear q1 q2 q3 q4
  go_enter Tryz.func101, Tryz.ntmps101
  go_wp2_with fail
  go_ret2
  exact ⟨by rw [HM.out, HD.out]; rfl, rfl⟩

set_option maxHeartbeats 1000000 in
theorem wrongE_any (s : ByteArray) (k m : Int) (w : World) (hs : s.size ≤ 9223372036854775807) :
    Calls Tryz.prog 69 #[.agg #[.string s, .int .i64 k, .int .i64 m]] w fun e w' => e = .returned (.int .i64 (Evt.wrongE ⟨nb s, k, m⟩ : Nat)) ∧ Below w.heap.size w w' := by
  have HN := fun w' => named_any s w' hs
  have HM := fun w' => most_any k w'
  have hb0 : Below w.heap.size w (w.alloc (.cells #[.string s, .int .i64 k, .int .i64 m] 83)) := (Below.refl _ _).alloc (Nat.le_refl _) _
  obtain ⟨c0, c1, c2⟩ := varE_new w (.string s) (.int .i64 k) (.int .i64 m)
  by_cases hn0 : Evt.named (nb s)
  case neg =>
    have hn : Hid (¬ Evt.named (nb s)) := hn0
    have H : Hid (Evt.wrongE ⟨nb s, k, m⟩ = 7) := Evt.wrongE_name hn0
    clear hn0
    go_enter Tryz.func69, Tryz.ntmps69
    go_wp2_with fail
    refine (HN _).mono ?_
    rintro e w1 ⟨⟨y, rfl, hy⟩, rfl⟩
    obtain rfl : y = false := by cases y with | false => rfl | true => exact absurd (hy.1 rfl) hn.out
    clear hy HN HM
    go_wp2_with fail
    go_ret
    exact ⟨ret_int (by rw [H.out]; rfl), hb0⟩
  have hn : Hid (Evt.named (nb s)) := hn0
  clear hn0
  by_cases q0 : k < 1 ∨ 4 < k
  · have H : Hid (Evt.wrongE ⟨nb s, k, m⟩ = 1) := Evt.wrongE_kind hn.out q0
    have hd : decide (1 ≤ k ∧ k ≤ 4) = false := decide_eq_false (by omega)
    rw [hd] at HM
    clear hd q0
    go_enter Tryz.func69, Tryz.ntmps69
    go_wp2_with fail
    refine (HN _).mono ?_
    rintro e w1 ⟨⟨y, rfl, hy⟩, rfl⟩
    obtain rfl : y = true := hy.2 hn.out
    clear hy HN
    go_wp2_with fail
    refine (HM _).mono ?_
    rintro e w1 ⟨rfl, rfl⟩
    clear HM
    go_wp2_with fail
    go_ret
    exact ⟨ret_int (by rw [H.out]; rfl), hb0⟩
  have hk : Hid (¬ (k < 1 ∨ 4 < k)) := q0
  have hd : decide (1 ≤ k ∧ k ≤ 4) = true := decide_eq_true (by omega)
  rw [hd] at HM
  clear hd q0
  have HQ : Hid ((m < 0 ∨ 1000000 < m ∨ (0 < m ∧ k ≠ 2 ∧ k ≠ 3)) ↔ (m < 0 ∨ mostV k < m)) := by
    show _ ↔ _
    unfold mostV
    by_cases e : k = 2 ∨ k = 3
    · rw [if_pos e]
      omega
    · rw [if_neg e]
      omega
  generalize mostV k = M at HM HQ
  by_cases q2 : m < 0
  · have H : Hid (Evt.wrongE ⟨nb s, k, m⟩ = 3) := Evt.wrongE_range hn.out hk.out (HQ.out.2 (Or.inl q2))
    go_enter Tryz.func69, Tryz.ntmps69
    go_wp2_with fail
    refine (HN _).mono ?_
    rintro e w1 ⟨⟨y, rfl, hy⟩, rfl⟩
    obtain rfl : y = true := hy.2 hn.out
    clear hy HN
    go_wp2_with fail
    refine (HM _).mono ?_
    rintro e w1 ⟨rfl, rfl⟩
    clear HM
    go_wp2_with fail
    go_ret
    exact ⟨ret_int (by rw [H.out]; rfl), hb0⟩
  by_cases q3 : M < m
  · have H : Hid (Evt.wrongE ⟨nb s, k, m⟩ = 3) := Evt.wrongE_range hn.out hk.out (HQ.out.2 (Or.inr q3))
    go_enter Tryz.func69, Tryz.ntmps69
    go_wp2_with fail
    refine (HN _).mono ?_
    rintro e w1 ⟨⟨y, rfl, hy⟩, rfl⟩
    obtain rfl : y = true := hy.2 hn.out
    clear hy HN
    go_wp2_with fail
    refine (HM _).mono ?_
    rintro e w1 ⟨rfl, rfl⟩
    clear HM
    go_wp2_with fail
    go_ret
    exact ⟨ret_int (by rw [H.out]; rfl), hb0⟩
  · have H : Hid (Evt.wrongE ⟨nb s, k, m⟩ = 0) := Evt.wrongE_ok hn.out hk.out (fun q => by have := HQ.out.1 q; omega)
    go_enter Tryz.func69, Tryz.ntmps69
    go_wp2_with fail
    refine (HN _).mono ?_
    rintro e w1 ⟨⟨y, rfl, hy⟩, rfl⟩
    obtain rfl : y = true := hy.2 hn.out
    clear hy HN
    go_wp2_with fail
    refine (HM _).mono ?_
    rintro e w1 ⟨rfl, rfl⟩
    clear HM
    go_wp2_with fail
    go_ret
    exact ⟨ret_int (by rw [H.out]; rfl), hb0⟩

end Go.Proofs.YtmcaejooaaahdaaGreat

namespace Go.Proofs.YtmcaejooaaahdaaGreat
open Go.RowKit

set_option maxHeartbeats 1000000 in
theorem wrongB_any (c : Int) (vs : Value) (es : List Evt.Ev) (w : World) (h : Evs w vs es) :
    Calls Tryz.prog 41 #[.agg #[.int .i64 c, vs]] w fun e w' => e = .returned (.agg #[.int .i64 ((Evt.wrongB ⟨c, es⟩).1 : Nat), .int .i64 ((Evt.wrongB ⟨c, es⟩).2 : Nat)]) ∧ Below w.heap.size w w' := by
  obtain ⟨A, C, rfl⟩ := h.shape
  have hb0 : Below w.heap.size w (w.alloc (.cells #[.int .i64 c, .slice A es.length C] 47)) := (Below.refl _ _).alloc (Nat.le_refl _) _
  have hb1 : Below w.heap.size w ((w.alloc (.cells #[.int .i64 c, .slice A es.length C] 47)).alloc (.cells #[.int .i64 0, .int .i64 0] 78)) := hb0.alloc hb0.size _
  by_cases q0 : c < 1
  · have H : Hid (Evt.wrongB ⟨c, es⟩ = (3, 0)) := Evt.wrongB_range (Or.inl q0)
    go_enter Tryz.func41, Tryz.ntmps41
    go_wp2_with fail
    refine bodyPost_ret (v := .agg #[.int .i64 3, .int .i64 0]) (by simp [results, Tryz.results41, go_sem]) rfl ⟨by rw [H.out]; rfl, ?_⟩
    exact hb0.alloc hb0.size _
  by_cases q1 : 1000000 < c
  · have H : Hid (Evt.wrongB ⟨c, es⟩ = (3, 0)) := Evt.wrongB_range (Or.inr q1)
    go_enter Tryz.func41, Tryz.ntmps41
    go_wp2_with fail
    refine bodyPost_ret (v := .agg #[.int .i64 3, .int .i64 0]) (by simp [results, Tryz.results41, go_sem]) rfl ⟨by rw [H.out]; rfl, ?_⟩
    exact hb0.alloc hb0.size _
  have hk : Hid (¬ (c < 1 ∨ 1000000 < c)) := show ¬ (_ ∨ _) by omega
  by_cases q2 : es.length = 0
  · have H : Hid (Evt.wrongB ⟨c, es⟩ = (5, 0)) := Evt.wrongB_many hk.out (Or.inl q2)
    have g2 : (es.length : Int) < 1 := by omega
    clear q2
    go_enter Tryz.func41, Tryz.ntmps41
    go_wp2_with fail
    refine bodyPost_ret (v := .agg #[.int .i64 5, .int .i64 0]) (by simp [results, Tryz.results41, go_sem]) rfl ⟨by rw [H.out]; rfl, ?_⟩
    exact hb0.alloc hb0.size _
  have g2 : ¬ (es.length : Int) < 1 := by omega
  by_cases q3 : 10 < es.length
  · have H : Hid (Evt.wrongB ⟨c, es⟩ = (5, 0)) := Evt.wrongB_many hk.out (Or.inr q3)
    have g3 : (10 : Int) < (es.length : Int) := by omega
    go_enter Tryz.func41, Tryz.ntmps41
    go_wp2_with fail
    refine bodyPost_ret (v := .agg #[.int .i64 5, .int .i64 0]) (by simp [results, Tryz.results41, go_sem]) rfl ⟨by rw [H.out]; rfl, ?_⟩
    exact hb0.alloc hb0.size _
  have g3 : ¬ (10 : Int) < (es.length : Int) := by omega
  have HE : Hid (Evt.wrongB ⟨c, es⟩ = Evt.firstE es 0) := Evt.wrongB_else hk.out (show ¬ (es.length = 0 ∨ 10 < es.length) by omega)
  obtain ⟨b, o, C', hv, hc1, hc2, hc⟩ := h.some (by omega)
  cases hv
  have VF := varF_new (w.alloc (.cells #[.int .i64 c, .slice (some ⟨b, o, none⟩) es.length C] 47)) 78 (.int .i64 0) (.int .i64 0)
  have szx : (w.alloc (.cells #[.int .i64 c, .slice (some ⟨b, o, none⟩) es.length C] 47)).heap.size = w.heap.size + 1 := by simp
  rw [szx] at VF
  clear szx
  go_enter Tryz.func41, Tryz.ntmps41
  go_wp2_with fail
  generalize (w.alloc (.cells #[.int .i64 c, .slice (some ⟨b, o, none⟩) es.length C] 47)).alloc (.cells #[.int .i64 0, .int .i64 0] 78) = W0 at hb1 VF ⊢
  go_loopw [29] (fun x wr => ∃ k : Nat, k ≤ es.length ∧ x = .int .i64 k ∧ Hid (∀ j, j < k → ∃ e, es[j]? = some e ∧ Evt.wrongE e = 0) ∧ Below W0.heap.size W0 wr) (fun x _ => es.length - (intOf x).toNat)
  case atStart => exact ⟨0, Nat.zero_le _, rfl, fun j hj => absurd hj (Nat.not_lt_zero j), Below.refl _ _⟩
  case round =>
    obtain ⟨k, hkl, rfl, HS, hbr⟩ := hrel
    have bz := bt hb1 hbr
    by_cases hlt : k < es.length
    · have hlt' : (k : Int) < (es.length : Int) := by omega
      obtain ⟨ev, hev⟩ : ∃ ev, es[k]? = some ev := ⟨es[k], List.getElem?_eq_getElem hlt⟩
      have HEV : Hid (es[k]? = some ev) := hev
      obtain ⟨s, hs1, hs2, d0, d1, d2⟩ := (hc k ev hev).below bz
      have HNM : Hid (nb s = ev.name) := hs2
      have HW := wrongE_any s ev.kind ev.num (wr.alloc (.cells #[.string s, .int .i64 ev.kind, .int .i64 ev.num] 83)) hs1
      have HQ : Hid (Evt.wrongE ⟨nb s, ev.kind, ev.num⟩ = Evt.wrongE ev) := by
        show Evt.wrongE _ = _
        rw [hs2]
      clear hev hs2 hc
      rw [HQ.out] at HW
      have bA : Below wr.heap.size wr (wr.alloc (.cells #[.string s, .int .i64 ev.kind, .int .i64 ev.num] 83)) := (Below.refl _ _).alloc (Nat.le_refl _) _
      by_cases hE : Evt.wrongE ev = 0
      · have HE0 : Hid (Evt.wrongE ev = 0) := hE
        rw [hE] at HW
        clear hE
        go_wp2_with fail
        refine HW.mono ?_
        rintro e w1 ⟨rfl, b1⟩
        have b1 := bt bA b1
        clear HW
        go_wp2_with fail
        refine ⟨⟨k + 1, by omega, by go_num, fun j hj => ?_, bt hbr b1⟩, by simp [intOf]; omega⟩
        by_cases e : j = k
        · rw [e]; exact ⟨ev, HEV.out, HE0.out⟩
        · exact HS.out j (by omega)
      · have HE1 : Hid (Evt.firstE es 0 = (Evt.wrongE ev, k)) := Evt.firstE_some es k ev HEV.out hE HS.out
        generalize Evt.wrongE ev = x at HW HE1 hE
        have hx' : ((x : Int) == 0) = false := by rw [beq_eq_false_iff_ne]; omega
        have hxn : ((x : Int) != 0) = true := by rw [bne, hx']; rfl
        clear hE
        go_wp2_with fail
        refine HW.mono ?_
        rintro e w1 ⟨rfl, b1⟩
        have b1 := bt bA b1
        obtain ⟨c0, c1, fr⟩ := (VF.below hbr).below b1
        have f0 := fr 0
        have f1 := fr 1
        clear HW
        go_wp2_with fail
        refine bodyPost_ret (v := .agg #[.int .i64 (x : Nat), .int .i64 (k : Nat)]) (by simp [results, Tryz.results41, go_sem, c0, c1]) rfl ⟨by rw [HE.out, HE1.out], ?_⟩
        exact ((bt bz b1).setCell (Nat.le_succ _) _).setCell (Nat.le_succ _) _
    · obtain rfl : k = es.length := by omega
      have HZ : Hid (Evt.firstE es 0 = (0, 0)) := Evt.firstE_none es 0 (fun e he => by
        obtain ⟨j, hj, rfl⟩ := List.mem_iff_getElem.1 he
        obtain ⟨e', h1, h2⟩ := HS.out j hj
        rw [List.getElem?_eq_getElem hj, Option.some.injEq] at h1
        rw [h1]
        exact h2)
      obtain ⟨c0, c1, fr⟩ := VF.below hbr
      have f0 := fr 0
      have f1 := fr 1
      clear hc
      go_wp2_with fail
      refine bodyPost_ret (v := .agg #[.int .i64 0, .int .i64 0]) (by simp [results, Tryz.results41, go_sem, c0, c1]) rfl ⟨by rw [HE.out, HZ.out]; rfl, ?_⟩
      exact (bz.setCell (Nat.le_succ _) _).setCell (Nat.le_succ _) _

theorem Bats.shape {w : World} {v : Value} {l : List Evt.Bat} (h : Bats w v l) : ∃ A C, v = .slice A l.length C := by
  obtain ⟨A, C, hv, _⟩ := h
  exact ⟨A, C, hv⟩
theorem Bats.len {w : World} {v : Value} {l : List Evt.Bat} (h : Bats w v l) : l.length ≤ 9223372036854775807 := by
  obtain ⟨A, C, hv, h1, h2, _⟩ := h
  unfold maxLen at h2
  omega
theorem wrongL_many {l : List Evt.Bat} (h : 150 < l.length) : Evt.wrongL l = (5, 0) := if_pos h
theorem wrongL_else {l : List Evt.Bat} (h : ¬ 150 < l.length) : Evt.wrongL l = Evt.firstB l 0 := if_neg h

set_option maxHeartbeats 1000000 in
theorem wrongL_any (v : Value) (l : List Evt.Bat) (w : World) (h : Bats w v l) :
    Calls Tryz.prog 107 #[v] w fun e w' => e = .returned (.agg #[.int .i64 ((Evt.wrongL l).1 : Nat), .int .i64 ((Evt.wrongL l).2 : Nat)]) ∧ Below w.heap.size w w' := by
  obtain ⟨A, C, rfl⟩ := h.shape
  have hl := h.len
  have hb1 : Below w.heap.size w (w.alloc (.cells #[.int .i64 0, .int .i64 0] 78)) := (Below.refl _ _).alloc (Nat.le_refl _) _
  by_cases q3 : 150 < l.length
  · have H : Hid (Evt.wrongL l = (5, 0)) := wrongL_many q3
    have g3 : (150 : Int) < (l.length : Int) := by omega
    go_enter Tryz.func107, Tryz.ntmps107
    go_wp2_with fail
    refine bodyPost_ret (v := .agg #[.int .i64 5, .int .i64 0]) (by simp [results, Tryz.results107, go_sem]) rfl ⟨by rw [H.out]; rfl, ?_⟩
    exact (Below.refl _ _).alloc (Nat.le_refl _) _
  have g3 : ¬ (150 : Int) < (l.length : Int) := by omega
  have HE : Hid (Evt.wrongL l = Evt.firstB l 0) := wrongL_else q3
  have VF := varF_new w 78 (.int .i64 0) (.int .i64 0)
  have hc : Hid (∀ i x, l[i]? = some x → ∃ b o, A = some ⟨b, o, none⟩ ∧ BatIn w b (o + i * 2) x) := by
    obtain ⟨A', C', hv, _, _, hc⟩ := h
    cases hv
    exact hc
  clear h
  go_enter Tryz.func107, Tryz.ntmps107
  go_wp2_with fail
  generalize w.alloc (.cells #[.int .i64 0, .int .i64 0] 78) = W0 at hb1 VF ⊢
  go_loopw [12] (fun x wr => ∃ k : Nat, k ≤ l.length ∧ x = .int .i64 k ∧ Hid (∀ j, j < k → ∃ e, l[j]? = some e ∧ (Evt.wrongB e).1 = 0) ∧ Below W0.heap.size W0 wr) (fun x _ => l.length - (intOf x).toNat)
  case atStart => exact ⟨0, Nat.zero_le _, rfl, fun j hj => absurd hj (Nat.not_lt_zero j), Below.refl _ _⟩
  case round =>
    obtain ⟨k, hkl, rfl, HS, hbr⟩ := hrel
    have bz := bt hb1 hbr
    by_cases hlt : k < l.length
    · have hlt' : (k : Int) < (l.length : Int) := by omega
      obtain ⟨x, hx⟩ : ∃ x, l[k]? = some x := ⟨l[k], List.getElem?_eq_getElem hlt⟩
      have HEV : Hid (l[k]? = some x) := hx
      obtain ⟨b, o, rfl, hin⟩ := hc.out k x hx
      obtain ⟨vs, d0, d1, he⟩ := hin.below bz
      have bA : Below wr.heap.size wr (wr.alloc (.cells #[.int .i64 x.cmd, vs] 47)) := (Below.refl _ _).alloc (Nat.le_refl _) _
      have HW := wrongB_any x.cmd vs x.evs _ (he.below bA)
      have HQ : Hid (Evt.wrongB ⟨x.cmd, x.evs⟩ = Evt.wrongB x) := rfl
      rw [HQ.out] at HW
      obtain ⟨As, Cs, rfl⟩ := he.shape
      clear hx hin he
      by_cases hE : (Evt.wrongB x).1 = 0
      · have HE0 : Hid ((Evt.wrongB x).1 = 0) := hE
        rw [hE] at HW
        generalize (Evt.wrongB x).2 = y at HW
        clear hE
        go_wp2_with fail
        refine HW.mono ?_
        rintro e w1 ⟨rfl, b1⟩
        have b1 := bt bA b1
        have b2 : Below wr.heap.size wr (w1.alloc (.cells #[.int .i64 0, .int .i64 (y : Nat)] 78)) := b1.alloc b1.size _
        clear HW
        go_wp2_with fail
        refine ⟨⟨k + 1, by omega, by go_num, fun j hj => ?_, bt hbr b2⟩, by simp [intOf]; omega⟩
        by_cases e : j = k
        · rw [e]; exact ⟨x, HEV.out, HE0.out⟩
        · exact HS.out j (by omega)
      · have HE1 : Hid (Evt.firstB l 0 = ((Evt.wrongB x).1, k)) := Evt.firstB_some l k x HEV.out hE HS.out
        generalize (Evt.wrongB x).1 = x1 at HW HE1 hE
        generalize (Evt.wrongB x).2 = y at HW
        have hx' : ((x1 : Int) == 0) = false := by rw [beq_eq_false_iff_ne]; omega
        have hxn : ((x1 : Int) != 0) = true := by rw [bne, hx']; rfl
        clear hE
        go_wp2_with fail
        refine HW.mono ?_
        rintro e w1 ⟨rfl, b1⟩
        have b1 := bt bA b1
        have b2 : Below wr.heap.size wr (w1.alloc (.cells #[.int .i64 (x1 : Nat), .int .i64 (y : Nat)] 78)) := b1.alloc b1.size _
        obtain ⟨c0, c1, fr⟩ := (VF.below hbr).below b2
        have f0 := fr 0
        have f1 := fr 1
        clear HW
        go_wp2_with fail
        refine bodyPost_ret (v := .agg #[.int .i64 (x1 : Nat), .int .i64 (k : Nat)]) (by simp [results, Tryz.results107, go_sem, c0, c1]) rfl ⟨by rw [HE.out, HE1.out], ?_⟩
        exact ((bt bz b2).setCell (Nat.le_refl _) _).setCell (Nat.le_refl _) _
    · obtain rfl : k = l.length := by omega
      have HZ : Hid (Evt.firstB l 0 = (0, 0)) := Evt.firstB_none l 0 (fun e he => by
        obtain ⟨j, hj, rfl⟩ := List.mem_iff_getElem.1 he
        obtain ⟨e', h1, h2⟩ := HS.out j hj
        rw [List.getElem?_eq_getElem hj, Option.some.injEq] at h1
        rw [h1]
        exact h2)
      obtain ⟨c0, c1, fr⟩ := VF.below hbr
      have f0 := fr 0
      have f1 := fr 1
      go_wp2_with fail
      refine bodyPost_ret (v := .agg #[.int .i64 0, .int .i64 0]) (by simp [results, Tryz.results107, go_sem, c0, c1]) rfl ⟨by rw [HE.out, HZ.out]; rfl, ?_⟩
      exact (bz.setCell (Nat.le_refl _) _).setCell (Nat.le_refl _) _

end Go.Proofs.YtmcaejooaaahdaaGreat
