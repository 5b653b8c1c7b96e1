/-
  What view's Get and May do, call by call.
-/
import Derived.Test.YtabolanakcmgfaeVMem
import Derived.Test.YtabolanakcmgfaeXNamed
namespace Go.Proofs.Ytabolanakcmgfae
open Go.RowKit

theorem Try.enters_getEq : ∀ args w, (callFunc 35 args).run Try.prog w = .ok (.enter 35 args) w := enters_of Try.func35 (by kernel_rfl) rfl

set_option maxHeartbeats 400000 in
set_option maxRecDepth 100000 in
theorem getEq_any (p : Nat) (s t : ByteArray) (k m : Int) (b : Bool) (w : World) (hc : w.cell? ⟨p, 0, none⟩ = some (.string t)) :
    Calls Try.prog 35 #[.agg #[.string s, .int .i64 k, .int .i64 m, .bool b], .pointer (some ⟨p, 0, none⟩)] w fun e w' => e = .returned (.bool (s.toList == t.toList)) ∧ Below w.heap.size w w' := by
  have hb0 : Below w.heap.size w (w.alloc (.cells #[.string s, .int .i64 k, .int .i64 m, .bool b] 39)) := (Below.refl _ _).alloc (Nat.le_refl _) _
  have hc' := (hb0.cell (p := ⟨p, 0, none⟩) (World.block_lt_of_cell? _ _ hc)).trans hc
  obtain ⟨c0, _, _, _, _⟩ := varA_new w 39 (.string s) (.int .i64 k) (.int .i64 m) (.bool b)
  go_enter Try.func35, Try.ntmps35
  go_wp2_with fail
  go_ret
  exact ⟨rfl, hb0⟩

/-- Where the first account of that name is. -/
def FirstA (l : List Vw.Acc) (n : List Nat) (i : Int) : Prop := (i = -1 ∧ Vw.get l n = Vw.fresh n) ∨ ∃ (r : Nat) (a : Vw.Acc), l[r]? = some a ∧ i = (r : Int) ∧ Vw.get l n = a
theorem get_skip : ∀ {l : List Vw.Acc} {n : List Nat} {k : Nat}, (∀ j a, j < k → l[j]? = some a → a.name ≠ n) → Vw.get l n = Vw.get (l.drop k) n
  | _, _, 0, _ => rfl
  | [], _, k + 1, _ => rfl
  | x :: r, n, k + 1, h => by
    rw [Vw.get, if_neg (h 0 x (Nat.succ_pos k) rfl), List.drop_succ_cons]
    exact get_skip (fun j a hj ha => h (j + 1) a (by omega) (by simpa using ha))
theorem get_at {l : List Vw.Acc} {n : List Nat} {k : Nat} {a : Vw.Acc} (h : ∀ j a, j < k → l[j]? = some a → a.name ≠ n) (ha : l[k]? = some a) (hn : a.name = n) : Vw.get l n = a := by
  rw [get_skip h, Vw.drop_at ha, Vw.get, if_pos hn]

set_option maxHeartbeats 1000000 in
set_option maxRecDepth 100000 in
theorem indexA_any (p : Nat) (t : ByteArray) (vs : Value) (l : List Vw.Acc) (w : World) (h : Accs w vs l) (hc : w.cell? ⟨p, 0, none⟩ = some (.string t)) :
    Calls Try.prog 34 #[vs, .func (.func 35) #[] #[.pointer (some ⟨p, 0, none⟩)]] w fun e w' => ∃ i : Int, e = .returned (.int .i64 i) ∧ FirstA l (nb t) i ∧ Below w.heap.size w w' := by
  have hln := h.len
  have eg := Try.enters_getEq
  obtain ⟨A, C, rfl, _, _, ha⟩ := h
  go_enter Try.func34, Try.ntmps34
  go_wp2_with fail
  go_loopw [8] (fun i wr => ∃ k : Nat, k ≤ l.length ∧ i = .int .i64 k ∧ Hid (∀ j a, j < k → l[j]? = some a → a.name ≠ nb t) ∧ Below w.heap.size w wr) (fun i _ => l.length - (intOf i).toNat)
  case atStart => exact ⟨0, Nat.zero_le _, rfl, fun j a hj => absurd hj (Nat.not_lt_zero j), Below.refl _ _⟩
  case round =>
    obtain ⟨k, hk, rfl, HS, hb⟩ := hrel
    by_cases hlt : k < l.length
    · have hlt' : (k : Int) < (l.length : Int) := by omega
      obtain ⟨a, hak⟩ : ∃ a, l[k]? = some a := ⟨l[k], List.getElem?_eq_getElem hlt⟩
      obtain ⟨b, o, rfl, hin⟩ := ha k a hak
      obtain ⟨s, hs1, hs2, d0, d1, d2, d3⟩ := hin.below hb
      have HK : Hid (l[k]? = some a ∧ nb s = a.name) := ⟨hak, hs2⟩
      have HC := getEq_any p s t a.sum a.cnt a.opn wr ((hb.cell (p := ⟨p, 0, none⟩) (World.block_lt_of_cell? _ _ hc)).trans hc)
      have HY : Hid ((s.toList == t.toList) = decide (nb s = nb t)) := same_nb s t
      clear ha hak hs2 hin
      generalize (s.toList == t.toList) = y at HC HY
      cases y with
      | true =>
        have HF : Hid (FirstA l (nb t) (k : Int)) := Or.inr ⟨k, a, HK.out.1, rfl, get_at HS.out HK.out.1 (HK.out.2.symm.trans (of_decide_eq_true HY.out.symm))⟩
        go_wp2_with fail
        refine HC.mono ?_
        rintro e w1 ⟨rfl, hb1⟩
        clear HC
        go_wp2_with fail
        go_ret
        exact ⟨_, rfl, HF.out, bt hb hb1⟩
      | false =>
        have HN : Hid (a.name ≠ nb t) := fun e => of_decide_eq_false HY.out.symm (HK.out.2.trans e)
        go_wp2_with fail
        refine HC.mono ?_
        rintro e w1 ⟨rfl, hb1⟩
        clear HC
        go_wp2_with fail
        refine ⟨⟨k + 1, by omega, by go_num, fun j x hj hx => ?_, bt hb hb1⟩, by simp [intOf]; omega⟩
        by_cases e : j = k
        · rw [e, HK.out.1] at hx
          cases hx
          exact HN.out
        · exact HS.out j x (by omega) hx
    · obtain rfl : k = l.length := by omega
      have HF : Hid (FirstA l (nb t) (-1)) := Or.inl ⟨rfl, by rw [get_skip HS.out, List.drop_length]; rfl⟩
      clear ha
      go_wp2_with fail
      go_ret
      exact ⟨_, rfl, HF.out, hb⟩

/-- An account is told. -/
def GetO (e : Ending) (a : Vw.Acc) : Prop := ∃ v, e = .returned v ∧ AcV v a

set_option maxHeartbeats 1000000 in
set_option maxRecDepth 100000 in
theorem get_any (u : Int) (t : ByteArray) (vs : Value) (l : List Vw.Acc) (w : World) (h : Accs w vs l) (ht : t.size ≤ 9223372036854775807) :
    Calls Try.prog 13 #[.agg #[.int .i64 u, vs], .string t] w fun e w' => GetO e (Vw.get l (nb t)) ∧ Below w.heap.size w w' := by
  obtain ⟨A, C, rfl⟩ := h.shape
  have h1 : Below w.heap.size w (w.alloc (.cells #[.int .i64 u, .slice A l.length C] 33)) := (Below.refl _ _).alloc (Nat.le_refl _) _
  have h2 := h1.alloc h1.size (.cells #[.string t] 9)
  have h3 := h2.alloc h2.size (.cells #[.string (ByteArray.mk #[]), .int .i64 0, .int .i64 0, .bool false] 39)
  have hA := h.below h3
  have v1 : (((w.alloc (.cells #[.int .i64 u, .slice A l.length C] 33)).alloc (.cells #[.string t] 9)).alloc (.cells #[.string (ByteArray.mk #[]), .int .i64 0, .int .i64 0, .bool false] 39)).cell? ⟨w.heap.size, 1, none⟩ = some (.slice A l.length C) := by go_simp
  have t0 : (((w.alloc (.cells #[.int .i64 u, .slice A l.length C] 33)).alloc (.cells #[.string t] 9)).alloc (.cells #[.string (ByteArray.mk #[]), .int .i64 0, .int .i64 0, .bool false] 39)).cell? ⟨w.heap.size + 1, 0, none⟩ = some (.string t) := by go_simp
  have VA := varA_new ((w.alloc (.cells #[.int .i64 u, .slice A l.length C] 33)).alloc (.cells #[.string t] 9)) 39 (.string (ByteArray.mk #[])) (.int .i64 0) (.int .i64 0) (.bool false)
  have szx : ((w.alloc (.cells #[.int .i64 u, .slice A l.length C] 33)).alloc (.cells #[.string t] 9)).heap.size = w.heap.size + 1 + 1 := by simp
  rw [szx] at VA
  clear szx h1 h2 h
  go_enter Try.func13, Try.ntmps13
  go_wp2_with fail
  generalize ((w.alloc (.cells #[.int .i64 u, .slice A l.length C] 33)).alloc (.cells #[.string t] 9)).alloc (.cells #[.string (ByteArray.mk #[]), .int .i64 0, .int .i64 0, .bool false] 39) = W at h3 hA v1 t0 VA ⊢
  refine (indexA_any (w.heap.size + 1) t (.slice A l.length C) l W hA t0).mono ?_
  rintro e w1 ⟨i, rfl, HF, b1⟩
  have hA := hA.below b1
  have v1 := (b1.cell (p := ⟨w.heap.size, 1, none⟩) (World.block_lt_of_cell? _ _ v1)).trans v1
  have t0 := (b1.cell (p := ⟨w.heap.size + 1, 0, none⟩) (World.block_lt_of_cell? _ _ t0)).trans t0
  obtain ⟨g0, g1, g2, g3, fr⟩ := VA.below b1
  have f0 := fr 0
  have f1 := fr 1
  have f2 := fr 2
  have f3 := fr 3
  clear VA fr
  rcases HF with ⟨rfl, hg⟩ | ⟨r, a, hr, rfl, hg⟩
  · have HG : Hid (Vw.get l (nb t) = Vw.fresh (nb t)) := hg
    clear hg hA
    go_wp2_with fail
    refine bodyPost_ret (v := .agg #[.string t, .int .i64 0, .int .i64 0, .bool false]) (by simp [results, Try.results13, go_sem, g0, g1, g2, g3]) rfl ⟨⟨_, rfl, ?_⟩, ?_⟩
    · rw [HG.out]
      exact ⟨t, ht, rfl, rfl⟩
    · exact ((((bt h3 b1).setCell (by show w.heap.size ≤ w.heap.size + 1 + 1; omega) _).setCell (by show w.heap.size ≤ w.heap.size + 1 + 1; omega) _).setCell (by show w.heap.size ≤ w.heap.size + 1 + 1; omega) _).setCell (by show w.heap.size ≤ w.heap.size + 1 + 1; omega) _
  · have HG : Hid (Vw.get l (nb t) = a) := hg
    have hrl : r < l.length := (List.getElem?_eq_some_iff.1 hr).1
    have hln := hA.len
    obtain ⟨b, o, C', hv, _, _, hin⟩ := hA.some (by omega)
    cases hv
    obtain ⟨s, hs1, hs2, d0, d1, d2, d3⟩ := hin r a hr
    have HN : Hid (nb s = a.name) := hs2
    have hr0 : ¬ (r : Int) < 0 := by omega
    have hrl' : (r : Int) < (l.length : Int) := by omega
    clear hg hA hr hs2 hin
    go_wp2_with fail
    refine bodyPost_ret (v := .agg #[.string s, .int .i64 a.sum, .int .i64 a.cnt, .bool a.opn]) (by simp [results, Try.results13, go_sem, g0, g1, g2, g3]) rfl ⟨⟨_, rfl, ?_⟩, ?_⟩
    · rw [HG.out]
      exact ⟨s, hs1, HN.out, rfl⟩
    · exact ((((bt h3 b1).setCell (by show w.heap.size ≤ w.heap.size + 1 + 1; omega) _).setCell (by show w.heap.size ≤ w.heap.size + 1 + 1; omega) _).setCell (by show w.heap.size ≤ w.heap.size + 1 + 1; omega) _).setCell (by show w.heap.size ≤ w.heap.size + 1 + 1; omega) _

/-- A bool is told. -/
theorem may_1 {a : Vw.Acc} {e : Evt.Ev} (h : e.kind = 1) : Vw.may a e = !a.opn := if_pos h
theorem may_24 {a : Vw.Acc} {e : Evt.Ev} (h : e.kind = 2 ∨ e.kind = 4) : Vw.may a e = a.opn := by unfold Vw.may; rw [if_neg (by omega), if_pos h]
theorem may_3 {a : Vw.Acc} {e : Evt.Ev} (h : e.kind = 3) : Vw.may a e = (a.opn && decide (e.num ≤ a.sum)) := by unfold Vw.may; rw [if_neg (by omega), if_neg (by omega), if_pos h]
theorem may_no {a : Vw.Acc} {e : Evt.Ev} (h1 : e.kind ≠ 1) (h2 : e.kind ≠ 2) (h3 : e.kind ≠ 3) (h4 : e.kind ≠ 4) : Vw.may a e = false := by unfold Vw.may; rw [if_neg h1, if_neg (by omega), if_neg h3]

set_option maxHeartbeats 1000000 in
set_option maxRecDepth 100000 in
theorem may_any (s s' : ByteArray) (S c k m : Int) (b : Bool) (w : World) :
    Calls Try.prog 16 #[.agg #[.string s, .int .i64 S, .int .i64 c, .bool b], .agg #[.string s', .int .i64 k, .int .i64 m]] w fun e w' => e = .returned (.bool (Vw.may ⟨nb s, S, c, b⟩ ⟨nb s', k, m⟩)) ∧ Below w.heap.size w w' := by
  have h1 : Below w.heap.size w (w.alloc (.cells #[.string s, .int .i64 S, .int .i64 c, .bool b] 39)) := (Below.refl _ _).alloc (Nat.le_refl _) _
  have h2 := h1.alloc h1.size (.cells #[.string s', .int .i64 k, .int .i64 m] 42)
  by_cases q1 : k = 1
  · have H : Hid (Vw.may ⟨nb s, S, c, b⟩ ⟨nb s', k, m⟩ = !b) := may_1 q1
    subst q1
    go_enter Try.func16, Try.ntmps16
    go_wp2_with fail
    go_ret
    exact ⟨by rw [H.out]; rfl, h2⟩
  have e1 : (k == 1) = false := by rw [beq_eq_false_iff_ne]; exact q1
  by_cases q2 : k = 2
  · have H : Hid (Vw.may ⟨nb s, S, c, b⟩ ⟨nb s', k, m⟩ = b) := may_24 (Or.inl q2)
    subst q2
    clear q1 e1
    go_enter Try.func16, Try.ntmps16
    go_wp2_with fail
    go_ret
    exact ⟨by rw [H.out]; rfl, h2⟩
  have e2 : (k == 2) = false := by rw [beq_eq_false_iff_ne]; exact q2
  by_cases q4 : k = 4
  · have H : Hid (Vw.may ⟨nb s, S, c, b⟩ ⟨nb s', k, m⟩ = b) := may_24 (Or.inr q4)
    subst q4
    clear q1 e1 q2 e2
    go_enter Try.func16, Try.ntmps16
    go_wp2_with fail
    go_ret
    exact ⟨by rw [H.out]; rfl, h2⟩
  have e4 : (k == 4) = false := by rw [beq_eq_false_iff_ne]; exact q4
  by_cases q3 : k = 3
  · have H : Hid (Vw.may ⟨nb s, S, c, b⟩ ⟨nb s', k, m⟩ = (b && decide (m ≤ S))) := may_3 q3
    subst q3
    clear q1 e1 q2 e2 q4 e4
    cases b with
    | false =>
      go_enter Try.func16, Try.ntmps16
      go_wp2_with fail
      go_ret
      exact ⟨by rw [H.out]; rfl, h2⟩
    | true =>
      go_enter Try.func16, Try.ntmps16
      go_wp2_with fail
      go_ret
      exact ⟨by rw [H.out]; rfl, h2⟩
  have e3 : (k == 3) = false := by rw [beq_eq_false_iff_ne]; exact q3
  have H : Hid (Vw.may ⟨nb s, S, c, b⟩ ⟨nb s', k, m⟩ = false) := may_no q1 q2 q3 q4
  clear q1 q2 q3 q4
  go_enter Try.func16, Try.ntmps16
  go_wp2_with fail
  go_ret
  exact ⟨by rw [H.out]; rfl, h2⟩

end Go.Proofs.Ytabolanakcmgfae
