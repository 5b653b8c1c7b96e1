/-
  What event.WrongBatch and event.wrongList do, call by call.
-/
import Derived.Test.YtniaffofeeieeadXNamed
namespace Go.Proofs.Ytniaffofeeieead
open Go.RowKit

set_option maxHeartbeats 1000000 in
theorem wrongB_any (c : Int) (vs : Value) (es : List Evt.Ev) (w : World) (h : Evs w vs es) :
    Calls Try.prog 10 #[.agg #[.int .i64 c, vs]] w fun e w' => e = .returned (.agg #[.int .i64 ((Evt.wrongB ⟨c, es⟩).1 : Nat), .int .i64 ((Evt.wrongB ⟨c, es⟩).2 : Nat)]) ∧ Below w.heap.size w w' := by
  obtain ⟨A, C, rfl⟩ := h.shape
  have hb0 : Below w.heap.size w (w.alloc (.cells #[.int .i64 c, .slice A es.length C] 31)) := (Below.refl _ _).alloc (Nat.le_refl _) _
  have hb1 : Below w.heap.size w ((w.alloc (.cells #[.int .i64 c, .slice A es.length C] 31)).alloc (.cells #[.int .i64 0, .int .i64 0] 33)) := hb0.alloc hb0.size _
  by_cases q0 : c < 1
  · have H : Hid (Evt.wrongB ⟨c, es⟩ = (3, 0)) := Evt.wrongB_range (Or.inl q0)
    go_enter Try.func10, Try.ntmps10
    go_wp2_with fail
    refine bodyPost_ret (v := .agg #[.int .i64 3, .int .i64 0]) (by simp [results, Try.results10, go_sem]) rfl ⟨by rw [H.out]; rfl, ?_⟩
    exact hb0.alloc hb0.size _
  by_cases q1 : 1000000 < c
  · have H : Hid (Evt.wrongB ⟨c, es⟩ = (3, 0)) := Evt.wrongB_range (Or.inr q1)
    go_enter Try.func10, Try.ntmps10
    go_wp2_with fail
    refine bodyPost_ret (v := .agg #[.int .i64 3, .int .i64 0]) (by simp [results, Try.results10, go_sem]) rfl ⟨by rw [H.out]; rfl, ?_⟩
    exact hb0.alloc hb0.size _
  have hk : Hid (¬ (c < 1 ∨ 1000000 < c)) := show ¬ (_ ∨ _) by omega
  by_cases q2 : es.length = 0
  · have H : Hid (Evt.wrongB ⟨c, es⟩ = (5, 0)) := Evt.wrongB_many hk.out (Or.inl q2)
    have g2 : (es.length : Int) < 1 := by omega
    clear q2
    go_enter Try.func10, Try.ntmps10
    go_wp2_with fail
    refine bodyPost_ret (v := .agg #[.int .i64 5, .int .i64 0]) (by simp [results, Try.results10, go_sem]) rfl ⟨by rw [H.out]; rfl, ?_⟩
    exact hb0.alloc hb0.size _
  have g2 : ¬ (es.length : Int) < 1 := by omega
  by_cases q3 : 10 < es.length
  · have H : Hid (Evt.wrongB ⟨c, es⟩ = (5, 0)) := Evt.wrongB_many hk.out (Or.inr q3)
    have g3 : (10 : Int) < (es.length : Int) := by omega
    go_enter Try.func10, Try.ntmps10
    go_wp2_with fail
    refine bodyPost_ret (v := .agg #[.int .i64 5, .int .i64 0]) (by simp [results, Try.results10, go_sem]) rfl ⟨by rw [H.out]; rfl, ?_⟩
    exact hb0.alloc hb0.size _
  have g3 : ¬ (10 : Int) < (es.length : Int) := by omega
  have HE : Hid (Evt.wrongB ⟨c, es⟩ = Evt.firstE es 0) := Evt.wrongB_else hk.out (show ¬ (es.length = 0 ∨ 10 < es.length) by omega)
  obtain ⟨b, o, C', hv, hc1, hc2, hc⟩ := h.some (by omega)
  cases hv
  have VF := varF_new (w.alloc (.cells #[.int .i64 c, .slice (some ⟨b, o, none⟩) es.length C] 31)) 33 (.int .i64 0) (.int .i64 0)
  have szx : (w.alloc (.cells #[.int .i64 c, .slice (some ⟨b, o, none⟩) es.length C] 31)).heap.size = w.heap.size + 1 := by simp
  rw [szx] at VF
  clear szx
  go_enter Try.func10, Try.ntmps10
  go_wp2_with fail
  generalize (w.alloc (.cells #[.int .i64 c, .slice (some ⟨b, o, none⟩) es.length C] 31)).alloc (.cells #[.int .i64 0, .int .i64 0] 33) = W0 at hb1 VF ⊢
  go_loopw [29] (fun x wr => ∃ k : Nat, k ≤ es.length ∧ x = .int .i64 k ∧ Hid (∀ j, j < k → ∃ e, es[j]? = some e ∧ Evt.wrongE e = 0) ∧ Below W0.heap.size W0 wr) (fun x _ => es.length - (intOf x).toNat)
  case atStart => exact ⟨0, Nat.zero_le _, rfl, fun j hj => absurd hj (Nat.not_lt_zero j), Below.refl _ _⟩
  case round =>
    obtain ⟨k, hkl, rfl, HS, hbr⟩ := hrel
    have bz := bt hb1 hbr
    by_cases hlt : k < es.length
    · have hlt' : (k : Int) < (es.length : Int) := by omega
      obtain ⟨ev, hev⟩ : ∃ ev, es[k]? = some ev := ⟨es[k], List.getElem?_eq_getElem hlt⟩
      have HEV : Hid (es[k]? = some ev) := hev
      obtain ⟨s, hs1, hs2, d0, d1, d2⟩ := (hc k ev hev).below bz
      have HNM : Hid (nb s = ev.name) := hs2
      have HW := wrongE_any s ev.kind ev.num (wr.alloc (.cells #[.string s, .int .i64 ev.kind, .int .i64 ev.num] 24)) hs1
      have HQ : Hid (Evt.wrongE ⟨nb s, ev.kind, ev.num⟩ = Evt.wrongE ev) := by
        show Evt.wrongE _ = _
        rw [hs2]
      clear hev hs2 hc
      rw [HQ.out] at HW
      have bA : Below wr.heap.size wr (wr.alloc (.cells #[.string s, .int .i64 ev.kind, .int .i64 ev.num] 24)) := (Below.refl _ _).alloc (Nat.le_refl _) _
      by_cases hE : Evt.wrongE ev = 0
      · have HE0 : Hid (Evt.wrongE ev = 0) := hE
        rw [hE] at HW
        clear hE
        go_wp2_with fail
        refine HW.mono ?_
        rintro e w1 ⟨rfl, b1⟩
        have b1 := bt bA b1
        clear HW
        go_wp2_with fail
        refine ⟨⟨k + 1, by omega, by go_num, fun j hj => ?_, bt hbr b1⟩, by simp [intOf]; omega⟩
        by_cases e : j = k
        · rw [e]; exact ⟨ev, HEV.out, HE0.out⟩
        · exact HS.out j (by omega)
      · have HE1 : Hid (Evt.firstE es 0 = (Evt.wrongE ev, k)) := Evt.firstE_some es k ev HEV.out hE HS.out
        generalize Evt.wrongE ev = x at HW HE1 hE
        have hx' : ((x : Int) == 0) = false := by rw [beq_eq_false_iff_ne]; omega
        have hxn : ((x : Int) != 0) = true := by rw [bne, hx']; rfl
        clear hE
        go_wp2_with fail
        refine HW.mono ?_
        rintro e w1 ⟨rfl, b1⟩
        have b1 := bt bA b1
        obtain ⟨c0, c1, fr⟩ := (VF.below hbr).below b1
        have f0 := fr 0
        have f1 := fr 1
        clear HW
        go_wp2_with fail
        refine bodyPost_ret (v := .agg #[.int .i64 (x : Nat), .int .i64 (k : Nat)]) (by simp [results, Try.results10, go_sem, c0, c1]) rfl ⟨by rw [HE.out, HE1.out], ?_⟩
        exact ((bt bz b1).setCell (Nat.le_succ _) _).setCell (Nat.le_succ _) _
    · obtain rfl : k = es.length := by omega
      have HZ : Hid (Evt.firstE es 0 = (0, 0)) := Evt.firstE_none es 0 (fun e he => by
        obtain ⟨j, hj, rfl⟩ := List.mem_iff_getElem.1 he
        obtain ⟨e', h1, h2⟩ := HS.out j hj
        rw [List.getElem?_eq_getElem hj, Option.some.injEq] at h1
        rw [h1]
        exact h2)
      obtain ⟨c0, c1, fr⟩ := VF.below hbr
      have f0 := fr 0
      have f1 := fr 1
      clear hc
      go_wp2_with fail
      refine bodyPost_ret (v := .agg #[.int .i64 0, .int .i64 0]) (by simp [results, Try.results10, go_sem, c0, c1]) rfl ⟨by rw [HE.out, HZ.out]; rfl, ?_⟩
      exact (bz.setCell (Nat.le_succ _) _).setCell (Nat.le_succ _) _

theorem Bats.shape {w : World} {v : Value} {l : List Evt.Bat} (h : Bats w v l) : ∃ A C, v = .slice A l.length C := by
  obtain ⟨A, C, hv, _⟩ := h
  exact ⟨A, C, hv⟩
theorem Bats.len {w : World} {v : Value} {l : List Evt.Bat} (h : Bats w v l) : l.length ≤ 9223372036854775807 := by
  obtain ⟨A, C, hv, h1, h2, _⟩ := h
  unfold maxLen at h2
  omega
theorem wrongL_many {l : List Evt.Bat} (h : 150 < l.length) : Evt.wrongL l = (5, 0) := if_pos h
theorem wrongL_else {l : List Evt.Bat} (h : ¬ 150 < l.length) : Evt.wrongL l = Evt.firstB l 0 := if_neg h

set_option maxHeartbeats 1000000 in
theorem wrongL_any (v : Value) (l : List Evt.Bat) (w : World) (h : Bats w v l) :
    Calls Try.prog 20 #[v] w fun e w' => e = .returned (.agg #[.int .i64 ((Evt.wrongL l).1 : Nat), .int .i64 ((Evt.wrongL l).2 : Nat)]) ∧ Below w.heap.size w w' := by
  obtain ⟨A, C, rfl⟩ := h.shape
  have hl := h.len
  have hb1 : Below w.heap.size w (w.alloc (.cells #[.int .i64 0, .int .i64 0] 33)) := (Below.refl _ _).alloc (Nat.le_refl _) _
  by_cases q3 : 150 < l.length
  · have H : Hid (Evt.wrongL l = (5, 0)) := wrongL_many q3
    have g3 : (150 : Int) < (l.length : Int) := by omega
    go_enter Try.func20, Try.ntmps20
    go_wp2_with fail
    refine bodyPost_ret (v := .agg #[.int .i64 5, .int .i64 0]) (by simp [results, Try.results20, go_sem]) rfl ⟨by rw [H.out]; rfl, ?_⟩
    exact (Below.refl _ _).alloc (Nat.le_refl _) _
  have g3 : ¬ (150 : Int) < (l.length : Int) := by omega
  have HE : Hid (Evt.wrongL l = Evt.firstB l 0) := wrongL_else q3
  have VF := varF_new w 33 (.int .i64 0) (.int .i64 0)
  have hc : Hid (∀ i x, l[i]? = some x → ∃ b o, A = some ⟨b, o, none⟩ ∧ BatIn w b (o + i * 2) x) := by
    obtain ⟨A', C', hv, _, _, hc⟩ := h
    cases hv
    exact hc
  clear h
  go_enter Try.func20, Try.ntmps20
  go_wp2_with fail
  generalize w.alloc (.cells #[.int .i64 0, .int .i64 0] 33) = W0 at hb1 VF ⊢
  go_loopw [12] (fun x wr => ∃ k : Nat, k ≤ l.length ∧ x = .int .i64 k ∧ Hid (∀ j, j < k → ∃ e, l[j]? = some e ∧ (Evt.wrongB e).1 = 0) ∧ Below W0.heap.size W0 wr) (fun x _ => l.length - (intOf x).toNat)
  case atStart => exact ⟨0, Nat.zero_le _, rfl, fun j hj => absurd hj (Nat.not_lt_zero j), Below.refl _ _⟩
  case round =>
    obtain ⟨k, hkl, rfl, HS, hbr⟩ := hrel
    have bz := bt hb1 hbr
    by_cases hlt : k < l.length
    · have hlt' : (k : Int) < (l.length : Int) := by omega
      obtain ⟨x, hx⟩ : ∃ x, l[k]? = some x := ⟨l[k], List.getElem?_eq_getElem hlt⟩
      have HEV : Hid (l[k]? = some x) := hx
      obtain ⟨b, o, rfl, hin⟩ := hc.out k x hx
      obtain ⟨vs, d0, d1, he⟩ := hin.below bz
      have bA : Below wr.heap.size wr (wr.alloc (.cells #[.int .i64 x.cmd, vs] 31)) := (Below.refl _ _).alloc (Nat.le_refl _) _
      have HW := wrongB_any x.cmd vs x.evs _ (he.below bA)
      have HQ : Hid (Evt.wrongB ⟨x.cmd, x.evs⟩ = Evt.wrongB x) := rfl
      rw [HQ.out] at HW
      obtain ⟨As, Cs, rfl⟩ := he.shape
      clear hx hin he
      by_cases hE : (Evt.wrongB x).1 = 0
      · have HE0 : Hid ((Evt.wrongB x).1 = 0) := hE
        rw [hE] at HW
        generalize (Evt.wrongB x).2 = y at HW
        clear hE
        go_wp2_with fail
        refine HW.mono ?_
        rintro e w1 ⟨rfl, b1⟩
        have b1 := bt bA b1
        have b2 : Below wr.heap.size wr (w1.alloc (.cells #[.int .i64 0, .int .i64 (y : Nat)] 33)) := b1.alloc b1.size _
        clear HW
        go_wp2_with fail
        refine ⟨⟨k + 1, by omega, by go_num, fun j hj => ?_, bt hbr b2⟩, by simp [intOf]; omega⟩
        by_cases e : j = k
        · rw [e]; exact ⟨x, HEV.out, HE0.out⟩
        · exact HS.out j (by omega)
      · have HE1 : Hid (Evt.firstB l 0 = ((Evt.wrongB x).1, k)) := Evt.firstB_some l k x HEV.out hE HS.out
        generalize (Evt.wrongB x).1 = x1 at HW HE1 hE
        generalize (Evt.wrongB x).2 = y at HW
        have hx' : ((x1 : Int) == 0) = false := by rw [beq_eq_false_iff_ne]; omega
        have hxn : ((x1 : Int) != 0) = true := by rw [bne, hx']; rfl
        clear hE
        go_wp2_with fail
        refine HW.mono ?_
        rintro e w1 ⟨rfl, b1⟩
        have b1 := bt bA b1
        have b2 : Below wr.heap.size wr (w1.alloc (.cells #[.int .i64 (x1 : Nat), .int .i64 (y : Nat)] 33)) := b1.alloc b1.size _
        obtain ⟨c0, c1, fr⟩ := (VF.below hbr).below b2
        have f0 := fr 0
        have f1 := fr 1
        clear HW
        go_wp2_with fail
        refine bodyPost_ret (v := .agg #[.int .i64 (x1 : Nat), .int .i64 (k : Nat)]) (by simp [results, Try.results20, go_sem, c0, c1]) rfl ⟨by rw [HE.out, HE1.out], ?_⟩
        exact ((bt bz b2).setCell (Nat.le_refl _) _).setCell (Nat.le_refl _) _
    · obtain rfl : k = l.length := by omega
      have HZ : Hid (Evt.firstB l 0 = (0, 0)) := Evt.firstB_none l 0 (fun e he => by
        obtain ⟨j, hj, rfl⟩ := List.mem_iff_getElem.1 he
        obtain ⟨e', h1, h2⟩ := HS.out j hj
        rw [List.getElem?_eq_getElem hj, Option.some.injEq] at h1
        rw [h1]
        exact h2)
      obtain ⟨c0, c1, fr⟩ := VF.below hbr
      have f0 := fr 0
      have f1 := fr 1
      go_wp2_with fail
      refine bodyPost_ret (v := .agg #[.int .i64 0, .int .i64 0]) (by simp [results, Try.results20, go_sem, c0, c1]) rfl ⟨by rw [HE.out, HZ.out]; rfl, ?_⟩
      exact (bz.setCell (Nat.le_refl _) _).setCell (Nat.le_refl _) _

end Go.Proofs.Ytniaffofeeieead
