/-
  Lists of events and of batches as they lie in memory.
-/
import Derived.Test.YtniaffofeeieeadEWrong
namespace Go.Proofs.Ytniaffofeeieead
open Go.RowKit

/-- An event lies at (b, o). -/
def EvIn (w : World) (b o : Nat) (e : Evt.Ev) : Prop := ∃ s : ByteArray, s.size ≤ 9223372036854775807 ∧ nb s = e.name ∧ w.cell? ⟨b, o, none⟩ = some (.string s) ∧ w.cell? ⟨b, o + 1, none⟩ = some (.int .i64 e.kind) ∧ w.cell? ⟨b, o + 2, none⟩ = some (.int .i64 e.num)
theorem EvIn.below {w w' : World} {b o : Nat} {e : Evt.Ev} (h : EvIn w b o e) (hb : Below w.heap.size w w') : EvIn w' b o e := by
  obtain ⟨s, h1, h2, c0, c1, c2⟩ := h
  have hp : b < w.heap.size := World.block_lt_of_cell? _ _ c0
  exact ⟨s, h1, h2, (hb.cell (p := ⟨b, o, none⟩) hp).trans c0, (hb.cell (p := ⟨b, o + 1, none⟩) hp).trans c1, (hb.cell (p := ⟨b, o + 2, none⟩) hp).trans c2⟩
/-- A list of events. -/
def Evs (w : World) (v : Value) (es : List Evt.Ev) : Prop := ∃ A cap, v = .slice A es.length cap ∧ es.length ≤ cap ∧ cap ≤ maxLen ∧ ∀ i e, es[i]? = some e → ∃ b o, A = some ⟨b, o, none⟩ ∧ EvIn w b (o + i * 3) e
theorem Evs.below {w w' : World} {v : Value} {es : List Evt.Ev} (h : Evs w v es) (hb : Below w.heap.size w w') : Evs w' v es := by
  obtain ⟨A, cap, hv, h1, h2, h3⟩ := h
  refine ⟨A, cap, hv, h1, h2, fun i e he => ?_⟩
  obtain ⟨b, o, hA, hi⟩ := h3 i e he
  exact ⟨b, o, hA, hi.below hb⟩
theorem Evs.some {w : World} {v : Value} {es : List Evt.Ev} (h : Evs w v es) (hn : 1 ≤ es.length) : ∃ b o cap, v = .slice (some ⟨b, o, none⟩) es.length cap ∧ es.length ≤ cap ∧ cap ≤ 9223372036854775807 ∧ ∀ i e, es[i]? = some e → EvIn w b (o + i * 3) e := by
  obtain ⟨A, cap, hv, h1, h2, h3⟩ := h
  obtain ⟨b, o, rfl, _⟩ := h3 0 es[0] (List.getElem?_eq_getElem hn)
  refine ⟨b, o, cap, hv, h1, h2, fun i e he => ?_⟩
  obtain ⟨b', o', e1, e2⟩ := h3 i e he
  cases e1
  exact e2
/-- A batch lies at (b, o). -/
def BatIn (w : World) (b o : Nat) (x : Evt.Bat) : Prop := ∃ v, w.cell? ⟨b, o, none⟩ = some (.int .i64 x.cmd) ∧ w.cell? ⟨b, o + 1, none⟩ = some v ∧ Evs w v x.evs
theorem BatIn.below {w w' : World} {b o : Nat} {x : Evt.Bat} (h : BatIn w b o x) (hb : Below w.heap.size w w') : BatIn w' b o x := by
  obtain ⟨v, c0, c1, he⟩ := h
  have hp : b < w.heap.size := World.block_lt_of_cell? _ _ c0
  exact ⟨v, (hb.cell (p := ⟨b, o, none⟩) hp).trans c0, (hb.cell (p := ⟨b, o + 1, none⟩) hp).trans c1, he.below hb⟩
/-- A list of batches. -/
def Bats (w : World) (v : Value) (l : List Evt.Bat) : Prop := ∃ A cap, v = .slice A l.length cap ∧ l.length ≤ cap ∧ cap ≤ maxLen ∧ ∀ i x, l[i]? = some x → ∃ b o, A = some ⟨b, o, none⟩ ∧ BatIn w b (o + i * 2) x
theorem Bats.below {w w' : World} {v : Value} {l : List Evt.Bat} (h : Bats w v l) (hb : Below w.heap.size w w') : Bats w' v l := by
  obtain ⟨A, cap, hv, h1, h2, h3⟩ := h
  refine ⟨A, cap, hv, h1, h2, fun i e he => ?_⟩
  obtain ⟨b, o, hA, hi⟩ := h3 i e he
  exact ⟨b, o, hA, hi.below hb⟩
theorem Bats.some {w : World} {v : Value} {l : List Evt.Bat} (h : Bats w v l) (hn : 1 ≤ l.length) : ∃ b o cap, v = .slice (some ⟨b, o, none⟩) l.length cap ∧ l.length ≤ cap ∧ cap ≤ 9223372036854775807 ∧ ∀ i x, l[i]? = some x → BatIn w b (o + i * 2) x := by
  obtain ⟨A, cap, hv, h1, h2, h3⟩ := h
  obtain ⟨b, o, rfl, _⟩ := h3 0 l[0] (List.getElem?_eq_getElem hn)
  refine ⟨b, o, cap, hv, h1, h2, fun i e he => ?_⟩
  obtain ⟨b', o', e1, e2⟩ := h3 i e he
  cases e1
  exact e2
theorem Evs.shape {w : World} {v : Value} {es : List Evt.Ev} (h : Evs w v es) : ∃ A C, v = .slice A es.length C := by
  obtain ⟨A, C, hv, _⟩ := h
  exact ⟨A, C, hv⟩

/-- The two cells of a fault's variable. -/
structure VarF (w : World) (p : Nat) (a b : Value) : Prop where
  c0 : w.cell? ⟨p, 0, none⟩ = some a
  c1 : w.cell? ⟨p, 1, none⟩ = some b
  fr : ∀ i, w.frozen? ⟨p, i, none⟩ = false
theorem varF_new (w : World) (t : TypeId) (a b : Value) : VarF (w.alloc (.cells #[a, b] t)) w.heap.size a b := by
  have hr := World.rowIs_alloc w #[a, b] t (fun k => #[a, b].getD k a) (fun i hi => by simp only [Array.getElem?_eq_getElem hi, Array.getD, hi, dif_pos]; rfl)
  exact ⟨hr.cell (i := 0) (by simp), hr.cell (i := 1) (by simp), fun i => hr.frozen i⟩
theorem VarF.below {w w' : World} {p : Nat} {a b : Value} (h : VarF w p a b) (hb : Below w.heap.size w w') : VarF w' p a b := by
  have hp : p < w.heap.size := World.block_lt_of_cell? _ _ h.c0
  exact ⟨(hb.cell (p := ⟨p, 0, none⟩) hp).trans h.c0, (hb.cell (p := ⟨p, 1, none⟩) hp).trans h.c1, fun i => by
    rw [← h.fr i]
    exact World.frozen?_of_block (hb.block p hp)⟩

set_option maxHeartbeats 1000000 in
theorem refWrongB_any (c : Int) (vs : Value) (es : List Evt.Ev) (w : World) (h : Evs w vs es) :
    Calls Try.prog 11 #[.agg #[.int .i64 c, vs]] w fun e w' => e = .returned (.agg #[.int .i64 ((Evt.wrongB ⟨c, es⟩).1 : Nat), .int .i64 ((Evt.wrongB ⟨c, es⟩).2 : Nat)]) ∧ Below w.heap.size w w' := by
  obtain ⟨A, C, rfl⟩ := h.shape
  have hb0 : Below w.heap.size w (w.alloc (.cells #[.int .i64 c, .slice A es.length C] 31)) := (Below.refl _ _).alloc (Nat.le_refl _) _
  have hb1 : Below w.heap.size w ((w.alloc (.cells #[.int .i64 c, .slice A es.length C] 31)).alloc (.cells #[.int .i64 0, .int .i64 0] 33)) := hb0.alloc hb0.size _
  by_cases q0 : c < 1
  · have H : Hid (Evt.wrongB ⟨c, es⟩ = (3, 0)) := Evt.wrongB_range (Or.inl q0)
    go_enter Try.func11, Try.ntmps11
    go_wp2_with fail
    refine bodyPost_ret (v := .agg #[.int .i64 3, .int .i64 0]) (by simp [results, Try.results11, go_sem]) rfl ⟨by rw [H.out]; rfl, ?_⟩
    exact hb0.alloc hb0.size _
  by_cases q1 : 1000000 < c
  · have H : Hid (Evt.wrongB ⟨c, es⟩ = (3, 0)) := Evt.wrongB_range (Or.inr q1)
    go_enter Try.func11, Try.ntmps11
    go_wp2_with fail
    refine bodyPost_ret (v := .agg #[.int .i64 3, .int .i64 0]) (by simp [results, Try.results11, go_sem]) rfl ⟨by rw [H.out]; rfl, ?_⟩
    exact hb0.alloc hb0.size _
  have hk : Hid (¬ (c < 1 ∨ 1000000 < c)) := show ¬ (_ ∨ _) by omega
  by_cases q2 : es.length = 0
  · have H : Hid (Evt.wrongB ⟨c, es⟩ = (5, 0)) := Evt.wrongB_many hk.out (Or.inl q2)
    have g2 : ((es.length : Int) == 0) = true := by rw [beq_iff_eq]; omega
    clear q2
    go_enter Try.func11, Try.ntmps11
    go_wp2_with fail
    refine bodyPost_ret (v := .agg #[.int .i64 5, .int .i64 0]) (by simp [results, Try.results11, go_sem]) rfl ⟨by rw [H.out]; rfl, ?_⟩
    exact hb0.alloc hb0.size _
  have g2 : ((es.length : Int) == 0) = false := by rw [beq_eq_false_iff_ne]; omega
  by_cases q3 : 10 < es.length
  · have H : Hid (Evt.wrongB ⟨c, es⟩ = (5, 0)) := Evt.wrongB_many hk.out (Or.inr q3)
    have g3 : (10 : Int) < (es.length : Int) := by omega
    go_enter Try.func11, Try.ntmps11
    go_wp2_with fail
    refine bodyPost_ret (v := .agg #[.int .i64 5, .int .i64 0]) (by simp [results, Try.results11, go_sem]) rfl ⟨by rw [H.out]; rfl, ?_⟩
    exact hb0.alloc hb0.size _
  have g3 : ¬ (10 : Int) < (es.length : Int) := by omega
  have HE : Hid (Evt.wrongB ⟨c, es⟩ = Evt.firstE es 0) := Evt.wrongB_else hk.out (show ¬ (es.length = 0 ∨ 10 < es.length) by omega)
  obtain ⟨b, o, C', hv, hc1, hc2, hc⟩ := h.some (by omega)
  cases hv
  have VF := varF_new (w.alloc (.cells #[.int .i64 c, .slice (some ⟨b, o, none⟩) es.length C] 31)) 33 (.int .i64 0) (.int .i64 0)
  have szx : (w.alloc (.cells #[.int .i64 c, .slice (some ⟨b, o, none⟩) es.length C] 31)).heap.size = w.heap.size + 1 := by simp
  rw [szx] at VF
  clear szx
  go_enter Try.func11, Try.ntmps11
  go_wp2_with fail
  generalize (w.alloc (.cells #[.int .i64 c, .slice (some ⟨b, o, none⟩) es.length C] 31)).alloc (.cells #[.int .i64 0, .int .i64 0] 33) = W0 at hb1 VF ⊢
  go_loopw [29] (fun x wr => ∃ k : Nat, k ≤ es.length ∧ x = .int .i64 k ∧ Hid (∀ j, j < k → ∃ e, es[j]? = some e ∧ Evt.wrongE e = 0) ∧ Below W0.heap.size W0 wr) (fun x _ => es.length - (intOf x).toNat)
  case atStart => exact ⟨0, Nat.zero_le _, rfl, fun j hj => absurd hj (Nat.not_lt_zero j), Below.refl _ _⟩
  case round =>
    obtain ⟨k, hkl, rfl, HS, hbr⟩ := hrel
    have bz := bt hb1 hbr
    by_cases hlt : k < es.length
    · have hlt' : (k : Int) < (es.length : Int) := by omega
      obtain ⟨ev, hev⟩ : ∃ ev, es[k]? = some ev := ⟨es[k], List.getElem?_eq_getElem hlt⟩
      have HEV : Hid (es[k]? = some ev) := hev
      obtain ⟨s, hs1, hs2, d0, d1, d2⟩ := (hc k ev hev).below bz
      have HNM : Hid (nb s = ev.name) := hs2
      have HW := refWrongE_any s ev.kind ev.num (wr.alloc (.cells #[.string s, .int .i64 ev.kind, .int .i64 ev.num] 24)) hs1
      have HQ : Hid (Evt.wrongE ⟨nb s, ev.kind, ev.num⟩ = Evt.wrongE ev) := by
        show Evt.wrongE _ = _
        rw [hs2]
      clear hev hs2 hc
      rw [HQ.out] at HW
      have bA : Below wr.heap.size wr (wr.alloc (.cells #[.string s, .int .i64 ev.kind, .int .i64 ev.num] 24)) := (Below.refl _ _).alloc (Nat.le_refl _) _
      by_cases hE : Evt.wrongE ev = 0
      · have HE0 : Hid (Evt.wrongE ev = 0) := hE
        rw [hE] at HW
        clear hE
        go_wp2_with fail
        refine HW.mono ?_
        rintro e w1 ⟨rfl, b1⟩
        have b1 := bt bA b1
        clear HW
        go_wp2_with fail
        refine ⟨⟨k + 1, by omega, by go_num, fun j hj => ?_, bt hbr b1⟩, by simp [intOf]; omega⟩
        by_cases e : j = k
        · rw [e]; exact ⟨ev, HEV.out, HE0.out⟩
        · exact HS.out j (by omega)
      · have HE1 : Hid (Evt.firstE es 0 = (Evt.wrongE ev, k)) := Evt.firstE_some es k ev HEV.out hE HS.out
        generalize Evt.wrongE ev = x at HW HE1 hE
        have hx' : ((x : Int) == 0) = false := by rw [beq_eq_false_iff_ne]; omega
        have hxn : ((x : Int) != 0) = true := by rw [bne, hx']; rfl
        clear hE
        go_wp2_with fail
        refine HW.mono ?_
        rintro e w1 ⟨rfl, b1⟩
        have b1 := bt bA b1
        obtain ⟨c0, c1, fr⟩ := (VF.below hbr).below b1
        have f0 := fr 0
        have f1 := fr 1
        clear HW
        go_wp2_with fail
        refine bodyPost_ret (v := .agg #[.int .i64 (x : Nat), .int .i64 (k : Nat)]) (by simp [results, Try.results11, go_sem, c0, c1]) rfl ⟨by rw [HE.out, HE1.out], ?_⟩
        exact ((bt bz b1).setCell (Nat.le_succ _) _).setCell (Nat.le_succ _) _
    · obtain rfl : k = es.length := by omega
      have HZ : Hid (Evt.firstE es 0 = (0, 0)) := Evt.firstE_none es 0 (fun e he => by
        obtain ⟨j, hj, rfl⟩ := List.mem_iff_getElem.1 he
        obtain ⟨e', h1, h2⟩ := HS.out j hj
        rw [List.getElem?_eq_getElem hj, Option.some.injEq] at h1
        rw [h1]
        exact h2)
      obtain ⟨c0, c1, fr⟩ := VF.below hbr
      have f0 := fr 0
      have f1 := fr 1
      clear hc
      go_wp2_with fail
      refine bodyPost_ret (v := .agg #[.int .i64 0, .int .i64 0]) (by simp [results, Try.results11, go_sem, c0, c1]) rfl ⟨by rw [HE.out, HZ.out]; rfl, ?_⟩
      exact (bz.setCell (Nat.le_succ _) _).setCell (Nat.le_succ _) _

end Go.Proofs.Ytniaffofeeieead
