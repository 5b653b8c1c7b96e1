/-
  Texts of the proof, joined: EMem, ESame, EBuf, ENum.
-/
import Derived.Test.YtmcaejooaaahdaaGreatZ13
import Derived.Laws.StructEq
namespace Go.Proofs.YtmcaejooaaahdaaGreat
open Go.RowKit

/-- An event lies at (b, o). -/
def EvIn (w : World) (b o : Nat) (e : Evt.Ev) : Prop := ∃ s : ByteArray, s.size ≤ 9223372036854775807 ∧ nb s = e.name ∧ w.cell? ⟨b, o, none⟩ = some (.string s) ∧ w.cell? ⟨b, o + 1, none⟩ = some (.int .i64 e.kind) ∧ w.cell? ⟨b, o + 2, none⟩ = some (.int .i64 e.num)
theorem EvIn.below {w w' : World} {b o : Nat} {e : Evt.Ev} (h : EvIn w b o e) (hb : Below w.heap.size w w') : EvIn w' b o e := by
  obtain ⟨s, h1, h2, c0, c1, c2⟩ := h
  have hp : b < w.heap.size := World.block_lt_of_cell? _ _ c0
  exact ⟨s, h1, h2, (hb.cell (p := ⟨b, o, none⟩) hp).trans c0, (hb.cell (p := ⟨b, o + 1, none⟩) hp).trans c1, (hb.cell (p := ⟨b, o + 2, none⟩) hp).trans c2⟩
/-- A list of events. -/
def Evs (w : World) (v : Value) (es : List Evt.Ev) : Prop := ∃ A cap, v = .slice A es.length cap ∧ es.length ≤ cap ∧ cap ≤ maxLen ∧ ∀ i e, es[i]? = some e → ∃ b o, A = some ⟨b, o, none⟩ ∧ EvIn w b (o + i * 3) e
theorem Evs.below {w w' : World} {v : Value} {es : List Evt.Ev} (h : Evs w v es) (hb : Below w.heap.size w w') : Evs w' v es := by
  obtain ⟨A, cap, hv, h1, h2, h3⟩ := h
  refine ⟨A, cap, hv, h1, h2, fun i e he => ?_⟩
  obtain ⟨b, o, hA, hi⟩ := h3 i e he
  exact ⟨b, o, hA, hi.below hb⟩
theorem Evs.some {w : World} {v : Value} {es : List Evt.Ev} (h : Evs w v es) (hn : 1 ≤ es.length) : ∃ b o cap, v = .slice (some ⟨b, o, none⟩) es.length cap ∧ es.length ≤ cap ∧ cap ≤ 9223372036854775807 ∧ ∀ i e, es[i]? = some e → EvIn w b (o + i * 3) e := by
  obtain ⟨A, cap, hv, h1, h2, h3⟩ := h
  obtain ⟨b, o, rfl, _⟩ := h3 0 es[0] (List.getElem?_eq_getElem hn)
  refine ⟨b, o, cap, hv, h1, h2, fun i e he => ?_⟩
  obtain ⟨b', o', e1, e2⟩ := h3 i e he
  cases e1
  exact e2
/-- A batch lies at (b, o). -/
def BatIn (w : World) (b o : Nat) (x : Evt.Bat) : Prop := ∃ v, w.cell? ⟨b, o, none⟩ = some (.int .i64 x.cmd) ∧ w.cell? ⟨b, o + 1, none⟩ = some v ∧ Evs w v x.evs
theorem BatIn.below {w w' : World} {b o : Nat} {x : Evt.Bat} (h : BatIn w b o x) (hb : Below w.heap.size w w') : BatIn w' b o x := by
  obtain ⟨v, c0, c1, he⟩ := h
  have hp : b < w.heap.size := World.block_lt_of_cell? _ _ c0
  exact ⟨v, (hb.cell (p := ⟨b, o, none⟩) hp).trans c0, (hb.cell (p := ⟨b, o + 1, none⟩) hp).trans c1, he.below hb⟩
/-- A list of batches. -/
def Bats (w : World) (v : Value) (l : List Evt.Bat) : Prop := ∃ A cap, v = .slice A l.length cap ∧ l.length ≤ cap ∧ cap ≤ maxLen ∧ ∀ i x, l[i]? = some x → ∃ b o, A = some ⟨b, o, none⟩ ∧ BatIn w b (o + i * 2) x
theorem Bats.below {w w' : World} {v : Value} {l : List Evt.Bat} (h : Bats w v l) (hb : Below w.heap.size w w') : Bats w' v l := by
  obtain ⟨A, cap, hv, h1, h2, h3⟩ := h
  refine ⟨A, cap, hv, h1, h2, fun i e he => ?_⟩
  obtain ⟨b, o, hA, hi⟩ := h3 i e he
  exact ⟨b, o, hA, hi.below hb⟩
theorem Bats.some {w : World} {v : Value} {l : List Evt.Bat} (h : Bats w v l) (hn : 1 ≤ l.length) : ∃ b o cap, v = .slice (some ⟨b, o, none⟩) l.length cap ∧ l.length ≤ cap ∧ cap ≤ 9223372036854775807 ∧ ∀ i x, l[i]? = some x → BatIn w b (o + i * 2) x := by
  obtain ⟨A, cap, hv, h1, h2, h3⟩ := h
  obtain ⟨b, o, rfl, _⟩ := h3 0 l[0] (List.getElem?_eq_getElem hn)
  refine ⟨b, o, cap, hv, h1, h2, fun i e he => ?_⟩
  obtain ⟨b', o', e1, e2⟩ := h3 i e he
  cases e1
  exact e2
theorem Evs.shape {w : World} {v : Value} {es : List Evt.Ev} (h : Evs w v es) : ∃ A C, v = .slice A es.length C := by
  obtain ⟨A, C, hv, _⟩ := h
  exact ⟨A, C, hv⟩

/-- The two cells of a fault's variable. -/
structure VarF (w : World) (p : Nat) (a b : Value) : Prop where
  c0 : w.cell? ⟨p, 0, none⟩ = some a
  c1 : w.cell? ⟨p, 1, none⟩ = some b
  fr : ∀ i, w.frozen? ⟨p, i, none⟩ = false
theorem varF_new (w : World) (t : TypeId) (a b : Value) : VarF (w.alloc (.cells #[a, b] t)) w.heap.size a b := by
  have hr := World.rowIs_alloc w #[a, b] t (fun k => #[a, b].getD k a) (fun i hi => by simp only [Array.getElem?_eq_getElem hi, Array.getD, hi, dif_pos]; rfl)
  exact ⟨hr.cell (i := 0) (by simp), hr.cell (i := 1) (by simp), fun i => hr.frozen i⟩
theorem VarF.below {w w' : World} {p : Nat} {a b : Value} (h : VarF w p a b) (hb : Below w.heap.size w w') : VarF w' p a b := by
  have hp : p < w.heap.size := World.block_lt_of_cell? _ _ h.c0
  exact ⟨(hb.cell (p := ⟨p, 0, none⟩) hp).trans h.c0, (hb.cell (p := ⟨p, 1, none⟩) hp).trans h.c1, fun i => by
    rw [← h.fr i]
    exact World.frozen?_of_block (hb.block p hp)⟩

set_option maxHeartbeats 1000000 in
theorem refWrongB_any (c : Int) (vs : Value) (es : List Evt.Ev) (w : World) (h : Evs w vs es) :
    Calls Tryz.prog 59 #[.agg #[.int .i64 c, vs]] w fun e w' => e = .returned (.agg #[.int .i64 ((Evt.wrongB ⟨c, es⟩).1 : Nat), .int .i64 ((Evt.wrongB ⟨c, es⟩).2 : Nat)]) ∧ Below w.heap.size w w' := by
  obtain ⟨A, C, rfl⟩ := h.shape
  have hb0 : Below w.heap.size w (w.alloc (.cells #[.int .i64 c, .slice A es.length C] 47)) := (Below.refl _ _).alloc (Nat.le_refl _) _
  have hb1 : Below w.heap.size w ((w.alloc (.cells #[.int .i64 c, .slice A es.length C] 47)).alloc (.cells #[.int .i64 0, .int .i64 0] 78)) := hb0.alloc hb0.size _
  by_cases q0 : c < 1
  · have H : Hid (Evt.wrongB ⟨c, es⟩ = (3, 0)) := Evt.wrongB_range (Or.inl q0)
    go_enter Tryz.func59, Tryz.ntmps59
    go_wp2_with fail
    refine bodyPost_ret (v := .agg #[.int .i64 3, .int .i64 0]) (by simp [results, Tryz.results59, go_sem]) rfl ⟨by rw [H.out]; rfl, ?_⟩
    exact hb0.alloc hb0.size _
  by_cases q1 : 1000000 < c
  · have H : Hid (Evt.wrongB ⟨c, es⟩ = (3, 0)) := Evt.wrongB_range (Or.inr q1)
    go_enter Tryz.func59, Tryz.ntmps59
    go_wp2_with fail
    refine bodyPost_ret (v := .agg #[.int .i64 3, .int .i64 0]) (by simp [results, Tryz.results59, go_sem]) rfl ⟨by rw [H.out]; rfl, ?_⟩
    exact hb0.alloc hb0.size _
  have hk : Hid (¬ (c < 1 ∨ 1000000 < c)) := show ¬ (_ ∨ _) by omega
  by_cases q2 : es.length = 0
  · have H : Hid (Evt.wrongB ⟨c, es⟩ = (5, 0)) := Evt.wrongB_many hk.out (Or.inl q2)
    have g2 : ((es.length : Int) == 0) = true := by rw [beq_iff_eq]; omega
    clear q2
    go_enter Tryz.func59, Tryz.ntmps59
    go_wp2_with fail
    refine bodyPost_ret (v := .agg #[.int .i64 5, .int .i64 0]) (by simp [results, Tryz.results59, go_sem]) rfl ⟨by rw [H.out]; rfl, ?_⟩
    exact hb0.alloc hb0.size _
  have g2 : ((es.length : Int) == 0) = false := by rw [beq_eq_false_iff_ne]; omega
  by_cases q3 : 10 < es.length
  · have H : Hid (Evt.wrongB ⟨c, es⟩ = (5, 0)) := Evt.wrongB_many hk.out (Or.inr q3)
    have g3 : (10 : Int) < (es.length : Int) := by omega
    go_enter Tryz.func59, Tryz.ntmps59
    go_wp2_with fail
    refine bodyPost_ret (v := .agg #[.int .i64 5, .int .i64 0]) (by simp [results, Tryz.results59, go_sem]) rfl ⟨by rw [H.out]; rfl, ?_⟩
    exact hb0.alloc hb0.size _
  have g3 : ¬ (10 : Int) < (es.length : Int) := by omega
  have HE : Hid (Evt.wrongB ⟨c, es⟩ = Evt.firstE es 0) := Evt.wrongB_else hk.out (show ¬ (es.length = 0 ∨ 10 < es.length) by omega)
  obtain ⟨b, o, C', hv, hc1, hc2, hc⟩ := h.some (by omega)
  cases hv
  have VF := varF_new (w.alloc (.cells #[.int .i64 c, .slice (some ⟨b, o, none⟩) es.length C] 47)) 78 (.int .i64 0) (.int .i64 0)
  have szx : (w.alloc (.cells #[.int .i64 c, .slice (some ⟨b, o, none⟩) es.length C] 47)).heap.size = w.heap.size + 1 := by simp
  rw [szx] at VF
  clear szx
  go_enter Tryz.func59, Tryz.ntmps59
  go_wp2_with fail
  generalize (w.alloc (.cells #[.int .i64 c, .slice (some ⟨b, o, none⟩) es.length C] 47)).alloc (.cells #[.int .i64 0, .int .i64 0] 78) = W0 at hb1 VF ⊢
  go_loopw [29] (fun x wr => ∃ k : Nat, k ≤ es.length ∧ x = .int .i64 k ∧ Hid (∀ j, j < k → ∃ e, es[j]? = some e ∧ Evt.wrongE e = 0) ∧ Below W0.heap.size W0 wr) (fun x _ => es.length - (intOf x).toNat)
  case atStart => exact ⟨0, Nat.zero_le _, rfl, fun j hj => absurd hj (Nat.not_lt_zero j), Below.refl _ _⟩
  case round =>
    obtain ⟨k, hkl, rfl, HS, hbr⟩ := hrel
    have bz := bt hb1 hbr
    by_cases hlt : k < es.length
    · have hlt' : (k : Int) < (es.length : Int) := by omega
      obtain ⟨ev, hev⟩ : ∃ ev, es[k]? = some ev := ⟨es[k], List.getElem?_eq_getElem hlt⟩
      have HEV : Hid (es[k]? = some ev) := hev
      obtain ⟨s, hs1, hs2, d0, d1, d2⟩ := (hc k ev hev).below bz
      have HNM : Hid (nb s = ev.name) := hs2
      have HW := refWrongE_any s ev.kind ev.num (wr.alloc (.cells #[.string s, .int .i64 ev.kind, .int .i64 ev.num] 83)) hs1
      have HQ : Hid (Evt.wrongE ⟨nb s, ev.kind, ev.num⟩ = Evt.wrongE ev) := by
        show Evt.wrongE _ = _
        rw [hs2]
      clear hev hs2 hc
      rw [HQ.out] at HW
      have bA : Below wr.heap.size wr (wr.alloc (.cells #[.string s, .int .i64 ev.kind, .int .i64 ev.num] 83)) := (Below.refl _ _).alloc (Nat.le_refl _) _
      by_cases hE : Evt.wrongE ev = 0
      · have HE0 : Hid (Evt.wrongE ev = 0) := hE
        rw [hE] at HW
        clear hE
        go_wp2_with fail
        refine HW.mono ?_
        rintro e w1 ⟨rfl, b1⟩
        have b1 := bt bA b1
        clear HW
        go_wp2_with fail
        refine ⟨⟨k + 1, by omega, by go_num, fun j hj => ?_, bt hbr b1⟩, by simp [intOf]; omega⟩
        by_cases e : j = k
        · rw [e]; exact ⟨ev, HEV.out, HE0.out⟩
        · exact HS.out j (by omega)
      · have HE1 : Hid (Evt.firstE es 0 = (Evt.wrongE ev, k)) := Evt.firstE_some es k ev HEV.out hE HS.out
        generalize Evt.wrongE ev = x at HW HE1 hE
        have hx' : ((x : Int) == 0) = false := by rw [beq_eq_false_iff_ne]; omega
        have hxn : ((x : Int) != 0) = true := by rw [bne, hx']; rfl
        clear hE
        go_wp2_with fail
        refine HW.mono ?_
        rintro e w1 ⟨rfl, b1⟩
        have b1 := bt bA b1
        obtain ⟨c0, c1, fr⟩ := (VF.below hbr).below b1
        have f0 := fr 0
        have f1 := fr 1
        clear HW
        go_wp2_with fail
        refine bodyPost_ret (v := .agg #[.int .i64 (x : Nat), .int .i64 (k : Nat)]) (by simp [results, Tryz.results59, go_sem, c0, c1]) rfl ⟨by rw [HE.out, HE1.out], ?_⟩
        exact ((bt bz b1).setCell (Nat.le_succ _) _).setCell (Nat.le_succ _) _
    · obtain rfl : k = es.length := by omega
      have HZ : Hid (Evt.firstE es 0 = (0, 0)) := Evt.firstE_none es 0 (fun e he => by
        obtain ⟨j, hj, rfl⟩ := List.mem_iff_getElem.1 he
        obtain ⟨e', h1, h2⟩ := HS.out j hj
        rw [List.getElem?_eq_getElem hj, Option.some.injEq] at h1
        rw [h1]
        exact h2)
      obtain ⟨c0, c1, fr⟩ := VF.below hbr
      have f0 := fr 0
      have f1 := fr 1
      clear hc
      go_wp2_with fail
      refine bodyPost_ret (v := .agg #[.int .i64 0, .int .i64 0]) (by simp [results, Tryz.results59, go_sem, c0, c1]) rfl ⟨by rw [HE.out, HZ.out]; rfl, ?_⟩
      exact (bz.setCell (Nat.le_succ _) _).setCell (Nat.le_succ _) _

end Go.Proofs.YtmcaejooaaahdaaGreat

namespace Go.Proofs.YtmcaejooaaahdaaGreat
open Go.RowKit

theorem nb_inj {s s' : ByteArray} : nb s = nb s' ↔ s.toList = s'.toList := by
  unfold nb
  rw [ByteArray.toList_eq, ByteArray.toList_eq]
  constructor
  · intro h
    exact List.map_inj_right (fun a b e => UInt8.toNat_inj.1 e) |>.1 h
  · intro h
    rw [h]
theorem ev_neq (s s' : ByteArray) (k k' m m' : Int) (w : World) : (binOp .neq 83 (.agg #[.string s, .int .i64 k, .int .i64 m]) (.agg #[.string s', .int .i64 k', .int .i64 m'])).run Tryz.prog w = .ok (.bool (!(s.toList == s'.toList && (k == k' && m == m')))) w := by
  have u3 := Tryz.underlying3
  have u9 := Tryz.underlying9
  have a3 := Tryz.isAgg3
  have z3 := Tryz.sizeOf3
  have a9 := Tryz.isAgg9
  have z9 := Tryz.sizeOf9
  have hS : Tryz.prog.underlying 83 = some (.struct (Tryz.prog.fieldsOf 83)) := by kernel_rfl
  have hp : Tryz.prog.stoodInHeld 83 = false := by kernel_rfl
  rw [run_neq_struct, show (10000 : Nat) = 9999 + 1 from rfl, run_equalIn_agg w 9999 83 _ _ hS hp]
  simp only [Program.fieldsOf, Tryz.underlying83]
  go_simp
  by_cases h1 : s.toList = s'.toList <;> by_cases h2 : k = k' <;> by_cases h3 : m = m' <;> simp [h1, h2, h3]

theorem ev_eq {s s' : ByteArray} {e e' : Evt.Ev} (h : nb s = e.name) (h' : nb s' = e'.name) : (s.toList == s'.toList && (e.kind == e'.kind && e.num == e'.num)) = true ↔ e = e' := by
  rw [Bool.and_eq_true, Bool.and_eq_true, beq_iff_eq, beq_iff_eq, beq_iff_eq, ← nb_inj, h, h']
  obtain ⟨n, k, m⟩ := e
  obtain ⟨n', k', m'⟩ := e'
  simp
theorem drew_drew (w : World) (m q : Nat) : (w.drewN m).drewN q = w.drewN (m + q) := by
  simp [World.drewN, Nat.add_assoc]
theorem list_eq_of {α : Type} {l l' : List α} (hl : l.length = l'.length) (h : ∀ j, j < l.length → l[j]? = l'[j]?) : l = l' := by
  apply List.ext_getElem?
  intro j
  by_cases hj : j < l.length
  · exact h j hj
  · rw [List.getElem?_eq_none (by omega), List.getElem?_eq_none (by omega)]

set_option maxHeartbeats 1000000 in
theorem sameEv_some (b o b' o' n C C' : Nat) (es es' : List Evt.Ev) (w : World) (hn : n ≤ 9223372036854775807) (h : ∀ i e, es[i]? = some e → EvIn w b (o + i * 3) e) (h' : ∀ i e, es'[i]? = some e → EvIn w b' (o' + i * 3) e) (hl : es.length = n) (hl' : es'.length = n) :
    Calls Tryz.prog 16 #[.slice (some ⟨b, o, none⟩) n C, .slice (some ⟨b', o', none⟩) n C'] w fun e w' => Tell e (es = es') ∧ ∃ m, w' = w.drewN m := by
  have HL : Hid (es.length = n ∧ es'.length = n) := ⟨hl, hl'⟩
  have hgd : Tryz.prog.eqGuardType Tryz.prog.depth 83 = false := by kernel_rfl
  go_enter Tryz.func16, Tryz.ntmps16
  go_wp2_with fail
  go_loopw [13] (fun x wr => ∃ k : Nat, k ≤ n ∧ x = .int .i64 k ∧ Hid (∀ j, j < k → es[j]? = es'[j]?) ∧ ∃ m, wr = w.drewN m) (fun x _ => n - (intOf x).toNat)
  case atStart => exact ⟨0, Nat.zero_le _, rfl, fun j hj => absurd hj (Nat.not_lt_zero j), 0, rfl⟩
  case round =>
    obtain ⟨k, hk, rfl, HS, m, rfl⟩ := hrel
    by_cases hlt : k < n
    · have hlt' : (k : Int) < (n : Int) := by omega
      obtain ⟨ev, hev⟩ : ∃ ev, es[k]? = some ev := ⟨es[k], List.getElem?_eq_getElem (by omega)⟩
      obtain ⟨ev', hev'⟩ : ∃ ev, es'[k]? = some ev := ⟨es'[k], List.getElem?_eq_getElem (by omega)⟩
      obtain ⟨s, hs1, hs2, d0, d1, d2⟩ := h k ev hev
      obtain ⟨s', hs1', hs2', d0', d1', d2'⟩ := h' k ev' hev'
      have HE : Hid (es[k]? = some ev ∧ es'[k]? = some ev') := ⟨hev, hev'⟩
      have HQ := ev_eq hs2 hs2'
      have hq := ev_neq s s' ev.kind ev'.kind ev.num ev'.num
      generalize (s.toList == s'.toList && (ev.kind == ev'.kind && ev.num == ev'.num)) = y at HQ hq
      clear h h' hev hev' hs2 hs2' hl hl' hs1 hs1'
      cases y with
      | true =>
        have HR : Hid (ev = ev') := HQ.1 rfl
        clear HQ
        go_wp2_with fail
        go_quiet (fail)
        go_wp2_with fail
        refine ⟨⟨k + 1, by omega, by go_num, fun j hj => ?_, _, rfl⟩, by simp [intOf]; omega⟩
        by_cases e : j = k
        · rw [e, HE.out.1, HE.out.2, HR.out]
        · exact HS.out j (by omega)
      | false =>
        have HN : Hid (¬ es = es') := fun e => by
          have h1 := HE.out.1
          rw [e, HE.out.2, Option.some.injEq] at h1
          exact absurd (HQ.2 h1.symm) (by decide)
        clear HQ
        go_wp2_with fail
        go_quiet (fail)
        go_wp2_with fail
        go_ret
        exact ⟨tell_no HN.out, _, drew_drew w m _⟩
    · obtain rfl : k = n := by omega
      have HY : Hid (es = es') := list_eq_of (by omega) (fun j hj => HS.out j (by omega))
      clear h h' hl hl'
      go_wp2_with fail
      go_ret
      exact ⟨tell_yes HY.out, _, rfl⟩

set_option maxHeartbeats 400000 in
theorem sameEv_any (v v' : Value) (es es' : List Evt.Ev) (w : World) (h : Evs w v es) (h' : Evs w v' es') :
    Calls Tryz.prog 16 #[v, v'] w fun e w' => Tell e (es = es') ∧ ∃ m, w' = w.drewN m := by
  by_cases hl : es.length = es'.length
  · by_cases h0 : 1 ≤ es.length
    · obtain ⟨b, o, C, rfl, q1, q2, q3⟩ := h.some h0
      obtain ⟨b', o', C', rfl, q1', q2', q3'⟩ := h'.some (by omega)
      rw [← hl]
      exact sameEv_some b o b' o' es.length C C' es es' w (by omega) q3 q3' rfl hl.symm
    · obtain ⟨A, C, rfl⟩ := h.shape
      obtain ⟨A', C', rfl⟩ := h'.shape
      obtain rfl : es = [] := List.eq_nil_of_length_eq_zero (by omega)
      obtain rfl : es' = [] := List.eq_nil_of_length_eq_zero (by simpa using hl.symm)
      clear hl h0 h h'
      simp only [List.length_nil]
      go_enter Tryz.func16, Tryz.ntmps16
      go_wp2_with fail
      refine wp_loop_rounds 1 ?_
      rw [rounds_succ]
      go_wp2_with fail
      go_ret
      exact ⟨tell_yes trivial, 0, rfl⟩
  · obtain ⟨A, C, rfl⟩ := h.shape
    obtain ⟨A', C', rfl⟩ := h'.shape
    have hne : ((es.length : Int) != (es'.length : Int)) = true := by rw [bne_iff_ne]; omega
    have H : Hid (¬ es = es') := fun e => hl (by rw [e])
    clear hl h h'
    go_enter Tryz.func16, Tryz.ntmps16
    go_wp2_with fail
    go_ret
    exact ⟨tell_no H.out, 0, rfl⟩

theorem drewN_below (w : World) (m : Nat) : Below w.heap.size w (w.drewN m) := ⟨rfl, rfl, rfl, Nat.le_refl _, fun _ _ => rfl⟩
theorem dn_trans {w wr : World} (h : ∃ m, wr = w.drewN m) (q : Nat) : ∃ m, wr.drewN q = w.drewN m := by
  obtain ⟨m, rfl⟩ := h
  exact ⟨_, drew_drew w m q⟩
theorem sameEv_q {v v' : Value} {es es' : List Evt.Ev} {w : World} (h : Evs w v es) (h' : Evs w v' es') (y : Bool) (hy : y = true ↔ es = es') (n : Nat) :
    Calls Tryz.prog 16 #[v, v'] (w.drewN n) fun e w'' => e = .returned (.bool y) ∧ ∃ m, w'' = w.drewN m := by
  refine (sameEv_any v v' es es' (w.drewN n) (h.below (drewN_below w n)) (h'.below (drewN_below w n))).mono ?_
  rintro e w'' ⟨⟨x, rfl, hx⟩, m, rfl⟩
  have : x = y := by
    rw [Bool.eq_iff_iff]
    exact hx.trans hy.symm
  rw [this]
  exact ⟨rfl, _, drew_drew w n m⟩

set_option maxHeartbeats 1000000 in
theorem sameB_some (b o b' o' n C C' : Nat) (l l' : List Evt.Bat) (w : World) (hn : n ≤ 9223372036854775807) (h : ∀ i e, l[i]? = some e → BatIn w b (o + i * 2) e) (h' : ∀ i e, l'[i]? = some e → BatIn w b' (o' + i * 2) e) (hl : l.length = n) (hl' : l'.length = n) :
    Calls Tryz.prog 14 #[.slice (some ⟨b, o, none⟩) n C, .slice (some ⟨b', o', none⟩) n C'] w fun e w' => Tell e (l = l') ∧ ∃ m, w' = w.drewN m := by
  have HL : Hid (l.length = n ∧ l'.length = n) := ⟨hl, hl'⟩
  go_enter Tryz.func14, Tryz.ntmps14
  go_wp2_with fail
  go_loopw [13] (fun x wr => ∃ k : Nat, k ≤ n ∧ x = .int .i64 k ∧ Hid (∀ j, j < k → l[j]? = l'[j]?) ∧ Hid (∃ m, wr = w.drewN m)) (fun x _ => n - (intOf x).toNat)
  case atStart => exact ⟨0, Nat.zero_le _, rfl, fun j hj => absurd hj (Nat.not_lt_zero j), ⟨0, rfl⟩⟩
  case round =>
    obtain ⟨k, hk, rfl, HS, HM⟩ := hrel
    have hbw : Below w.heap.size w wr := by
      obtain ⟨m, e⟩ := HM.out
      rw [e]
      exact drewN_below w m
    by_cases hlt : k < n
    · have hlt' : (k : Int) < (n : Int) := by omega
      obtain ⟨x, hx⟩ : ∃ ev, l[k]? = some ev := ⟨l[k], List.getElem?_eq_getElem (by omega)⟩
      obtain ⟨x', hx'⟩ : ∃ ev, l'[k]? = some ev := ⟨l'[k], List.getElem?_eq_getElem (by omega)⟩
      obtain ⟨u, d0, d1, he⟩ := (h k x hx).below hbw
      obtain ⟨u', d0', d1', he'⟩ := (h' k x' hx').below hbw
      have HE : Hid (l[k]? = some x ∧ l'[k]? = some x') := ⟨hx, hx'⟩
      have HN0 : Hid (¬ x = x' → ¬ l = l') := fun q e => by
        rw [e, hx', Option.some.injEq] at hx
        exact q hx.symm
      clear h h' hx hx' hl hl'
      by_cases hc : x.cmd = x'.cmd
      · have hcn : (x.cmd != x'.cmd) = false := by rw [bne_eq_false_iff_eq]; exact hc
        have HC : Hid (x.cmd = x'.cmd) := hc
        clear hc
        by_cases hv : x.evs = x'.evs
        · have HQ := sameEv_q he he' true ⟨fun _ => hv, fun _ => rfl⟩
          have HR : Hid (x = x') := by
            obtain ⟨c1, e1⟩ := x
            obtain ⟨c2, e2⟩ := x'
            have := HC.out
            simp at this hv
            show _ = _
            rw [this, hv]
          clear hv he he'
          go_wp2_with fail
          go_quiet ((go_at_call 16; refine HQ _))
          go_wp2_with fail
          refine ⟨⟨k + 1, by omega, by go_num, fun j hj => ?_, dn_trans HM.out _⟩, by simp [intOf]; omega⟩
          by_cases e : j = k
          · rw [e, HE.out.1, HE.out.2, HR.out]
          · exact HS.out j (by omega)
        · have HQ := sameEv_q he he' false ⟨fun q => absurd q (by decide), fun q => absurd q hv⟩
          have HN : Hid (¬ l = l') := HN0.out (fun q => hv (by rw [q]))
          clear hv he he'
          go_wp2_with fail
          go_quiet ((go_at_call 16; refine HQ _))
          go_wp2_with fail
          go_ret
          exact ⟨tell_no HN.out, dn_trans HM.out _⟩
      · have hcn : (x.cmd != x'.cmd) = true := by rw [bne_iff_ne]; exact hc
        have HN : Hid (¬ l = l') := HN0.out (fun q => hc (by rw [q]))
        clear hc he he'
        go_wp2_with fail
        go_quiet (fail)
        go_wp2_with fail
        go_ret
        exact ⟨tell_no HN.out, dn_trans HM.out _⟩
    · obtain rfl : k = n := by omega
      have HY : Hid (l = l') := list_eq_of (by omega) (fun j hj => HS.out j (by omega))
      clear h h' hl hl'
      go_wp2_with fail
      go_ret
      exact ⟨tell_yes HY.out, HM.out⟩

set_option maxHeartbeats 400000 in
theorem sameBat_any (v v' : Value) (l l' : List Evt.Bat) (w : World) (h : Bats w v l) (h' : Bats w v' l') :
    Calls Tryz.prog 14 #[v, v'] w fun e w' => Tell e (l = l') ∧ ∃ m, w' = w.drewN m := by
  by_cases hl : l.length = l'.length
  · by_cases h0 : 1 ≤ l.length
    · obtain ⟨b, o, C, rfl, q1, q2, q3⟩ := h.some h0
      obtain ⟨b', o', C', rfl, q1', q2', q3'⟩ := h'.some (by omega)
      rw [← hl]
      exact sameB_some b o b' o' l.length C C' l l' w (by omega) q3 q3' rfl hl.symm
    · obtain ⟨A, C, rfl, _⟩ := h
      obtain ⟨A', C', rfl, _⟩ := h'
      obtain rfl : l = [] := List.eq_nil_of_length_eq_zero (by omega)
      obtain rfl : l' = [] := List.eq_nil_of_length_eq_zero (by simpa using hl.symm)
      clear hl h0
      simp only [List.length_nil]
      go_enter Tryz.func14, Tryz.ntmps14
      go_wp2_with fail
      refine wp_loop_rounds 1 ?_
      rw [rounds_succ]
      go_wp2_with fail
      go_ret
      exact ⟨tell_yes trivial, 0, rfl⟩
  · obtain ⟨A, C, rfl, _⟩ := h
    obtain ⟨A', C', rfl, _⟩ := h'
    have hne : ((l.length : Int) != (l'.length : Int)) = true := by rw [bne_iff_ne]; omega
    have H : Hid (¬ l = l') := fun e => hl (by rw [e])
    clear hl
    go_enter Tryz.func14, Tryz.ntmps14
    go_wp2_with fail
    go_ret
    exact ⟨tell_no H.out, 0, rfl⟩

end Go.Proofs.YtmcaejooaaahdaaGreat

namespace Go.Proofs.YtmcaejooaaahdaaGreat
open Go.RowKit


/-- What is owned, cell by cell. -/
theorem owns_cells {w : World} {N : Nat} {t : TypeId} {size : Nat} {v : Value} {n : Nat} {xs : List Value} (h : w.ownsRow N t size v n xs) (hn : 1 ≤ n) :
    ∃ g cap, v = .slice (some ⟨g, 0, none⟩) n cap ∧ N ≤ g ∧ n ≤ cap ∧ cap ≤ maxLen ∧ g < w.heap.size ∧ ∀ j u, xs[j]? = some u → w.cell? ⟨g, j, none⟩ = some u := by
  have h0 := h
  obtain ⟨hl, h'⟩ := h
  rcases h' with ⟨_, h1⟩ | ⟨g, cap, cur, rfl, hN, hg, hc, hm, hs, ht⟩
  · omega
  · refine ⟨g, cap, rfl, hN, hc, hm, (h0.lt g rfl).2, fun j u hj => ?_⟩
    have := h0.cells (g := g) rfl j u hj
    rw [WideShapes.add_plain, Nat.zero_add] at this
    exact this

theorem Tryz.infoBatch : (Tryz.prog.info? 47).map (fun i => (i.zero, i.size, i.bytes)) = some (some (.agg #[.int .i64 0, .slice none 0 0]), 2, 32) := by kernel_rfl

theorem Tryz.infoEvent : (Tryz.prog.info? 83).map (fun i => (i.zero, i.size, i.bytes)) = some (some (.agg #[.string ByteArray.empty, .int .i64 0, .int .i64 0]), 3, 32) := by kernel_rfl

/-- An event's cells. -/
abbrev EvC := ByteArray × Int × Int
def evCells (e : EvC) : List Value := [.string e.1, .int .i64 e.2.1, .int .i64 e.2.2]
def evOf (e : EvC) : Evt.Ev := ⟨nb e.1, e.2.1, e.2.2⟩
/-- Events that are appended to. -/
def EBuf (w : World) (N : Nat) (v : Value) (es : List EvC) : Prop := w.ownsRow N 83 3 v es.length (es.flatMap evCells) ∧ ∀ e, e ∈ es → e.1.size ≤ 9223372036854775807
theorem EBuf.nil (w : World) (N : Nat) : EBuf w N (.slice none 0 0) [] := ⟨World.ownsRow_nil w N _ 3, fun e he => by cases he⟩
theorem EBuf.below {w w' : World} {N : Nat} {v : Value} {es : List EvC} (h : EBuf w N v es) (hb : Below w.heap.size w w') : EBuf w' N v es := ⟨owns_below h.1 hb, h.2⟩
theorem EBuf.evs {w : World} {N : Nat} {v : Value} {es : List EvC} (h : EBuf w N v es) : Evs w v (es.map evOf) := by
  by_cases hn : 1 ≤ es.length
  · obtain ⟨g, cap, rfl, _, h1, h2, _, hc⟩ := owns_cells h.1 hn
    refine ⟨some ⟨g, 0, none⟩, cap, by rw [List.length_map], by rw [List.length_map]; exact h1, h2, fun i e he => ?_⟩
    rw [List.getElem?_map] at he
    obtain ⟨x, hx, rfl⟩ := Option.map_eq_some_iff.1 he
    have hf := fun t ht => flat_get evCells 3 es (fun _ _ => rfl) i t ht x hx
    exact ⟨g, 0, rfl, x.1, h.2 x (List.mem_of_getElem? hx), rfl, by rw [Nat.zero_add]; exact hc _ _ (hf 0 (by decide)), by rw [Nat.zero_add]; exact hc _ _ (hf 1 (by decide)), by rw [Nat.zero_add]; exact hc _ _ (hf 2 (by decide))⟩
  · obtain rfl : es = [] := List.eq_nil_of_length_eq_zero (by omega)
    rcases h.1.2 with ⟨rfl, _⟩ | ⟨g, cap, cur, rfl, _, _, hc, hm, _⟩
    · exact ⟨none, 0, rfl, Nat.le_refl _, Nat.zero_le _, fun i e he => by cases he⟩
    · exact ⟨_, cap, rfl, hc, hm, fun i e he => by cases he⟩

/-- A batch's cells. -/
def batCells (x : Int × Value) : List Value := [.int .i64 x.1, x.2]
/-- Batches that are appended to. -/
def BBuf (w : World) (N : Nat) (v : Value) (l : List (Int × Value)) : Prop := w.ownsRow N 47 2 v l.length (l.flatMap batCells)
theorem BBuf.nil (w : World) (N : Nat) : BBuf w N (.slice none 0 0) [] := World.ownsRow_nil w N _ 2
theorem BBuf.below {w w' : World} {N : Nat} {v : Value} {l : List (Int × Value)} (h : BBuf w N v l) (hb : Below w.heap.size w w') : BBuf w' N v l := owns_below h hb
theorem BBuf.bats {w : World} {N : Nat} {v : Value} {l : List (Int × Value)} {bs : List Evt.Bat} (h : BBuf w N v l) (hl : bs.length = l.length) (he : ∀ (i : Nat) (x : Int × Value) (b : Evt.Bat), l[i]? = some x → bs[i]? = some b → b.cmd = x.1 ∧ Evs w x.2 b.evs) : Bats w v bs := by
  by_cases hn : 1 ≤ l.length
  · obtain ⟨g, cap, rfl, _, h1, h2, _, hc⟩ := owns_cells h hn
    refine ⟨some ⟨g, 0, none⟩, cap, by rw [hl], by rw [hl]; exact h1, h2, fun i b hb => ?_⟩
    obtain ⟨x, hx⟩ : ∃ x, l[i]? = some x := by
      have : i < l.length := by
        rw [← hl]
        exact (List.getElem?_eq_some_iff.1 hb).1
      exact ⟨l[i], List.getElem?_eq_getElem this⟩
    have hf := fun t ht => flat_get batCells 2 l (fun _ _ => rfl) i t ht x hx
    obtain ⟨e1, e2⟩ := he i x b hx hb
    exact ⟨g, 0, rfl, x.2, by rw [Nat.zero_add, e1]; exact hc _ _ (hf 0 (by decide)), by rw [Nat.zero_add]; exact hc _ _ (hf 1 (by decide)), e2⟩
  · obtain rfl : l = [] := List.eq_nil_of_length_eq_zero (by omega)
    obtain rfl : bs = [] := List.eq_nil_of_length_eq_zero (by simpa using hl)
    rcases h.2 with ⟨rfl, _⟩ | ⟨g, cap, cur, rfl, _, _, hc, hm, _⟩
    · exact ⟨none, 0, rfl, Nat.le_refl _, Nat.zero_le _, fun i e he => by cases he⟩
    · exact ⟨_, cap, rfl, hc, hm, fun i e he => by cases he⟩

end Go.Proofs.YtmcaejooaaahdaaGreat

namespace Go.Proofs.YtmcaejooaaahdaaGreat
open Go.RowKit

/-- Where Parse stands: at place A of the N bytes, all well so far or not. W0: the world in which it was called. -/
structure PS (W0 w : World) (v : Value) (N A : Nat) (ok : Bool) : Prop where
  at_ : w.cell? ⟨W0.heap.size + 1, 0, none⟩ = some (.int .i64 (A : Nat))
  b_ : w.cell? ⟨W0.heap.size, 0, none⟩ = some v
  ok_ : w.cell? ⟨W0.heap.size + 1 + 1, 0, none⟩ = some (.bool ok)
  fa : w.frozen? ⟨W0.heap.size + 1, 0, none⟩ = false
  fo : w.frozen? ⟨W0.heap.size + 1 + 1, 0, none⟩ = false
  bel : Below W0.heap.size W0 w
  le : A ≤ N
theorem PS.setAt {W0 w : World} {v : Value} {N A : Nat} {ok : Bool} (h : PS W0 w v N A ok) {A' : Nat} {a : Int} (e : a = (A' : Int)) (hA : A' ≤ N) : PS W0 (w.setCell ⟨W0.heap.size + 1, 0, none⟩ (.int .i64 a)) v N A' ok := by
  have c0 := h.at_
  have c1 := h.b_
  have c2 := h.ok_
  have f0 := h.fa
  have f1 := h.fo
  subst e
  exact ⟨by go_simp, by go_simp, by go_simp, by go_simp, by go_simp, h.bel.setCell (Nat.le_succ _) _, hA⟩
theorem PS.setNo {W0 w : World} {v : Value} {N A : Nat} {ok : Bool} (h : PS W0 w v N A ok) : PS W0 (w.setCell ⟨W0.heap.size + 1 + 1, 0, none⟩ (.bool false)) v N A false := by
  have c0 := h.at_
  have c1 := h.b_
  have c2 := h.ok_
  have f0 := h.fa
  have f1 := h.fo
  exact ⟨by go_simp, by go_simp, by go_simp, by go_simp, by go_simp, h.bel.setCell (by show W0.heap.size ≤ W0.heap.size + 1 + 1; omega) _, h.le⟩
theorem PS.keep {W0 w w' : World} {v : Value} {N A : Nat} {ok : Bool} (h : PS W0 w v N A ok) (hb : Below (W0.heap.size + 3) w w') : PS W0 w' v N A ok :=
  ⟨(hb.cell (p := ⟨W0.heap.size + 1, 0, none⟩) (by show W0.heap.size + 1 < _; omega)).trans h.at_, (hb.cell (p := ⟨W0.heap.size, 0, none⟩) (by show W0.heap.size < _; omega)).trans h.b_, (hb.cell (p := ⟨W0.heap.size + 1 + 1, 0, none⟩) (by show W0.heap.size + 1 + 1 < _; omega)).trans h.ok_,
    (hb.frozen (p := ⟨W0.heap.size + 1, 0, none⟩) (by show W0.heap.size + 1 < _; omega)).trans h.fa, (hb.frozen (p := ⟨W0.heap.size + 1 + 1, 0, none⟩) (by show W0.heap.size + 1 + 1 < _; omega)).trans h.fo, h.bel.trans (hb.mono (by omega)), h.le⟩

theorem PS.room {W0 w : World} {v : Value} {N A : Nat} {ok : Bool} (h : PS W0 w v N A ok) : W0.heap.size + 3 ≤ w.heap.size := by
  have : W0.heap.size + 1 + 1 < w.heap.size := World.block_lt_of_cell? _ _ h.ok_
  omega

/-- The number that s bytes from A on tell. -/
def numV (g : Nat → Nat) (A : Nat) : Nat → Nat
  | 0 => 0
  | k + 1 => 256 * numV g A k + g (A + k)
theorem numV_lt {g : Nat → Nat} (hg : Bd g) (A : Nat) : ∀ k, k ≤ 3 → numV g A k < 16777216 ∧ (k ≤ 2 → numV g A k < 65536)
  | 0, _ => ⟨show 0 < 16777216 by decide, fun _ => show 0 < 65536 by decide⟩
  | 1, _ => by
    have := hg (A + 0)
    exact ⟨show 256 * 0 + g (A + 0) < _ by omega, fun _ => show 256 * 0 + g (A + 0) < _ by omega⟩
  | 2, _ => by
    have h0 := hg (A + 0)
    have h1 := hg (A + 1)
    exact ⟨show 256 * (256 * 0 + g (A + 0)) + g (A + 1) < _ by omega, fun _ => show 256 * (256 * 0 + g (A + 0)) + g (A + 1) < _ by omega⟩
  | 3, _ => by
    have h0 := hg (A + 0)
    have h1 := hg (A + 1)
    have h2 := hg (A + 2)
    exact ⟨show 256 * (256 * (256 * 0 + g (A + 0)) + g (A + 1)) + g (A + 2) < _ by omega, fun h => absurd h (by decide)⟩
  | k + 4, h => absurd h (by omega)
/-- What the function tells. -/
def NumP (W0 w w' : World) (v : Value) (N A : Nat) (ok : Bool) (g : Nat → Nat) (s : Nat) (e : Ending) : Prop :=
  (A + s ≤ N ∧ e = .returned (.int .i64 (numV g A s : Nat)) ∧ PS W0 w' v N (A + s) ok ∧ Off (fun k => k = W0.heap.size + 1 ∨ k = W0.heap.size + 1 + 1) w w') ∨
  (N < A + s ∧ e = .returned (.int .i64 0) ∧ PS W0 w' v N N false ∧ Off (fun k => k = W0.heap.size + 1 ∨ k = W0.heap.size + 1 + 1) w w')

set_option maxHeartbeats 1000000 in
theorem num_some (s b o cap N A : Nat) (ok : Bool) (g : Nat → Nat) (W0 w : World) (hs : s ≤ 3) (hy : Byts W0 (.slice (some ⟨b, o, none⟩) N cap) N g) (hc : ∀ i, i < N → W0.cell? ⟨b, o + i, none⟩ = some (.int .u8 (g i : Nat))) (h : PS W0 w (.slice (some ⟨b, o, none⟩) N cap) N A ok) :
    Calls Tryz.prog 98 #[.int .i64 (s : Int), .pointer (some ⟨W0.heap.size + 1, 0, none⟩), .pointer (some ⟨W0.heap.size, 0, none⟩), .pointer (some ⟨W0.heap.size + 1 + 1, 0, none⟩)] w fun e w' => NumP W0 w w' (.slice (some ⟨b, o, none⟩) N cap) N A ok g s e := by
  have hN := hy.len
  have hg := hy.bd
  have hA := h.le
  go_enter Tryz.func98, Tryz.ntmps98
  go_wp2_with fail
  go_loopw [6, 7] (fun y x wr => ∃ k : Nat, k ≤ s ∧ A + k ≤ N ∧ x = .int .i64 k ∧ y = .int .i64 (numV g A k : Nat) ∧ PS W0 wr (.slice (some ⟨b, o, none⟩) N cap) N (A + k) ok ∧ Off (fun k => k = W0.heap.size + 1 ∨ k = W0.heap.size + 1 + 1) w wr) (fun _ x _ => s - (intOf x).toNat)
  case atStart => exact ⟨0, Nat.zero_le _, hA, rfl, rfl, h, Off.refl _ _⟩
  case round =>
    obtain ⟨k, hk, hAk, rfl, rfl, hp, ho⟩ := hrel
    have c0 := hp.at_
    have c1 := hp.b_
    have c2 := hp.ok_
    have f0 := hp.fa
    have f1 := hp.fo
    have hv := numV_lt hg A k (by omega)
    by_cases hlt : k < s
    · have hlt' : (k : Int) < (s : Int) := by omega
      by_cases hin : A + k < N
      · have hin' : ((A + k : Nat) : Int) < (N : Int) := by omega
        have hin2 : ¬ (N : Int) ≤ ((A + k : Nat) : Int) := by omega
        have t := (hp.bel.cell (p := ⟨b, o + (A + k), none⟩) (World.block_lt_of_cell? _ _ (hc (A + k) hin))).trans (hc (A + k) hin)
        have gk := hg (A + k)
        have HV : Hid (numV g A (k + 1) = 256 * numV g A k + g (A + k)) := rfl
        have HP : Hid (∀ a : Int, a = ((A + k : Nat) : Int) + 1 → PS W0 (wr.setCell ⟨W0.heap.size + 1, 0, none⟩ (.int .i64 a)) (.slice (some ⟨b, o, none⟩) N cap) N (A + (k + 1)) ok) := fun a e => hp.setAt (by omega) (by omega)
        have HO : Hid (∀ a, Off (fun k => k = W0.heap.size + 1 ∨ k = W0.heap.size + 1 + 1) w (wr.setCell ⟨W0.heap.size + 1, 0, none⟩ a)) := fun a => ho.set (p := ⟨W0.heap.size + 1, 0, none⟩) (Or.inl rfl) a
        have hv2 := hv.2 (by omega)
        obtain ⟨q, hq⟩ : ∃ q, A + k = q := ⟨_, rfl⟩
        generalize numV g A k = n at hv hv2 HV
        clear hc hp h ho
        rw [hq] at c0 t hin hin' hin2 gk HV HP
        generalize g q = x at t gk HV
        have HK : Hid (A + k = q) := hq
        clear hq
        go_wp2_with fail
        refine ⟨⟨k + 1, by omega, by have := HK.out; omega, by go_num, val_int (by rw [HV.out]; omega), HP.out _ rfl, HO.out _⟩, by simp [intOf]; omega⟩
      · obtain ⟨q, hq⟩ : ∃ q, A + k = q := ⟨_, rfl⟩
        have HR : Hid (NumP W0 w (wr.setCell ⟨W0.heap.size + 1 + 1, 0, none⟩ (.bool false)) (.slice (some ⟨b, o, none⟩) N cap) N A ok g s (.returned (.int .i64 0))) := Or.inr ⟨by omega, rfl, by
          have h3 := hp.setNo
          rw [show A + k = N by omega] at h3
          exact h3, ho.set (p := ⟨W0.heap.size + 1 + 1, 0, none⟩) (Or.inr rfl) _⟩
        rw [hq] at c0
        have hin2 : (N : Int) ≤ (q : Int) := by omega
        clear hc hp h ho hq
        go_wp2_with fail
        go_ret
        exact HR.out
    · obtain rfl : k = s := by omega
      have HR : Hid (NumP W0 w wr (.slice (some ⟨b, o, none⟩) N cap) N A ok g k (.returned (.int .i64 (numV g A k : Nat)))) := Or.inl ⟨hAk, rfl, hp, ho⟩
      clear hc hp h ho
      go_wp2_with fail
      go_ret
      exact HR.out

end Go.Proofs.YtmcaejooaaahdaaGreat
