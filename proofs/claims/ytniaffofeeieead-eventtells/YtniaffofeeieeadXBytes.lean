/-
  What event.appendBatch and event.Bytes do, call by call.
-/
import Derived.Test.YtniaffofeeieeadXApp
namespace Go.Proofs.Ytniaffofeeieead
open Go.RowKit

theorem encE_len {e : Evt.Ev} (h : Evt.wrongE e = 0) : (Evt.encE e).length ≤ 15 := by
  obtain ⟨⟨_, _, hn⟩, _⟩ := Evt.wrongE_inv h
  unfold Evt.encE Evt.three
  simp
  omega
theorem flat_le {α : Type} (f : α → List Nat) (c : Nat) : ∀ (l : List α), (∀ a, a ∈ l → (f a).length ≤ c) → (l.flatMap f).length ≤ l.length * c
  | [], _ => by simp
  | x :: l, h => by
    rw [List.flatMap_cons, List.length_append, List.length_cons, Nat.succ_mul]
    have h1 := h x List.mem_cons_self
    have h2 := flat_le f c l (fun a ha => h a (List.mem_cons_of_mem _ ha))
    omega
theorem encB_len {b : Evt.Bat} (h : (Evt.wrongB b).1 = 0) : (Evt.encB b).length ≤ 154 := by
  obtain ⟨_, _, _, h4, h5⟩ := Evt.wrongB_inv h
  have := flat_le Evt.encE 15 b.evs (fun e he => encE_len (h5 e he))
  unfold Evt.encB Evt.three
  simp only [List.length_append, List.length_cons, List.length_nil]
  omega
theorem take_flat {α : Type} (f : α → List Nat) (l : List α) (k : Nat) (a : α) (h : l[k]? = some a) : (l.take (k + 1)).flatMap f = (l.take k).flatMap f ++ f a := by
  rw [List.take_add_one, h, List.flatMap_append]
  simp
theorem take_len_le {α : Type} (f : α → List Nat) (c k : Nat) (l : List α) (h : ∀ a, a ∈ l → (f a).length ≤ c) : ((l.take k).flatMap f).length ≤ l.length * c := by
  refine Nat.le_trans (flat_le f c (l.take k) (fun a ha => h a (List.mem_of_mem_take ha))) (Nat.mul_le_mul_right c ?_)
  simp
  omega

set_option maxHeartbeats 400000 in
theorem appB_any (W0 : World) (c : Int) (vs : Value) (es : List Evt.Ev) (hes : Evs W0 vs es) (v : Value) (bs : List Nat) (w : World) (hW : Below W0.heap.size W0 w) (h : BufL w W0.heap.size v bs) (hb : bs.length ≤ 800000) (hE : (Evt.wrongB ⟨c, es⟩).1 = 0) :
    Calls Try.prog 22 #[v, .agg #[.int .i64 c, vs]] w fun e w' => ∃ v', e = .returned v' ∧ BufL w' W0.heap.size v' (bs ++ Evt.encB ⟨c, es⟩) ∧ OffB W0.heap.size w w' := by
  obtain ⟨h1, h2, h3, h4, h5⟩ := Evt.wrongB_inv hE
  have h1 : 1 ≤ c := h1
  have h2 : c ≤ 1000000 := h2
  have h3 : 1 ≤ es.length := h3
  have h4 : es.length ≤ 10 := h4
  have HA : Hid (∀ e, e ∈ es → Evt.wrongE e = 0) := h5
  obtain ⟨c', rfl⟩ : ∃ c' : Nat, c = c' := ⟨c.toNat, by omega⟩
  obtain ⟨b, o, C, rfl, _, _, hc⟩ := hes.some h3
  have HC : Hid (∀ i e, es[i]? = some e → EvIn W0 b (o + i * 3) e) := hc
  have hN := hW.size
  have X0 : Below w.heap.size w (w.alloc (.cells #[.int .i64 (c' : Int), .slice (some ⟨b, o, none⟩) es.length C] 31)) := (Below.refl _ _).alloc (Nat.le_refl _) _
  have V0 := box_new w #[.int .i64 (c' : Int), .slice (some ⟨b, o, none⟩) es.length C] 31 (by decide)
  have c0 := V0.cell 0 _ rfl
  have c1 := V0.cell 1 _ rfl
  have H1 := app3_any W0.heap.size c' v bs _ (h.below X0) (Nat.le_trans hN X0.size) (by omega) (by omega)
  clear hE h5 h hc hes
  go_enter Try.func22, Try.ntmps22
  go_wp2_with fail
  refine H1.mono ?_
  rintro e w1 ⟨v1, rfl, B1, O1⟩
  have V1 := V0.off O1
  have c1 := V1.cell 1 _ rfl
  have O1 := (OffB.of_below X0 (N := W0.heap.size)).trans O1
  have hN1 := Nat.le_trans hN O1.size
  have L1 : (bs ++ Evt.three c').length = bs.length + 3 := by simp [Evt.three]
  have H2 := app1_any W0.heap.size es.length v1 _ _ B1 hN1 (by omega) (by omega)
  clear H1 V0 X0 c0 B1
  go_wp2_with fail
  refine H2.mono ?_
  rintro e w2 ⟨v2, rfl, B2, O2⟩
  have V2 := V1.off O2
  have c1 := V2.cell 1 _ rfl
  have O2 := O1.trans O2
  have hN2 := Nat.le_trans hN O2.size
  have L2 : (bs ++ Evt.three c' ++ [es.length]).length = bs.length + 4 := by simp [Evt.three]
  have b2 := hW.trans (O2.below hN)
  clear H2 V1 O1 L1 hN1
  go_wp2_with fail
  clear c1 V2
  go_loopw [0, 19] (fun y x wr => ∃ k : Nat, k ≤ es.length ∧ x = .int .i64 k ∧ BufL wr W0.heap.size y (bs ++ Evt.three c' ++ [es.length] ++ (es.take k).flatMap Evt.encE) ∧ OffB W0.heap.size w2 wr) (fun _ x _ => es.length - (intOf x).toNat)
  case atStart => exact ⟨0, Nat.zero_le _, rfl, by simpa using B2, OffB.refl _ _⟩
  case round =>
    obtain ⟨k, hk, rfl, BR, OR⟩ := hrel
    have hNr := Nat.le_trans hN2 OR.size
    have br := b2.trans (OR.below hN2)
    by_cases hlt : k < es.length
    · have hlt' : (k : Int) < (es.length : Int) := by omega
      obtain ⟨ev, hev⟩ : ∃ ev, es[k]? = some ev := ⟨es[k], List.getElem?_eq_getElem hlt⟩
      have HT : Hid ((es.take (k + 1)).flatMap Evt.encE = (es.take k).flatMap Evt.encE ++ Evt.encE ev) := take_flat Evt.encE es k ev hev
      have HZ : ((es.take k).flatMap Evt.encE).length ≤ es.length * 15 := take_len_le Evt.encE 15 k es (fun e he => encE_len (HA.out e he))
      obtain ⟨s, hs1, hs2, d0, d1, d2⟩ := (HC.out k ev hev).below br
      have hw0 : Evt.wrongE ⟨nb s, ev.kind, ev.num⟩ = 0 := by
        rw [hs2]
        exact HA.out ev (List.mem_of_getElem? hev)
      have HQ : Hid ((⟨nb s, ev.kind, ev.num⟩ : Evt.Ev) = ev) := by
        show (⟨nb s, ev.kind, ev.num⟩ : Evt.Ev) = ev
        rw [hs2]
      have bA : Below wr.heap.size wr (wr.alloc (.cells #[.string s, .int .i64 ev.kind, .int .i64 ev.num] 24)) := (Below.refl _ _).alloc (Nat.le_refl _) _
      have HW := appE_any W0.heap.size s ev.kind ev.num u0 _ _ (BR.below bA) (Nat.le_trans hNr bA.size) (by rw [List.length_append, L2]; omega) hw0
      rw [HQ.out] at HW
      clear hev hs2 BR HZ hw0
      go_wp2_with fail
      refine HW.mono ?_
      rintro e w3 ⟨v3, rfl, B3, O3⟩
      have O3 := (OffB.of_below bA (N := W0.heap.size)).trans O3
      have HB : Hid (BufL w3 W0.heap.size v3 (bs ++ Evt.three c' ++ [es.length] ++ (es.take (k + 1)).flatMap Evt.encE)) := by
        have := B3
        rw [List.append_assoc, ← HT.out] at this
        exact this
      clear HW B3 bA
      go_wp2_with fail
      exact ⟨⟨k + 1, by omega, by go_num, HB.out, OR.trans O3⟩, by simp [intOf]; omega⟩
    · obtain rfl : k = es.length := by omega
      have HB : Hid (BufL wr W0.heap.size u0 (bs ++ Evt.encB ⟨c', es⟩)) := by
        have := BR
        rw [List.take_length] at this
        have e : bs ++ Evt.three c' ++ [es.length] ++ es.flatMap Evt.encE = bs ++ Evt.encB ⟨c', es⟩ := by
          unfold Evt.encB
          simp
        rw [e] at this
        exact this
      have HO : Hid (OffB W0.heap.size w wr) := O2.trans OR
      clear BR OR
      go_wp2_with fail
      go_ret
      exact ⟨_, rfl, HB.out, HO.out⟩

/-- What Bytes tells beside a fault, or none. -/
def outL (l : List Evt.Bat) : List Nat := if (Evt.wrongL l).1 = 0 then Evt.encL l else []
theorem outL_ok {l : List Evt.Bat} (h : (Evt.wrongL l).1 = 0) : outL l = Evt.encL l := if_pos h
theorem outL_no {l : List Evt.Bat} (h : (Evt.wrongL l).1 ≠ 0) : outL l = [] := if_neg h

set_option maxHeartbeats 400000 in
theorem bytesL_bad (v : Value) (l : List Evt.Bat) (w : World) (h : Bats w v l) (hE : (Evt.wrongL l).1 ≠ 0) :
    Calls Try.prog 12 #[v] w fun e w' => ∃ v', e = .returned (.tuple #[v', .agg #[.int .i64 ((Evt.wrongL l).1 : Nat), .int .i64 ((Evt.wrongL l).2 : Nat)]]) ∧ BufL w' w.heap.size v' (outL l) ∧ Below w.heap.size w w' := by
  rw [outL_no hE]
  have X0 : Below w.heap.size w (w.alloc (.cells #[.int .i64 0, .int .i64 0] 33)) := (Below.refl _ _).alloc (Nat.le_refl _) _
  have V0 := varF_new w 33 (.int .i64 0) (.int .i64 0)
  have H1 := wrongL_any v l _ (h.below X0)
  obtain ⟨A, C, rfl⟩ := h.shape
  generalize (Evt.wrongL l).1 = x at H1 hE ⊢
  generalize (Evt.wrongL l).2 = y at H1 ⊢
  have hx' : ((x : Int) == 0) = false := by rw [beq_eq_false_iff_ne]; omega
  have hxn : ((x : Int) != 0) = true := by rw [bne, hx']; rfl
  clear h hE
  go_enter Try.func12, Try.ntmps12
  go_wp2_with fail
  refine H1.mono ?_
  rintro e w1 ⟨rfl, b1⟩
  have bA : Below w1.heap.size w1 (w1.alloc (.cells #[.int .i64 (x : Nat), .int .i64 (y : Nat)] 33)) := (Below.refl _ _).alloc (Nat.le_refl _) _
  obtain ⟨c0, c1, fr⟩ := (V0.below b1).below bA
  have f0 := fr 0
  have f1 := fr 1
  have bz := bt (bt X0 b1) bA
  clear H1 V0 X0 b1
  go_wp2_with fail
  go_region
  go_wp2_with fail
  refine bodyPost_ret (v := .tuple #[.slice none 0 0, .agg #[.int .i64 (x : Nat), .int .i64 (y : Nat)]]) (by simp [results, Try.results12, go_sem, c0, c1]) rfl ⟨_, rfl, owns_nil _ _, ?_⟩
  exact ((bz.setCell (Nat.le_refl _) _).setCell (Nat.le_refl _) _).drew

theorem bats_at {w : World} {A : Option Addr} {n C : Nat} {l : List Evt.Bat} (h : Bats w (.slice A n C) l) : ∀ i x, l[i]? = some x → ∃ b o, A = some ⟨b, o, none⟩ ∧ BatIn w b (o + i * 2) x := by
  obtain ⟨A', C', hv, _, _, hc⟩ := h
  cases hv
  exact hc
theorem wrongL_ok2 {l : List Evt.Bat} (h : (Evt.wrongL l).1 = 0) : (Evt.wrongL l).2 = 0 := by
  obtain ⟨h1, h2⟩ := Evt.wrongL_inv h
  rw [wrongL_else (by omega), Evt.firstB_none l 0 h2]

set_option maxHeartbeats 400000 in
theorem bytesL_ok (v : Value) (l : List Evt.Bat) (w : World) (h : Bats w v l) (hE : (Evt.wrongL l).1 = 0) :
    Calls Try.prog 12 #[v] w fun e w' => ∃ v', e = .returned (.tuple #[v', .agg #[.int .i64 ((Evt.wrongL l).1 : Nat), .int .i64 ((Evt.wrongL l).2 : Nat)]]) ∧ BufL w' w.heap.size v' (outL l) ∧ Below w.heap.size w w' := by
  rw [outL_ok hE]
  obtain ⟨hl, h5⟩ := Evt.wrongL_inv hE
  have HA : Hid (∀ e, e ∈ l → (Evt.wrongB e).1 = 0) := h5
  have X0 : Below w.heap.size w (w.alloc (.cells #[.int .i64 0, .int .i64 0] 33)) := (Below.refl _ _).alloc (Nat.le_refl _) _
  have V0 := box_new w #[.int .i64 0, .int .i64 0] 33 (by decide)
  have H1 := wrongL_any v l _ (h.below X0)
  obtain ⟨A, C, rfl⟩ := h.shape
  have HC : Hid (∀ i x, l[i]? = some x → ∃ b o, A = some ⟨b, o, none⟩ ∧ BatIn w b (o + i * 2) x) := bats_at h
  rw [wrongL_ok2 hE, hE] at H1 ⊢
  clear h hE h5
  go_enter Try.func12, Try.ntmps12
  go_wp2_with fail
  refine H1.mono ?_
  rintro e w1 ⟨rfl, b1⟩
  have bA : Below w1.heap.size w1 (w1.alloc (.cells #[.int .i64 0, .int .i64 0] 33)) := (Below.refl _ _).alloc (Nat.le_refl _) _
  have V1 := (V0.off (N := w.heap.size) (OffB.of_below b1)).off (N := w.heap.size) (OffB.of_below bA)
  have bz := bt (bt X0 b1) bA
  have H2 := app1_any w.heap.size l.length (.slice none 0 0) [] _ (owns_nil _ _) bz.size (Nat.zero_le _) (by omega)
  clear H1 V0 X0 b1
  go_wp2_with fail
  refine H2.mono ?_
  rintro e w2 ⟨v2, rfl, B2, O2⟩
  have B2 : BufL w2 w.heap.size v2 [l.length] := B2
  have V2 := V1.off O2
  have b2 := bz.trans (O2.below bz.size)
  have hN2 := b2.size
  clear H2 V1 O2 bA bz
  go_wp2_with fail
  go_loopw [5, 19] (fun y x wr => ∃ k : Nat, k ≤ l.length ∧ x = .int .i64 k ∧ BufL wr w.heap.size y ([l.length] ++ (l.take k).flatMap Evt.encB) ∧ OffB w.heap.size w2 wr) (fun _ x _ => l.length - (intOf x).toNat)
  case atStart => exact ⟨0, Nat.zero_le _, rfl, by simpa using B2, OffB.refl _ _⟩
  case round =>
    obtain ⟨k, hk, rfl, BR, OR⟩ := hrel
    have hNr := Nat.le_trans hN2 OR.size
    have br := b2.trans (OR.below hN2)
    by_cases hlt : k < l.length
    · have hlt' : (k : Int) < (l.length : Int) := by omega
      obtain ⟨x, hx⟩ : ∃ x, l[k]? = some x := ⟨l[k], List.getElem?_eq_getElem hlt⟩
      have HT : Hid ((l.take (k + 1)).flatMap Evt.encB = (l.take k).flatMap Evt.encB ++ Evt.encB x) := take_flat Evt.encB l k x hx
      have HZ : ((l.take k).flatMap Evt.encB).length ≤ l.length * 154 := take_len_le Evt.encB 154 k l (fun e he => encB_len (HA.out e he))
      obtain ⟨b, o, rfl, hin⟩ := HC.out k x hx
      obtain ⟨vs0, d00, d10, he⟩ := hin
      have d0 := (br.cell (p := ⟨b, o + k * 2, none⟩) (World.block_lt_of_cell? _ _ d00)).trans d00
      have d1 := (br.cell (p := ⟨b, o + k * 2 + 1, none⟩) (World.block_lt_of_cell? _ _ d10)).trans d10
      have hw0 : (Evt.wrongB ⟨x.cmd, x.evs⟩).1 = 0 := HA.out x (List.mem_of_getElem? hx)
      have bA : Below wr.heap.size wr (wr.alloc (.cells #[.int .i64 x.cmd, vs0] 31)) := (Below.refl _ _).alloc (Nat.le_refl _) _
      have HW := appB_any w x.cmd vs0 x.evs he u5 _ _ (br.trans (bA.mono hNr)) (BR.below bA) (by rw [List.length_append]; simp only [List.length_cons, List.length_nil]; omega) hw0
      have HQ : Hid ((⟨x.cmd, x.evs⟩ : Evt.Bat) = x) := rfl
      rw [HQ.out] at HW
      obtain ⟨As, Cs, rfl⟩ := he.shape
      clear hx BR HZ hw0 he d00 d10
      go_wp2_with fail
      refine HW.mono ?_
      rintro e w3 ⟨v3, rfl, B3, O3⟩
      have O3 := (OffB.of_below bA (N := w.heap.size)).trans O3
      have HB : Hid (BufL w3 w.heap.size v3 ([l.length] ++ (l.take (k + 1)).flatMap Evt.encB)) := by
        have := B3
        rw [List.append_assoc, ← HT.out] at this
        exact this
      clear HW B3 bA
      go_wp2_with fail
      exact ⟨⟨k + 1, by omega, by go_num, HB.out, OR.trans O3⟩, by simp [intOf]; omega⟩
    · obtain rfl : k = l.length := by omega
      have HB : BufL wr w.heap.size u5 (Evt.encL l) := by
        have := BR
        rw [List.take_length] at this
        exact this
      have VZ := V2.off OR
      have c0 := VZ.cell 0 _ rfl
      have c1 := VZ.cell 1 _ rfl
      have f0 := VZ.frozen 0
      have f1 := VZ.frozen 1
      clear BR OR
      go_wp2_with fail
      refine bodyPost_ret (v := .tuple #[u5, .agg #[.int .i64 0, .int .i64 0]]) (by simp [results, Try.results12, go_sem, c0, c1]) rfl ⟨_, rfl, ?_, ?_⟩
      · refine BufL.off (S := fun k => k = w.heap.size) HB (((Off.refl (fun k => k = w.heap.size) _).set (p := ⟨w.heap.size, 0, none⟩) rfl _).set (p := ⟨w.heap.size, 1, none⟩) rfl _) (fun g hg e => ?_)
        obtain ⟨c, hc⟩ := owns_heap HB hg
        rw [e, VZ.hp] at hc
        cases hc
      · exact (br.setCell (Nat.le_refl _) _).setCell (Nat.le_refl _) _

/-- Bytes of whatever batches. -/
theorem bytesL_any (v : Value) (l : List Evt.Bat) (w : World) (h : Bats w v l) :
    Calls Try.prog 12 #[v] w fun e w' => ∃ v', e = .returned (.tuple #[v', .agg #[.int .i64 ((Evt.wrongL l).1 : Nat), .int .i64 ((Evt.wrongL l).2 : Nat)]]) ∧ BufL w' w.heap.size v' (outL l) ∧ Below w.heap.size w w' := by
  by_cases hE : (Evt.wrongL l).1 = 0
  · exact bytesL_ok v l w h hE
  · exact bytesL_bad v l w h hE

end Go.Proofs.Ytniaffofeeieead
