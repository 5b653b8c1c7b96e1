/-
  Texts of the proof, joined: HEvs, HAll.
-/
import Derived.Test.YtmcaejooaaahdaaGreatZ37
import Derived.Test.YtmcaejooaaahdaaGreatZ38
import Derived.Maps.AppendAt
import Derived.Deep.RegionHeld3
namespace Go.Proofs.YtmcaejooaaahdaaGreat
open Go.RowKit

/-- The cells of events. -/
theorem evs_cells {w : World} {v : Value} {l : List Evt.Ev} (h : Evs w v l) :
    ∃ es : List EvC, es.map evOf = l ∧ (∀ e, e ∈ es → e.1.size ≤ 9223372036854775807) ∧ ∀ A C, v = .slice (some A) l.length C → ∀ j u, (es.flatMap evCells)[j]? = some u → w.cell? (A.add j) = some u := by
  by_cases h0 : 1 ≤ l.length
  · obtain ⟨b, o, C, rfl, _, _, hc⟩ := h.some h0
    have each : ∀ i, i < l.length → ∃ q : EvC, ∀ x, l[i]? = some x → evOf q = x ∧ q.1.size ≤ 9223372036854775807 ∧ w.cell? ⟨b, o + i * 3, none⟩ = some (.string q.1) ∧ w.cell? ⟨b, o + i * 3 + 1, none⟩ = some (.int .i64 q.2.1) ∧ w.cell? ⟨b, o + i * 3 + 2, none⟩ = some (.int .i64 q.2.2) := by
      intro i hi
      obtain ⟨s, h1, h2, c0, c1, c2⟩ := hc i l[i] (List.getElem?_eq_getElem hi)
      refine ⟨(s, l[i].kind, l[i].num), fun x hx => ?_⟩
      rw [List.getElem?_eq_getElem hi, Option.some.injEq] at hx
      subst hx
      refine ⟨?_, h1, c0, c1, c2⟩
      show (⟨nb s, _, _⟩ : Evt.Ev) = _
      rw [h2]
    obtain ⟨q, hq⟩ := Deep.choose_lt (α := EvC) each
    have hL : ∀ i, i < l.length → ((List.range l.length).map q)[i]? = some (q i) := fun i hi => by simp [hi]
    refine ⟨(List.range l.length).map q, ?_, fun e he => ?_, fun A C' hv j u hj => ?_⟩
    · apply List.ext_getElem?
      intro i
      by_cases hi : i < l.length
      · rw [List.getElem?_map, hL i hi, List.getElem?_eq_getElem hi, Option.map_some, (hq i hi l[i] (List.getElem?_eq_getElem hi)).1]
      · rw [List.getElem?_eq_none (by simpa using hi), List.getElem?_eq_none (by omega)]
    · obtain ⟨i, hi, rfl⟩ := List.mem_map.1 he
      have hi := List.mem_range.1 hi
      exact (hq i hi l[i] (List.getElem?_eq_getElem hi)).2.1
    · cases hv
      have hlen : (((List.range l.length).map q).flatMap evCells).length = l.length * 3 := by
        rw [flat_len evCells 3 _ (fun _ _ => rfl)]
        simp
      have hj2 : j < l.length * 3 := by
        have := (List.getElem?_eq_some_iff.1 hj).1
        omega
      have hi : j / 3 < l.length := by omega
      have hf := flat_get evCells 3 ((List.range l.length).map q) (fun _ _ => rfl) (j / 3) (j % 3) (by omega) (q (j / 3)) (hL _ hi)
      rw [show j / 3 * 3 + j % 3 = j by omega, hj] at hf
      obtain ⟨_, _, c0, c1, c2⟩ := hq (j / 3) hi l[j / 3] (List.getElem?_eq_getElem hi)
      rw [WideShapes.add_plain]
      rcases (show j % 3 = 0 ∨ j % 3 = 1 ∨ j % 3 = 2 by omega) with e | e | e
      · rw [e] at hf
        cases hf
        rw [show o + j = o + j / 3 * 3 by omega]
        exact c0
      · rw [e] at hf
        cases hf
        rw [show o + j = o + j / 3 * 3 + 1 by omega]
        exact c1
      · rw [e] at hf
        cases hf
        rw [show o + j = o + j / 3 * 3 + 2 by omega]
        exact c2
  · obtain rfl : l = [] := List.eq_nil_of_length_eq_zero (by omega)
    exact ⟨[], rfl, fun e he => (by cases he), fun A C _ j u hj => (by cases hj)⟩
theorem evC_one (es : List EvC) : ∀ u ∈ es.flatMap evCells, u.oneCell' = true := fun u hu => by
  obtain ⟨x, _, hx⟩ := List.mem_flatMap.1 hu
  simp only [evCells, List.mem_cons, List.not_mem_nil, or_false] at hx
  rcases hx with rfl | rfl | rfl <;> rfl
theorem evC_len (es : List EvC) : (es.flatMap evCells).length = es.length * 3 := flat_len evCells 3 _ (fun _ _ => rfl)
/-- Events are appended to events of the call's own. -/
theorem app_evs (w : World) (N : Nat) (v : Value) (es0 es : List EvC) (h0 : EBuf w N v es0) (hN : N ≤ w.heap.size) (a : Addr) (C : Nat) (hc : ∀ j u, (es.flatMap evCells)[j]? = some u → w.cell? (a.add j) = some u) (hz : ∀ e, e ∈ es → e.1.size ≤ 9223372036854775807) (hsz : es0.length + es.length ≤ 4000000) :
    ∃ v' w', (Builtin.append_ #[40, 40] 40 #[v, .slice (some a) es.length C]).run Tryz.prog w = .ok v' w' ∧ EBuf w' N v' (es0 ++ es) ∧ Off (fun k => v.ownBlock = some k) w w' ∧ (v'.ownBlock = v.ownBlock ∨ v'.ownBlock = some w.heap.size) := by
  obtain ⟨i4, hi4, hh4⟩ := Option.map_eq_some_iff.1 Tryz.infoEvent
  simp only [Prod.mk.injEq] at hh4
  obtain ⟨hy0, hy1, hy2⟩ := hh4
  obtain ⟨v', w', hrun, ho, hg, _, hat⟩ := run_append_own_at (P := Tryz.prog) w N 40 40 83 i4 _ 3 32 Tryz.underlying40 hi4 hy0 hy1 hy2 rfl (by decide) v es0.length _ h0.1 a es.length C (es.flatMap evCells) (evC_len es) hc (evC_one es) (by unfold maxLen; omega) (by omega) hN
  refine ⟨v', w', hrun, ⟨?_, fun e he => ?_⟩, off_of_grown hg, hat⟩
  · rw [List.length_append, List.flatMap_append]
    exact ho
  · rcases List.mem_append.1 he with q | q
    · exact h0.2 e q
    · exact hz e q
theorem EBuf.lower {w : World} {N M : Nat} {v : Value} {es : List EvC} (h : EBuf w N v es) (hM : M ≤ N) : EBuf w M v es :=
  ⟨⟨h.1.1, h.1.2.imp id fun ⟨g, cap, cur, q1, q2, q3⟩ => ⟨g, cap, cur, q1, Nat.le_trans hM q2, q3⟩⟩, h.2⟩

/-- Events of the call's own that are those. -/
def CloneE (e : Ending) (w' : World) (N : Nat) (l : List Evt.Ev) : Prop := ∃ v es, e = .returned v ∧ es.map evOf = l ∧ EBuf w' N v es
set_option maxHeartbeats 400000 in
theorem cloneE_any (vs : Value) (l : List Evt.Ev) (w : World) (h : Evs w vs l) (hn : l.length ≤ 2000000) :
    Calls Tryz.prog 77 #[vs] w fun e w' => CloneE e w' w.heap.size l ∧ Below w.heap.size w w' := by
  obtain ⟨es, hes, hez, hec⟩ := evs_cells h
  have hel : es.length = l.length := by rw [← hes, List.length_map]
  have HE : Hid (es.map evOf = l) := hes
  obtain ⟨A, C, rfl, _, _, hin⟩ := h
  have hq := fun w => Lib.run_eql_slice_nil (P := Tryz.prog) w 40 83 A l.length C 0 0 Tryz.underlying40
  cases A with
  | none =>
    have hl0 : l = [] := by
      cases l with
      | nil => rfl
      | cons a r =>
        obtain ⟨_, _, e, _⟩ := hin 0 a rfl
        cases e
    have HR : Hid (CloneE (.returned (.slice none 0 0)) w w.heap.size l) := ⟨_, [], rfl, hl0.symm, EBuf.nil w _⟩
    clear hes hec hel HE hin hl0
    go_enter Tryz.func77, Tryz.ntmps77
    go_wp2_with fail
    go_ret
    exact ⟨HR.out, Below.refl _ _⟩
  | some a =>
    have hb0 : Below w.heap.size w (w.alloc (.cells #[] 83)) := (Below.refl _ _).alloc (Nat.le_refl _) _
    have h0 : EBuf (w.alloc (.cells #[] 83)) w.heap.size (.slice (some ⟨w.heap.size, 0, none⟩) 0 0) [] := ⟨World.ownsRow_made w #[] 0 (Nat.le_refl _) (by unfold maxLen; omega) rfl, fun e he => (by cases he)⟩
    obtain ⟨v', w', hrun, hB, hof, _⟩ := app_evs (w.alloc (.cells #[] 83)) w.heap.size _ [] es h0 hb0.size a C (fun j u hj => by
      have h1 := hec a C rfl j u hj
      exact (hb0.cell (World.block_lt_of_cell? _ _ h1)).trans h1) hez (by simp; omega)
    rw [hel] at hrun
    have hbl : Below w.heap.size w w' := hb0.trans (hof.below hb0.size fun k q => by
      cases q
      exact Nat.le_refl _)
    have HR : Hid (CloneE (.returned v') w' w.heap.size l) := ⟨v', es, rfl, HE.out, by rw [List.nil_append] at hB; exact hB⟩
    clear hes hec hel HE hin hB h0 hof
    go_enter Tryz.func77, Tryz.ntmps77
    go_wp2_with (at_builtin; refine Lib.wpList_append_run _ rfl _ _ _ _ rfl _ _ rfl rfl _ _ hrun ?_)
    go_ret
    exact ⟨HR.out, hbl⟩

/-! ### Batches' events -/
theorem evsOf_take {l : List Evt.Bat} {k : Nat} {b : Evt.Bat} (h : l[k]? = some b) : Sto.evsOf (l.take (k + 1)) = Sto.evsOf (l.take k) ++ b.evs := by
  rw [List.take_add_one, h, Sto.evsOf_append]
  simp [Sto.evsOf]
theorem evsOf_len_take (l : List Evt.Bat) (k : Nat) : (Sto.evsOf (l.take k)).length ≤ (Sto.evsOf l).length := by
  conv => rhs; rw [← List.take_append_drop k l, Sto.evsOf_append, List.length_append]
  omega
/-- What is told: events of the call's own, with those behind them. -/
def AppO (e : Ending) (w w' : World) (N : Nat) (v : Value) (l : List Evt.Ev) : Prop := ∃ v' es', e = .returned v' ∧ EBuf w' N v' es' ∧ es'.map evOf = l ∧ Off (fun k => v.ownBlock = some k) w w' ∧ (v'.ownBlock = v.ownBlock ∨ ∀ g, v'.ownBlock = some g → w.heap.size ≤ g)
/-- Under way: k batches are done. -/
def AppS (w wr : World) (N : Nat) (v y : Value) (es : List EvC) (l : List Evt.Bat) (k : Nat) : Prop := ∃ es', EBuf wr N y es' ∧ es'.map evOf = es.map evOf ++ Sto.evsOf (l.take k) ∧ Off (fun k => v.ownBlock = some k) w wr ∧ (y.ownBlock = v.ownBlock ∨ ∀ g, y.ownBlock = some g → w.heap.size ≤ g)
set_option maxHeartbeats 1000000 in
set_option maxRecDepth 100000 in
theorem appEvs_any (N : Nat) (v vb : Value) (es : List EvC) (l : List Evt.Bat) (w : World) (h : EBuf w N v es) (hN : N ≤ w.heap.size) (hB : ∀ w', Off (fun k => v.ownBlock = some k) w w' → Bats w' vb l) (hne : ∀ b, b ∈ l → 1 ≤ b.evs.length) (hsz : es.length + (Sto.evsOf l).length ≤ 1000000) :
    Calls Tryz.prog 84 #[v, vb] w fun e w' => AppO e w w' N v (es.map evOf ++ Sto.evsOf l) := by
  have hb0 := hB w (Off.refl _ _)
  obtain ⟨A, C, hvb, hC1, hC2, _⟩ := hb0
  have HB : Hid (∀ w', Off (fun k => v.ownBlock = some k) w w' → ∀ i x, l[i]? = some x → ∃ b o, A = some ⟨b, o, none⟩ ∧ BatIn w' b (o + i * 2) x) := fun w' ho i x hx => by
    obtain ⟨A', C', hv', _, _, hc⟩ := hB w' ho
    rw [hvb] at hv'
    cases hv'
    exact hc i x hx
  have HNE : Hid (∀ b, b ∈ l → 1 ≤ b.evs.length) := hne
  have HSZ : Hid (es.length + (Sto.evsOf l).length ≤ 1000000) := hsz
  have hC2' : C ≤ 9223372036854775807 := by unfold maxLen at hC2; exact hC2
  subst hvb
  have H0 : AppS w w N v v es l 0 := ⟨es, h, by rw [List.take_zero]; exact (List.append_nil _).symm, Off.refl _ _, Or.inl rfl⟩
  clear hB hne hsz h hC2
  go_enter Tryz.func84, Tryz.ntmps84
  go_wp2_with fail
  go_loopw [0, 9] (fun y x wr => ∃ k : Nat, k ≤ l.length ∧ x = .int .i64 k ∧ Hid (∃ es', EBuf wr N y es' ∧ es'.map evOf = es.map evOf ++ Sto.evsOf (l.take k) ∧ Off (fun k => v.ownBlock = some k) w wr ∧ (y.ownBlock = v.ownBlock ∨ ∀ g, y.ownBlock = some g → w.heap.size ≤ g))) (fun _ x _ => l.length - (intOf x).toNat)
  case atStart => exact ⟨0, Nat.zero_le _, rfl, H0⟩
  case round =>
    obtain ⟨k, hk, rfl, HS⟩ := hrel
    by_cases hlt : k < l.length
    · have hlt' : (k : Int) < (l.length : Int) := by omega
      obtain ⟨es', hE, hmap, hof, hat⟩ := HS
      obtain ⟨x, hx⟩ : ∃ x, l[k]? = some x := ⟨l[k], List.getElem?_eq_getElem hlt⟩
      obtain ⟨b, o, rfl, ve, d0, d1, hev⟩ := HB.out wr hof k x hx
      have hx1 := HNE.out x (List.mem_of_getElem? hx)
      have bA : Below wr.heap.size wr (wr.alloc (.cells #[.int .i64 x.cmd, ve] 47)) := (Below.refl _ _).alloc (Nat.le_refl _) _
      obtain ⟨bb, oo, CC, rfl, hc1, hc2, _⟩ := hev.some hx1
      obtain ⟨xs, hxs, hxz, hxc⟩ := evs_cells (hev.below bA)
      have hxl : xs.length = x.evs.length := by rw [← hxs, List.length_map]
      have hlen : es'.length = es.length + (Sto.evsOf (l.take k)).length := by
        have := congrArg List.length hmap
        rw [List.length_map, List.length_append, List.length_map] at this
        exact this
      have hle := evsOf_len_take l (k + 1)
      rw [evsOf_take hx, List.length_append] at hle
      have hzz := HSZ.out
      obtain ⟨v', w', hrun, hB', hof', hat'⟩ := app_evs (wr.alloc (.cells #[.int .i64 x.cmd, .slice (some ⟨bb, oo, none⟩) x.evs.length CC] 47)) N u0 es' xs (hE.below bA) (Nat.le_trans hN (Nat.le_trans hof.size bA.size)) ⟨bb, oo, none⟩ CC (hxc _ _ rfl) hxz (by omega)
      rw [hxl] at hrun
      have HNX : AppS w w' N v v' es l (k + 1) := by
        refine ⟨es' ++ xs, hB', by rw [List.map_append, hmap, hxs, evsOf_take hx, List.append_assoc], (hof.trans (Off.of_below bA)).past hof' fun q hq hql => ?_, ?_⟩
        · rcases hat with z | z
          · rw [← z]
            exact hq
          · have := z q hq
            omega
        · rcases hat' with z | z
          · rcases hat with z1 | z1
            · exact Or.inl (z.trans z1)
            · exact Or.inr fun g hg => z1 g (z ▸ hg)
          · refine Or.inr fun g hg => ?_
            rw [z] at hg
            cases hg
            exact Nat.le_trans hof.size bA.size
      have VB := varF_new wr 47 (.int .i64 x.cmd) (.slice (some ⟨bb, oo, none⟩) x.evs.length CC)
      obtain ⟨e0, e1, _⟩ := VB
      obtain ⟨m, hm⟩ : ∃ m, m = x.evs.length := ⟨_, rfl⟩
      rw [← hm] at hrun d1 hc1 e1
      rw [← hm] at e0
      clear hE hmap hof hat hx hev hxs hxz hxc hxl hlen hle hzz hB' hof' hat' bA hx1 hm
      go_wp2_with (at_builtin; refine Lib.wpList_append_run _ rfl _ _ _ _ rfl _ _ rfl rfl _ _ hrun ?_)
      exact ⟨⟨k + 1, by omega, by go_num, HNX⟩, by simp [intOf]; omega⟩
    · obtain rfl : k = l.length := by omega
      have HF : Hid (AppO (.returned u0) w wr N v (es.map evOf ++ Sto.evsOf l)) := by
        obtain ⟨es', hE, hmap, hof, hat⟩ := HS
        rw [List.take_length] at hmap
        exact ⟨u0, es', rfl, hE, hmap, hof, hat⟩
      clear HS
      go_wp2_with fail
      go_ret
      exact HF.out

end Go.Proofs.YtmcaejooaaahdaaGreat

namespace Go.Proofs.YtmcaejooaaahdaaGreat
open Go.RowKit

theorem BatsM.off {S : Nat → Prop} {w w' : World} {M : Nat} {v : Value} {l : List Evt.Bat} (h : BatsM w M v l) (ho : Off S w w') (hS : ∀ k, S k → k < M) : BatsM w' M v l := by
  obtain ⟨A, cap, hv, h1, h2, h3⟩ := h
  refine ⟨A, cap, hv, h1, h2, fun i x hx => ?_⟩
  obtain ⟨b, o, e1, e2, ve, c0, c1, he, e3⟩ := h3 i x hx
  have hp : b < w.heap.size := World.block_lt_of_cell? _ _ c0
  have hb := ho.block b hp fun z => by have := hS b z; omega
  refine ⟨b, o, e1, e2, ve, (World.cell?_of_block (w := w) (a := ⟨b, o + i * 2, none⟩) hb).trans c0, (World.cell?_of_block (w := w) (a := ⟨b, o + i * 2 + 1, none⟩) hb).trans c1, ?_, e3⟩
  have h4 : EvsE w (fun k => M ≤ k) ve x.evs := ⟨he, fun g hg _ => e3 g hg⟩
  exact (h4.move (w' := w') (E' := fun k => M ≤ k) (fun k hk hM => ho.block k hk fun z => by have := hS k z; omega) fun _ _ z => z).1
theorem TlAt.bats {w : World} {N : Nat} {E : Nat → Prop} {vt : Value} {tc : List (Int × Sl)} {l : List Evt.Bat} (h : TlAt w N E vt tc l) : Bats w vt l := by
  have hB : BBuf w N vt (tc.map fun x => (x.1, slV x.2)) := by
    unfold BBuf
    rw [List.length_map, h.len, List.flatMap_map]
    exact h.own
  refine hB.bats (by rw [List.length_map, h.len]) fun i x b hx hb => ?_
  rw [List.getElem?_map] at hx
  obtain ⟨y, hy, rfl⟩ := Option.map_eq_some_iff.1 hx
  exact ⟨(h.evs i y b hy hb).1, (h.evs i y b hy hb).2.1⟩
theorem wrongL_small {l : List Evt.Bat} (h : (Evt.wrongL l).1 = 0) : (Sto.evsOf l).length ≤ 2550 ∧ ∀ b, b ∈ l → 1 ≤ b.evs.length := by
  obtain ⟨h1, h2⟩ := Evt.wrongL_inv h
  refine ⟨?_, fun b hb => (Evt.wrongB_inv (h2 b hb)).2.2.1⟩
  have key : ∀ r : List Evt.Bat, (∀ b, b ∈ r → b.evs.length ≤ 10) → (Sto.evsOf r).length ≤ r.length * 10 := by
    intro r
    induction r with
    | nil => intro _; simp [Sto.evsOf]
    | cons x r ih =>
      intro hr
      have h3 := hr x List.mem_cons_self
      have h4 := ih fun b hb => hr b (List.mem_cons_of_mem _ hb)
      have e : Sto.evsOf (x :: r) = x.evs ++ Sto.evsOf r := by simp [Sto.evsOf]
      rw [e, List.length_append, List.length_cons, Nat.succ_mul]
      omega
  have := key l fun b hb => (Evt.wrongB_inv (h2 b hb)).2.2.2.1
  omega
theorem parse_ok {r : List Nat} (h : Evt.parseE r = 0) : (Evt.wrongL (Evt.parse r)).1 = 0 := by
  unfold Evt.parseE at h
  unfold Evt.parse
  cases hg : Evt.getL r with
  | none =>
    rw [hg] at h
    cases h
  | some l =>
    rw [hg] at h
    show (Evt.wrongL (if (Evt.wrongL l).1 = 0 then l else [])).1 = 0
    have h : (Evt.wrongL l).1 = 0 := h
    rw [if_pos h]
    exact h
theorem keepR {R i : Nat} {x : Value} {w0 wX w3 : World} (b3 : Below wX.heap.size wX w3) (h : wX.cell? ⟨R, i, none⟩ = some x ∧ Below w0.heap.size w0 wX) : w3.cell? ⟨R, i, none⟩ = some x ∧ Below w0.heap.size w0 w3 :=
  ⟨(b3.cell (p := ⟨R, i, none⟩) (World.block_lt_of_cell? _ _ h.1)).trans h.1, bt h.2 b3⟩

/-- All events are told, or an error. -/
def AllO (e : Ending) (w' : World) (N : Nat) (r : Nat × List Evt.Ev) : Prop := ∃ v es, e = .returned (.tuple #[v, .int .i64 (r.1 : Nat)]) ∧ es.map evOf = r.2 ∧ EBuf w' N v es ∧ es.length ≤ 200000
theorem allO_bad (w' : World) (N x : Nat) : AllO (.returned (.tuple #[.slice none 0 0, .int .i64 (x : Nat)])) w' N (x, []) := ⟨_, [], rfl, rfl, EBuf.nil _ _, Nat.zero_le _⟩
/-- Segments below k are read. -/
def AllS (X : Sto.Six) (c : Sto.Cfg) (ds : List Sto.Disk) (n : Nat) (w wr : World) (y : Value) (k : Nat) : Prop := ∃ es, EBuf wr w.heap.size y es ∧ Below w.heap.size w wr ∧ es.length ≤ k * 2550 ∧ Sto.allS X c ds n 0 [] = Sto.allS X c ds (n - k) k (es.map evOf)
section
variable {N R D : Nat} {F E : Nat → Prop} {c : Sto.Cfg} {s : Sto.St} {V : Nat → Value} {U : Nat → List HeC} {vt vs va : Value} {tc : List (Int × Sl)} {X : Sto.Six}
set_option maxHeartbeats 4000000 in
set_option maxRecDepth 100000 in
theorem all_any (hX : Sto.SixOk X) (w : World) (h : StP w N R F E c s D V U vt vs va tc) :
    Calls Tryz.prog 47 #[.pointer (some ⟨R, 0, none⟩)] w fun e w' => AllO e w' w.heap.size (Sto.all X c s) ∧ Below w.heap.size w w' := by
  have c4 := h.var.cell (i := 4) rfl
  have hsg := h.wf.segs
  have HP : Hid (StP w N R F E c s D V U vt vs va tc) := h
  have HX : Hid (Sto.SixOk X) := hX
  have HA : Hid (Sto.all X c s = if (Sto.allS X c s.disks s.segs 0 []).1 ≠ 0 then ((Sto.allS X c s.disks s.segs 0 []).1, []) else (0, (Sto.allS X c s.disks s.segs 0 []).2 ++ Sto.evsOf s.tail)) := rfl
  obtain ⟨n, hn⟩ : ∃ n, n = s.segs := ⟨_, rfl⟩
  rw [← hn] at c4 hsg HA
  have S0 : AllS X c s.disks n w w (.slice none 0 0) 0 := ⟨[], EBuf.nil _ _, Below.refl _ _, Nat.zero_le _, rfl⟩
  clear h hX hn
  go_enter Tryz.func47, Tryz.ntmps47
  go_wp2_with fail
  go_loopw [4, 14] (fun y x wr => ∃ k : Nat, k ≤ n ∧ x = .int .i64 k ∧ AllS X c s.disks n w wr y k) (fun _ x _ => n - (intOf x).toNat)
  case atStart => exact ⟨0, Nat.zero_le _, rfl, S0⟩
  case round =>
    obtain ⟨k, hk, rfl, es, hE, hb, hel, heq⟩ := hrel
    by_cases hlt : k < n
    · have hlt' : (k : Int) < (n : Int) := by omega
      obtain ⟨m, hm⟩ : ∃ m, n - k = m + 1 := ⟨n - k - 1, by omega⟩
      have hP := HP.out.below hb
      have HBK := fun w' (hS : w'.cell? ⟨R, 0, none⟩ = some (.int .i64 (c.d : Int)) ∧ Below wr.heap.size wr w') => (hP.below hS.2).blks (k : Int)
      have c0 := hP.var.cell (i := 0) rfl
      have TD : wr.drew.cell? ⟨R, 0, none⟩ = some (.int .i64 (c.d : Int)) ∧ Below wr.heap.size wr wr.drew := ⟨c0, (Below.refl _ _).drew⟩
      have HEQ : Hid (Sto.allS X c s.disks n 0 [] = if (X.read (Sto.blocks s.disks k) k c).1 ≠ 0 then ((X.read (Sto.blocks s.disks k) k c).1, []) else if Evt.parseE (X.read (Sto.blocks s.disks k) k c).2 ≠ 0 then (Evt.parseE (X.read (Sto.blocks s.disks k) k c).2, []) else Sto.allS X c s.disks m (k + 1) (es.map evOf ++ Sto.evsOf (Evt.parse (X.read (Sto.blocks s.disks k) k c).2))) := by
        show Sto.allS X c s.disks n 0 [] = _
        rw [heq, hm, Sto.allS]
      have HRD : Hid (∀ v' w', Lls w' v' (Sto.blocks s.disks (k : Int)).length (Sto.lenF (Sto.blocks s.disks (k : Int))) (Sto.valF (Sto.blocks s.disks (k : Int))) → Calls Tryz.prog 82 #[v', .int .i64 (k : Int), .int .i64 (c.d : Int)] w' fun e w2 => ∃ v2, e = .returned (.tuple #[v2, .int .i64 ((X.read (Sto.blocks s.disks (k : Int)) k c).1 : Nat)]) ∧ BytL w2 v2 (X.read (Sto.blocks s.disks (k : Int)) k c).2 ∧ Below w'.heap.size w' w2) := fun v' w' hL => readX_any HX.out v' _ k c w' hL
      generalize (X.read (Sto.blocks s.disks (k : Int)) k c).1 = x at HEQ HRD
      generalize (X.read (Sto.blocks s.disks (k : Int)) k c).2 = r at HEQ HRD
      have HNK : Hid (n - (k + 1) = m) := show n - (k + 1) = m by omega
      clear heq hm hP c0
      go_wp2_with fail
      go_region_held3 (fun w' => w'.cell? ⟨R, 0, none⟩ = some (.int .i64 (c.d : Int)) ∧ Below wr.heap.size wr w')
        (first | with_reducible exact TD | with_reducible assumption | with_reducible exact keepR (by assumption) (by assumption))
        (first | (go_at_call 52; refine (HBK _ (by assumption)).mono ?_; rintro e1 w1 ⟨⟨v1, rfl, hL1⟩, b1⟩; have S1 := keepR b1 (by assumption)) | (go_at_call 82; refine (HRD.out _ _ (by assumption)).mono ?_; rintro e2 w2 ⟨v2, rfl, hY2, b2⟩; have S2 := keepR b2 (by assumption)))
      have b2' := S2.2
      clear S1 S2 TD HBK HRD b1 b2 hL1
      by_cases hx : x = 0
      case neg =>
        have HF : Hid (Sto.all X c s = (x, [])) := by
          show Sto.all X c s = (x, [])
          have e1 : Sto.allS X c s.disks n 0 [] = (x, []) := by rw [HEQ.out, if_pos hx]
          rw [HA.out, e1]
          exact if_pos hx
        have hxn : ((x : Int) != 0) = true := by rw [bne_iff_ne]; omega
        obtain ⟨A2, C2, rfl⟩ := hY2.byts.shape
        clear hx hY2
        go_wp2_with fail
        go_ret2
        exact ⟨by rw [HF.out]; exact allO_bad _ _ _, bt hb b2'⟩
      case pos =>
        subst hx
        have HPA := parseM_any v2 r w2 hY2
        have hPO : Evt.parseE r = 0 → (Evt.wrongL (Evt.parse r)).1 = 0 := parse_ok
        obtain ⟨A2, C2, rfl⟩ := hY2.byts.shape
        obtain ⟨y, hy⟩ : ∃ y, Evt.parseE r = y := ⟨_, rfl⟩
        have HY : Hid (Evt.parseE r = y) := hy
        rw [hy] at HPA
        clear hy hY2
        go_wp2_with fail
        refine HPA.mono ?_
        rintro e3 w3 ⟨v3, rfl, hB3, b3⟩
        by_cases hy0 : y = 0
        case neg =>
          have HF : Hid (Sto.all X c s = (y, [])) := by
            show Sto.all X c s = (y, [])
            have e1 : Sto.allS X c s.disks n 0 [] = (y, []) := by rw [HEQ.out, if_neg (fun z => z rfl), HY.out, if_pos hy0]
            rw [HA.out, e1]
            exact if_pos hy0
          have hyn : ((y : Int) != 0) = true := by rw [bne_iff_ne]; omega
          obtain ⟨A3, C3, hv3⟩ : ∃ A C, v3 = .slice A (Evt.parse r).length C := by
            obtain ⟨A3, C3, hv3, _⟩ := hB3
            exact ⟨A3, C3, hv3⟩
          subst hv3
          clear hy0 hB3 HPA
          go_wp2_with fail
          go_ret2
          exact ⟨by rw [HF.out]; exact allO_bad _ _ _, bt hb (bt b2' b3)⟩
        case pos =>
          subst hy0
          obtain ⟨hs1, hs2⟩ := wrongL_small (hPO HY.out)
          have hE3 := (hE.below b2').below b3
          have hel3 : es.length + (Sto.evsOf (Evt.parse r)).length ≤ (k + 1) * 2550 := by
            rw [Nat.succ_mul]
            omega
          have hb3 := bt hb (bt b2' b3)
          have hk1 : (k + 1) * 2550 ≤ 40 * 2550 := Nat.mul_le_mul_right _ (by omega)
          have HAP := appEvs_any w.heap.size u4 v3 es (Evt.parse r) w3 hE3 hb3.size (fun w' ho => (hB3.off ho fun q hq => ((hE.below b2').1.lt q hq).2).bats) hs2 (by omega)
          have HNX : Hid (∀ v4 es4 w4, EBuf w4 w.heap.size v4 es4 → es4.map evOf = es.map evOf ++ Sto.evsOf (Evt.parse r) → Off (fun q => u4.ownBlock = some q) w3 w4 → AllS X c s.disks n w w4 v4 (k + 1)) := fun v4 es4 w4 q1 q2 q3 => by
            refine ⟨es4, q1, hb3.trans (q3.below hb3.size fun q hq => (hE3.1.lt q hq).1), ?_, ?_⟩
            · have := congrArg List.length q2
              rw [List.length_map, List.length_append, List.length_map] at this
              omega
            · rw [HEQ.out, if_neg (fun z => z rfl), if_neg (fun z => z HY.out), q2, HNK.out]
          obtain ⟨A3, C3, hv3⟩ : ∃ A C, v3 = .slice A (Evt.parse r).length C := by
            obtain ⟨A3, C3, hv3, _⟩ := hB3
            exact ⟨A3, C3, hv3⟩
          subst hv3
          clear hB3 HPA hE hE3 hel3 hs1 hs2 hk1 hPO hel
          go_wp2_with fail
          refine HAP.mono ?_
          rintro e4 w4 ⟨v4, es4, rfl, hE4, hm4, ho4, _⟩
          have HN4 := HNX.out v4 es4 w4 hE4 hm4 ho4
          clear HAP hE4 hm4 ho4
          go_wp2_with fail
          exact ⟨⟨k + 1, by omega, by go_num, HN4⟩, by simp [intOf]; omega⟩
    · obtain rfl : k = n := by omega
      have hP := HP.out.below hb
      have c5 := hP.var.cell (i := 5) rfl
      have hne : ∀ b, b ∈ s.tail → 1 ≤ b.evs.length := fun b hb => (Evt.wrongB_inv (hP.wf.bats b hb)).2.2.1
      have htl : (Sto.evsOf s.tail).length ≤ 2550 := by
        have h1 := hP.wf.tail
        have h2 := hP.wf.b10
        have key : ∀ r : List Evt.Bat, (∀ b, b ∈ r → b.evs.length ≤ 10) → (Sto.evsOf r).length ≤ r.length * 10 := by
          intro r
          induction r with
          | nil => intro _; simp [Sto.evsOf]
          | cons x r ih =>
            intro hr
            have h3 := hr x List.mem_cons_self
            have h4 := ih fun b hb => hr b (List.mem_cons_of_mem _ hb)
            have e : Sto.evsOf (x :: r) = x.evs ++ Sto.evsOf r := by simp [Sto.evsOf]
            rw [e, List.length_append, List.length_cons, Nat.succ_mul]
            omega
        have := key s.tail fun b hb => (Evt.wrongB_inv (hP.wf.bats b hb)).2.2.2.1
        omega
      have hk1 : k * 2550 ≤ 40 * 2550 := Nat.mul_le_mul_right _ (by omega)
      have HAP := appEvs_any w.heap.size u4 vt es s.tail wr hE hb.size (fun w' ho => (hP.out ho fun q hq => ⟨fun z => by
        have z1 := (HP.out.lt q z).2
        have z2 := (hE.1.lt q hq).1
        omega, fun z => by
        have z1 := (HP.out.dis q z).2
        have z2 := (hE.1.lt q hq).1
        omega⟩).tail.bats) hne (by omega)
      have HF : Hid (Sto.all X c s = (0, es.map evOf ++ Sto.evsOf s.tail)) := by
        show Sto.all X c s = _
        rw [HA.out, heq, Nat.sub_self]
        rfl
      have HLN : Hid (es.length + (Sto.evsOf s.tail).length ≤ 200000) := show _ ≤ _ by omega
      have HBL : Hid (∀ w', Off (fun q => u4.ownBlock = some q) wr w' → Below w.heap.size w w') := fun w' q3 => hb.trans (q3.below hb.size fun q hq => (hE.1.lt q hq).1)
      clear hP hne htl hk1 hE hel heq
      go_wp2_with fail
      refine HAP.mono ?_
      rintro e4 w4 ⟨v4, es4, rfl, hE4, hm4, ho4, _⟩
      have hb4 := HBL.out w4 ho4
      have HO : Hid (AllO (.returned (.tuple #[v4, .int .i64 0])) w4 w.heap.size (Sto.all X c s)) := by
        show AllO _ _ _ _
        rw [HF.out]
        refine ⟨v4, es4, rfl, hm4, hE4, ?_⟩
        have := congrArg List.length hm4
        rw [List.length_map, List.length_append, List.length_map] at this
        rw [this]
        exact HLN.out
      clear HAP hE4 hm4 ho4
      go_wp2_with fail
      go_ret2
      exact ⟨HO.out, hb4⟩
end

end Go.Proofs.YtmcaejooaaahdaaGreat
