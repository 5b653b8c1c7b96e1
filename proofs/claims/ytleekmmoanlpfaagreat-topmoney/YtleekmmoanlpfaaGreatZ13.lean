/-
  Texts of the proof, joined: EMem, ESame, EBuf, ENum, EList, HSix.
-/
import Derived.Test.YtleekmmoanlpfaaGreatZ12
import Derived.Laws.StructEq
import Derived.Test.YtleekmmoanlpfaaGreatZ03
namespace Go.Proofs.YtleekmmoanlpfaaGreat
open Go.RowKit

/-- An event lies at (b, o). -/
def EvIn (w : World) (b o : Nat) (e : Evt.Ev) : Prop := ∃ s : ByteArray, s.size ≤ 9223372036854775807 ∧ nb s = e.name ∧ w.cell? ⟨b, o, none⟩ = some (.string s) ∧ w.cell? ⟨b, o + 1, none⟩ = some (.int .i64 e.kind) ∧ w.cell? ⟨b, o + 2, none⟩ = some (.int .i64 e.num)
theorem EvIn.below {w w' : World} {b o : Nat} {e : Evt.Ev} (h : EvIn w b o e) (hb : Below w.heap.size w w') : EvIn w' b o e := by
  obtain ⟨s, h1, h2, c0, c1, c2⟩ := h
  have hp : b < w.heap.size := World.block_lt_of_cell? _ _ c0
  exact ⟨s, h1, h2, (hb.cell (p := ⟨b, o, none⟩) hp).trans c0, (hb.cell (p := ⟨b, o + 1, none⟩) hp).trans c1, (hb.cell (p := ⟨b, o + 2, none⟩) hp).trans c2⟩
/-- A list of events. -/
def Evs (w : World) (v : Value) (es : List Evt.Ev) : Prop := ∃ A cap, v = .slice A es.length cap ∧ es.length ≤ cap ∧ cap ≤ maxLen ∧ ∀ i e, es[i]? = some e → ∃ b o, A = some ⟨b, o, none⟩ ∧ EvIn w b (o + i * 3) e
theorem Evs.below {w w' : World} {v : Value} {es : List Evt.Ev} (h : Evs w v es) (hb : Below w.heap.size w w') : Evs w' v es := by
  obtain ⟨A, cap, hv, h1, h2, h3⟩ := h
  refine ⟨A, cap, hv, h1, h2, fun i e he => ?_⟩
  obtain ⟨b, o, hA, hi⟩ := h3 i e he
  exact ⟨b, o, hA, hi.below hb⟩
theorem Evs.some {w : World} {v : Value} {es : List Evt.Ev} (h : Evs w v es) (hn : 1 ≤ es.length) : ∃ b o cap, v = .slice (some ⟨b, o, none⟩) es.length cap ∧ es.length ≤ cap ∧ cap ≤ 9223372036854775807 ∧ ∀ i e, es[i]? = some e → EvIn w b (o + i * 3) e := by
  obtain ⟨A, cap, hv, h1, h2, h3⟩ := h
  obtain ⟨b, o, rfl, _⟩ := h3 0 es[0] (List.getElem?_eq_getElem hn)
  refine ⟨b, o, cap, hv, h1, h2, fun i e he => ?_⟩
  obtain ⟨b', o', e1, e2⟩ := h3 i e he
  cases e1
  exact e2
/-- A batch lies at (b, o). -/
def BatIn (w : World) (b o : Nat) (x : Evt.Bat) : Prop := ∃ v, w.cell? ⟨b, o, none⟩ = some (.int .i64 x.cmd) ∧ w.cell? ⟨b, o + 1, none⟩ = some v ∧ Evs w v x.evs
theorem BatIn.below {w w' : World} {b o : Nat} {x : Evt.Bat} (h : BatIn w b o x) (hb : Below w.heap.size w w') : BatIn w' b o x := by
  obtain ⟨v, c0, c1, he⟩ := h
  have hp : b < w.heap.size := World.block_lt_of_cell? _ _ c0
  exact ⟨v, (hb.cell (p := ⟨b, o, none⟩) hp).trans c0, (hb.cell (p := ⟨b, o + 1, none⟩) hp).trans c1, he.below hb⟩
/-- A list of batches. -/
def Bats (w : World) (v : Value) (l : List Evt.Bat) : Prop := ∃ A cap, v = .slice A l.length cap ∧ l.length ≤ cap ∧ cap ≤ maxLen ∧ ∀ i x, l[i]? = some x → ∃ b o, A = some ⟨b, o, none⟩ ∧ BatIn w b (o + i * 2) x
theorem Bats.below {w w' : World} {v : Value} {l : List Evt.Bat} (h : Bats w v l) (hb : Below w.heap.size w w') : Bats w' v l := by
  obtain ⟨A, cap, hv, h1, h2, h3⟩ := h
  refine ⟨A, cap, hv, h1, h2, fun i e he => ?_⟩
  obtain ⟨b, o, hA, hi⟩ := h3 i e he
  exact ⟨b, o, hA, hi.below hb⟩
theorem Bats.some {w : World} {v : Value} {l : List Evt.Bat} (h : Bats w v l) (hn : 1 ≤ l.length) : ∃ b o cap, v = .slice (some ⟨b, o, none⟩) l.length cap ∧ l.length ≤ cap ∧ cap ≤ 9223372036854775807 ∧ ∀ i x, l[i]? = some x → BatIn w b (o + i * 2) x := by
  obtain ⟨A, cap, hv, h1, h2, h3⟩ := h
  obtain ⟨b, o, rfl, _⟩ := h3 0 l[0] (List.getElem?_eq_getElem hn)
  refine ⟨b, o, cap, hv, h1, h2, fun i e he => ?_⟩
  obtain ⟨b', o', e1, e2⟩ := h3 i e he
  cases e1
  exact e2
theorem Evs.shape {w : World} {v : Value} {es : List Evt.Ev} (h : Evs w v es) : ∃ A C, v = .slice A es.length C := by
  obtain ⟨A, C, hv, _⟩ := h
  exact ⟨A, C, hv⟩

/-- The two cells of a fault's variable. -/
structure VarF (w : World) (p : Nat) (a b : Value) : Prop where
  c0 : w.cell? ⟨p, 0, none⟩ = some a
  c1 : w.cell? ⟨p, 1, none⟩ = some b
  fr : ∀ i, w.frozen? ⟨p, i, none⟩ = false
theorem varF_new (w : World) (t : TypeId) (a b : Value) : VarF (w.alloc (.cells #[a, b] t)) w.heap.size a b := by
  have hr := World.rowIs_alloc w #[a, b] t (fun k => #[a, b].getD k a) (fun i hi => by simp only [Array.getElem?_eq_getElem hi, Array.getD, hi, dif_pos]; rfl)
  exact ⟨hr.cell (i := 0) (by simp), hr.cell (i := 1) (by simp), fun i => hr.frozen i⟩
theorem VarF.below {w w' : World} {p : Nat} {a b : Value} (h : VarF w p a b) (hb : Below w.heap.size w w') : VarF w' p a b := by
  have hp : p < w.heap.size := World.block_lt_of_cell? _ _ h.c0
  exact ⟨(hb.cell (p := ⟨p, 0, none⟩) hp).trans h.c0, (hb.cell (p := ⟨p, 1, none⟩) hp).trans h.c1, fun i => by
    rw [← h.fr i]
    exact World.frozen?_of_block (hb.block p hp)⟩


end Go.Proofs.YtleekmmoanlpfaaGreat

namespace Go.Proofs.YtleekmmoanlpfaaGreat
open Go.RowKit

theorem nb_inj {s s' : ByteArray} : nb s = nb s' ↔ s.toList = s'.toList := by
  unfold nb
  rw [ByteArray.toList_eq, ByteArray.toList_eq]
  constructor
  · intro h
    exact List.map_inj_right (fun a b e => UInt8.toNat_inj.1 e) |>.1 h
  · intro h
    rw [h]
theorem ev_neq (s s' : ByteArray) (k k' m m' : Int) (w : World) : (binOp .neq 32 (.agg #[.string s, .int .i64 k, .int .i64 m]) (.agg #[.string s', .int .i64 k', .int .i64 m'])).run Tryz.prog w = .ok (.bool (!(s.toList == s'.toList && (k == k' && m == m')))) w := by
  have u3 := Tryz.underlying3
  have u9 := Tryz.underlying9
  have a3 := Tryz.isAgg3
  have z3 := Tryz.sizeOf3
  have a9 := Tryz.isAgg9
  have z9 := Tryz.sizeOf9
  have hS : Tryz.prog.underlying 32 = some (.struct (Tryz.prog.fieldsOf 32)) := by kernel_rfl
  have hp : Tryz.prog.stoodInHeld 32 = false := by kernel_rfl
  rw [run_neq_struct, show (10000 : Nat) = 9999 + 1 from rfl, run_equalIn_agg w 9999 32 _ _ hS hp]
  simp only [Program.fieldsOf, Tryz.underlying32]
  go_simp
  by_cases h1 : s.toList = s'.toList <;> by_cases h2 : k = k' <;> by_cases h3 : m = m' <;> simp [h1, h2, h3]

theorem ev_eq {s s' : ByteArray} {e e' : Evt.Ev} (h : nb s = e.name) (h' : nb s' = e'.name) : (s.toList == s'.toList && (e.kind == e'.kind && e.num == e'.num)) = true ↔ e = e' := by
  rw [Bool.and_eq_true, Bool.and_eq_true, beq_iff_eq, beq_iff_eq, beq_iff_eq, ← nb_inj, h, h']
  obtain ⟨n, k, m⟩ := e
  obtain ⟨n', k', m'⟩ := e'
  simp
theorem drew_drew (w : World) (m q : Nat) : (w.drewN m).drewN q = w.drewN (m + q) := by
  simp [World.drewN, Nat.add_assoc]
theorem list_eq_of {α : Type} {l l' : List α} (hl : l.length = l'.length) (h : ∀ j, j < l.length → l[j]? = l'[j]?) : l = l' := by
  apply List.ext_getElem?
  intro j
  by_cases hj : j < l.length
  · exact h j hj
  · rw [List.getElem?_eq_none (by omega), List.getElem?_eq_none (by omega)]

set_option maxHeartbeats 1000000 in
theorem sameEv_some (b o b' o' n C C' : Nat) (es es' : List Evt.Ev) (w : World) (hn : n ≤ 9223372036854775807) (h : ∀ i e, es[i]? = some e → EvIn w b (o + i * 3) e) (h' : ∀ i e, es'[i]? = some e → EvIn w b' (o' + i * 3) e) (hl : es.length = n) (hl' : es'.length = n) :
    Calls Tryz.prog 14 #[.slice (some ⟨b, o, none⟩) n C, .slice (some ⟨b', o', none⟩) n C'] w fun e w' => Tell e (es = es') ∧ ∃ m, w' = w.drewN m := by
  have HL : Hid (es.length = n ∧ es'.length = n) := ⟨hl, hl'⟩
  have hgd : Tryz.prog.eqGuardType Tryz.prog.depth 32 = false := by kernel_rfl
  go_enter Tryz.func14, Tryz.ntmps14
  go_wp2_with fail
  go_loopw [13] (fun x wr => ∃ k : Nat, k ≤ n ∧ x = .int .i64 k ∧ Hid (∀ j, j < k → es[j]? = es'[j]?) ∧ ∃ m, wr = w.drewN m) (fun x _ => n - (intOf x).toNat)
  case atStart => exact ⟨0, Nat.zero_le _, rfl, fun j hj => absurd hj (Nat.not_lt_zero j), 0, rfl⟩
  case round =>
    obtain ⟨k, hk, rfl, HS, m, rfl⟩ := hrel
    by_cases hlt : k < n
    · have hlt' : (k : Int) < (n : Int) := by omega
      obtain ⟨ev, hev⟩ : ∃ ev, es[k]? = some ev := ⟨es[k], List.getElem?_eq_getElem (by omega)⟩
      obtain ⟨ev', hev'⟩ : ∃ ev, es'[k]? = some ev := ⟨es'[k], List.getElem?_eq_getElem (by omega)⟩
      obtain ⟨s, hs1, hs2, d0, d1, d2⟩ := h k ev hev
      obtain ⟨s', hs1', hs2', d0', d1', d2'⟩ := h' k ev' hev'
      have HE : Hid (es[k]? = some ev ∧ es'[k]? = some ev') := ⟨hev, hev'⟩
      have HQ := ev_eq hs2 hs2'
      have hq := ev_neq s s' ev.kind ev'.kind ev.num ev'.num
      generalize (s.toList == s'.toList && (ev.kind == ev'.kind && ev.num == ev'.num)) = y at HQ hq
      clear h h' hev hev' hs2 hs2' hl hl' hs1 hs1'
      cases y with
      | true =>
        have HR : Hid (ev = ev') := HQ.1 rfl
        clear HQ
        go_wp2_with fail
        go_quiet (fail)
        go_wp2_with fail
        refine ⟨⟨k + 1, by omega, by go_num, fun j hj => ?_, _, rfl⟩, by simp [intOf]; omega⟩
        by_cases e : j = k
        · rw [e, HE.out.1, HE.out.2, HR.out]
        · exact HS.out j (by omega)
      | false =>
        have HN : Hid (¬ es = es') := fun e => by
          have h1 := HE.out.1
          rw [e, HE.out.2, Option.some.injEq] at h1
          exact absurd (HQ.2 h1.symm) (by decide)
        clear HQ
        go_wp2_with fail
        go_quiet (fail)
        go_wp2_with fail
        go_ret
        exact ⟨tell_no HN.out, _, drew_drew w m _⟩
    · obtain rfl : k = n := by omega
      have HY : Hid (es = es') := list_eq_of (by omega) (fun j hj => HS.out j (by omega))
      clear h h' hl hl'
      go_wp2_with fail
      go_ret
      exact ⟨tell_yes HY.out, _, rfl⟩

set_option maxHeartbeats 400000 in
theorem sameEv_any (v v' : Value) (es es' : List Evt.Ev) (w : World) (h : Evs w v es) (h' : Evs w v' es') :
    Calls Tryz.prog 14 #[v, v'] w fun e w' => Tell e (es = es') ∧ ∃ m, w' = w.drewN m := by
  by_cases hl : es.length = es'.length
  · by_cases h0 : 1 ≤ es.length
    · obtain ⟨b, o, C, rfl, q1, q2, q3⟩ := h.some h0
      obtain ⟨b', o', C', rfl, q1', q2', q3'⟩ := h'.some (by omega)
      rw [← hl]
      exact sameEv_some b o b' o' es.length C C' es es' w (by omega) q3 q3' rfl hl.symm
    · obtain ⟨A, C, rfl⟩ := h.shape
      obtain ⟨A', C', rfl⟩ := h'.shape
      obtain rfl : es = [] := List.eq_nil_of_length_eq_zero (by omega)
      obtain rfl : es' = [] := List.eq_nil_of_length_eq_zero (by simpa using hl.symm)
      clear hl h0 h h'
      simp only [List.length_nil]
      go_enter Tryz.func14, Tryz.ntmps14
      go_wp2_with fail
      refine wp_loop_rounds 1 ?_
      rw [rounds_succ]
      go_wp2_with fail
      go_ret
      exact ⟨tell_yes trivial, 0, rfl⟩
  · obtain ⟨A, C, rfl⟩ := h.shape
    obtain ⟨A', C', rfl⟩ := h'.shape
    have hne : ((es.length : Int) != (es'.length : Int)) = true := by rw [bne_iff_ne]; omega
    have H : Hid (¬ es = es') := fun e => hl (by rw [e])
    clear hl h h'
    go_enter Tryz.func14, Tryz.ntmps14
    go_wp2_with fail
    go_ret
    exact ⟨tell_no H.out, 0, rfl⟩

theorem drewN_below (w : World) (m : Nat) : Below w.heap.size w (w.drewN m) := ⟨rfl, rfl, rfl, Nat.le_refl _, fun _ _ => rfl⟩
end Go.Proofs.YtleekmmoanlpfaaGreat

namespace Go.Proofs.YtleekmmoanlpfaaGreat
open Go.RowKit


/-- What is owned, cell by cell. -/
theorem owns_cells {w : World} {N : Nat} {t : TypeId} {size : Nat} {v : Value} {n : Nat} {xs : List Value} (h : w.ownsRow N t size v n xs) (hn : 1 ≤ n) :
    ∃ g cap, v = .slice (some ⟨g, 0, none⟩) n cap ∧ N ≤ g ∧ n ≤ cap ∧ cap ≤ maxLen ∧ g < w.heap.size ∧ ∀ j u, xs[j]? = some u → w.cell? ⟨g, j, none⟩ = some u := by
  have h0 := h
  obtain ⟨hl, h'⟩ := h
  rcases h' with ⟨_, h1⟩ | ⟨g, cap, cur, rfl, hN, hg, hc, hm, hs, ht⟩
  · omega
  · refine ⟨g, cap, rfl, hN, hc, hm, (h0.lt g rfl).2, fun j u hj => ?_⟩
    have := h0.cells (g := g) rfl j u hj
    rw [WideShapes.add_plain, Nat.zero_add] at this
    exact this

theorem Tryz.infoBatch : (Tryz.prog.info? 27).map (fun i => (i.zero, i.size, i.bytes)) = some (some (.agg #[.int .i64 0, .slice none 0 0]), 2, 32) := by kernel_rfl

theorem Tryz.infoEvent : (Tryz.prog.info? 32).map (fun i => (i.zero, i.size, i.bytes)) = some (some (.agg #[.string ByteArray.empty, .int .i64 0, .int .i64 0]), 3, 32) := by kernel_rfl

/-- An event's cells. -/
abbrev EvC := ByteArray × Int × Int
def evCells (e : EvC) : List Value := [.string e.1, .int .i64 e.2.1, .int .i64 e.2.2]
def evOf (e : EvC) : Evt.Ev := ⟨nb e.1, e.2.1, e.2.2⟩
/-- Events that are appended to. -/
def EBuf (w : World) (N : Nat) (v : Value) (es : List EvC) : Prop := w.ownsRow N 32 3 v es.length (es.flatMap evCells) ∧ ∀ e, e ∈ es → e.1.size ≤ 9223372036854775807
theorem EBuf.nil (w : World) (N : Nat) : EBuf w N (.slice none 0 0) [] := ⟨World.ownsRow_nil w N _ 3, fun e he => by cases he⟩
theorem EBuf.below {w w' : World} {N : Nat} {v : Value} {es : List EvC} (h : EBuf w N v es) (hb : Below w.heap.size w w') : EBuf w' N v es := ⟨owns_below h.1 hb, h.2⟩
theorem EBuf.evs {w : World} {N : Nat} {v : Value} {es : List EvC} (h : EBuf w N v es) : Evs w v (es.map evOf) := by
  by_cases hn : 1 ≤ es.length
  · obtain ⟨g, cap, rfl, _, h1, h2, _, hc⟩ := owns_cells h.1 hn
    refine ⟨some ⟨g, 0, none⟩, cap, by rw [List.length_map], by rw [List.length_map]; exact h1, h2, fun i e he => ?_⟩
    rw [List.getElem?_map] at he
    obtain ⟨x, hx, rfl⟩ := Option.map_eq_some_iff.1 he
    have hf := fun t ht => flat_get evCells 3 es (fun _ _ => rfl) i t ht x hx
    exact ⟨g, 0, rfl, x.1, h.2 x (List.mem_of_getElem? hx), rfl, by rw [Nat.zero_add]; exact hc _ _ (hf 0 (by decide)), by rw [Nat.zero_add]; exact hc _ _ (hf 1 (by decide)), by rw [Nat.zero_add]; exact hc _ _ (hf 2 (by decide))⟩
  · obtain rfl : es = [] := List.eq_nil_of_length_eq_zero (by omega)
    rcases h.1.2 with ⟨rfl, _⟩ | ⟨g, cap, cur, rfl, _, _, hc, hm, _⟩
    · exact ⟨none, 0, rfl, Nat.le_refl _, Nat.zero_le _, fun i e he => by cases he⟩
    · exact ⟨_, cap, rfl, hc, hm, fun i e he => by cases he⟩

/-- A batch's cells. -/
def batCells (x : Int × Value) : List Value := [.int .i64 x.1, x.2]
/-- Batches that are appended to. -/
def BBuf (w : World) (N : Nat) (v : Value) (l : List (Int × Value)) : Prop := w.ownsRow N 27 2 v l.length (l.flatMap batCells)
theorem BBuf.nil (w : World) (N : Nat) : BBuf w N (.slice none 0 0) [] := World.ownsRow_nil w N _ 2
theorem BBuf.below {w w' : World} {N : Nat} {v : Value} {l : List (Int × Value)} (h : BBuf w N v l) (hb : Below w.heap.size w w') : BBuf w' N v l := owns_below h hb
theorem BBuf.bats {w : World} {N : Nat} {v : Value} {l : List (Int × Value)} {bs : List Evt.Bat} (h : BBuf w N v l) (hl : bs.length = l.length) (he : ∀ (i : Nat) (x : Int × Value) (b : Evt.Bat), l[i]? = some x → bs[i]? = some b → b.cmd = x.1 ∧ Evs w x.2 b.evs) : Bats w v bs := by
  by_cases hn : 1 ≤ l.length
  · obtain ⟨g, cap, rfl, _, h1, h2, _, hc⟩ := owns_cells h hn
    refine ⟨some ⟨g, 0, none⟩, cap, by rw [hl], by rw [hl]; exact h1, h2, fun i b hb => ?_⟩
    obtain ⟨x, hx⟩ : ∃ x, l[i]? = some x := by
      have : i < l.length := by
        rw [← hl]
        exact (List.getElem?_eq_some_iff.1 hb).1
      exact ⟨l[i], List.getElem?_eq_getElem this⟩
    have hf := fun t ht => flat_get batCells 2 l (fun _ _ => rfl) i t ht x hx
    obtain ⟨e1, e2⟩ := he i x b hx hb
    exact ⟨g, 0, rfl, x.2, by rw [Nat.zero_add, e1]; exact hc _ _ (hf 0 (by decide)), by rw [Nat.zero_add]; exact hc _ _ (hf 1 (by decide)), e2⟩
  · obtain rfl : l = [] := List.eq_nil_of_length_eq_zero (by omega)
    obtain rfl : bs = [] := List.eq_nil_of_length_eq_zero (by simpa using hl)
    rcases h.2 with ⟨rfl, _⟩ | ⟨g, cap, cur, rfl, _, _, hc, hm, _⟩
    · exact ⟨none, 0, rfl, Nat.le_refl _, Nat.zero_le _, fun i e he => by cases he⟩
    · exact ⟨_, cap, rfl, hc, hm, fun i e he => by cases he⟩

end Go.Proofs.YtleekmmoanlpfaaGreat

namespace Go.Proofs.YtleekmmoanlpfaaGreat
open Go.RowKit

/-- Where Parse stands: at place A of the N bytes, all well so far or not. W0: the world in which it was called. -/
structure PS (W0 w : World) (v : Value) (N A : Nat) (ok : Bool) : Prop where
  at_ : w.cell? ⟨W0.heap.size + 1, 0, none⟩ = some (.int .i64 (A : Nat))
  b_ : w.cell? ⟨W0.heap.size, 0, none⟩ = some v
  ok_ : w.cell? ⟨W0.heap.size + 1 + 1, 0, none⟩ = some (.bool ok)
  fa : w.frozen? ⟨W0.heap.size + 1, 0, none⟩ = false
  fo : w.frozen? ⟨W0.heap.size + 1 + 1, 0, none⟩ = false
  bel : Below W0.heap.size W0 w
  le : A ≤ N
theorem PS.keep {W0 w w' : World} {v : Value} {N A : Nat} {ok : Bool} (h : PS W0 w v N A ok) (hb : Below (W0.heap.size + 3) w w') : PS W0 w' v N A ok :=
  ⟨(hb.cell (p := ⟨W0.heap.size + 1, 0, none⟩) (by show W0.heap.size + 1 < _; omega)).trans h.at_, (hb.cell (p := ⟨W0.heap.size, 0, none⟩) (by show W0.heap.size < _; omega)).trans h.b_, (hb.cell (p := ⟨W0.heap.size + 1 + 1, 0, none⟩) (by show W0.heap.size + 1 + 1 < _; omega)).trans h.ok_,
    (hb.frozen (p := ⟨W0.heap.size + 1, 0, none⟩) (by show W0.heap.size + 1 < _; omega)).trans h.fa, (hb.frozen (p := ⟨W0.heap.size + 1 + 1, 0, none⟩) (by show W0.heap.size + 1 + 1 < _; omega)).trans h.fo, h.bel.trans (hb.mono (by omega)), h.le⟩

theorem PS.room {W0 w : World} {v : Value} {N A : Nat} {ok : Bool} (h : PS W0 w v N A ok) : W0.heap.size + 3 ≤ w.heap.size := by
  have : W0.heap.size + 1 + 1 < w.heap.size := World.block_lt_of_cell? _ _ h.ok_
  omega

end Go.Proofs.YtleekmmoanlpfaaGreat

namespace Go.Proofs.YtleekmmoanlpfaaGreat
open Go.RowKit

/-- The first N of g. -/
def bl (g : Nat → Nat) (N : Nat) : List Nat := (List.range N).map g
theorem bl_len (g : Nat → Nat) (N : Nat) : (bl g N).length = N := by simp [bl]
theorem bl_get (g : Nat → Nat) {N i : Nat} (h : i < N) : (bl g N)[i]? = some (g i) := by simp [bl, h]
theorem bl_bytes {g : Nat → Nat} (hg : Bd g) (N : Nat) : Evt.Bytes (bl g N) := fun x hx => by
  obtain ⟨k, _, rfl⟩ := List.mem_map.1 hx
  exact hg k
theorem nb_strB {f : Nat → Nat} (hf : Bd f) (n : Nat) : nb (strB f n) = bl f n := by
  unfold nb bl
  rw [← ByteArray.toList_eq]
  unfold strB
  rw [str_list, List.map_map]
  apply List.map_congr_left
  intro k _
  have := hf k
  show (UInt8.ofNat (f k)).toNat = f k
  rw [UInt8.toNat_ofNat']
  omega

end Go.Proofs.YtleekmmoanlpfaaGreat

namespace Go.Proofs.YtleekmmoanlpfaaGreat.Gf

/-- A matrix can be undone, or is not whole. -/
theorem und_or_sing {n : Nat} {m : Nat → Nat → Nat} (hm : Bd2 m) : (∃ r, Bd2 r ∧ Und n m r) ∨ Sing n m := by
  have key : ∀ k, k ≤ n → (∃ W, Elim n m (fun j => j < k) W) ∨ Sing n m := by
    intro k
    induction k with
    | zero => exact fun _ => Or.inl ⟨_, Elim.start hm fun j => Nat.not_lt_zero j⟩
    | succ k ih =>
      intro hk
      rcases ih (by omega) with ⟨W, hW⟩ | hs
      · by_cases q : ∃ p, p < n ∧ ¬ p < k ∧ W p k ≠ 0
        · obtain ⟨p, p1, p2, p3⟩ := q
          exact Or.inl ⟨_, hW.step (D' := fun j => j < k + 1) (show k < n by omega) p1 (Nat.lt_irrefl k) p2 p3 fun j hj => by omega⟩
        · exact Or.inr (hW.fails (show k < n by omega) (Nat.lt_irrefl k) fun i hi hn => Classical.byContradiction fun z => q ⟨i, hi, hn, z⟩)
      · exact Or.inr hs
  rcases key n (Nat.le_refl n) with ⟨W, hW⟩ | hs
  · exact Or.inl ⟨_, fun i j => hW.bd i (n + j), hW.done hm fun j hj => hj⟩
  · exact Or.inr hs

end Go.Proofs.YtleekmmoanlpfaaGreat.Gf
namespace Go.Proofs.YtleekmmoanlpfaaGreat.Sto
open Evt (Ev Bat)

/-- How long each list is, and its bytes. -/
def lenF (bs : List (List Nat)) (i : Nat) : Nat := (bs.getD i []).length
def valF (bs : List (List Nat)) (i k : Nat) : Nat := (bs.getD i []).getD k 0
/-- What Lay tells. -/
def layX (r : List Nat) (k : Nat) (c : Cfg) : Nat × List (List Nat) :=
  if Seg.layE r.length k c.d c.s = 0 then (0, (List.range (c.d + c.s)).map fun i => bl (Seg.blk (fun j => r.getD j 0) r.length k c.d i) (Seg.layN r.length c.d + 11)) else (Seg.layE r.length k c.d c.s, [])
/-- Chapter 6. -/
structure SixOk (X : Six) : Prop where
  lay : ∀ r k c, X.lay r k c = layX r k c
  bad : ∀ bs k, X.bad bs k = Seg.badL k (lenF bs) (valF bs) bs.length
  err : ∀ bs k c, (X.read bs k c).1 = readE k c.d bs.length (lenF bs) (valF bs)
  told : ∀ bs k c, (X.read bs k c).1 = 0 → ∀ r, Gf.Bd2 r → Gf.Und c.d (fun p => Gf.rowF c.d (thr (Seg.rl k (lenF bs) (valF bs)) bs.length p)) r →
    (X.read bs k c).2 = bl (readF c.d bs.length (Seg.rl k (lenF bs) (valF bs)) (Seg.rf (valF bs)) r) (Seg.rz (valF bs) (thr (Seg.rl k (lenF bs) (valF bs)) bs.length 0))
  none : ∀ bs k c, (X.read bs k c).1 ≠ 0 → (X.read bs k c).2 = []
  mend : ∀ bs k c, X.mend bs k c = if (X.read bs k c).1 ≠ 0 then ((X.read bs k c).1, []) else layX (X.read bs k c).2 k c

theorem readF_uniq {n N : Nat} {L : Nat → Nat} {f r r' : Nat → Nat → Nat} (hr : Gf.Bd2 r) (hr' : Gf.Bd2 r') (h : Gf.Und n (fun p => Gf.rowF n (thr L N p)) r) (h' : Gf.Und n (fun p => Gf.rowF n (thr L N p)) r') (k : Nat) : readF n N L f r k = readF n N L f r' k := by
  unfold readF
  refine Gf.mm_congr (fun _ _ => rfl) (fun p hp => Gf.mm_congr (fun q hq => ?_) (fun _ _ => rfl))
  exact h.uniq (fun p => Gf.rowF_bd n _) hr hr' h' p q hp hq
/-- There is such a chapter 6. -/
theorem six : ∃ X : Six, SixOk X := by
  have h : ∀ x : List (List Nat) × Nat × Cfg, ∃ y : Nat × List Nat, y.1 = readE x.2.1 x.2.2.d x.1.length (lenF x.1) (valF x.1) ∧
      (y.1 = 0 → ∀ r, Gf.Bd2 r → Gf.Und x.2.2.d (fun p => Gf.rowF x.2.2.d (thr (Seg.rl x.2.1 (lenF x.1) (valF x.1)) x.1.length p)) r → y.2 = bl (readF x.2.2.d x.1.length (Seg.rl x.2.1 (lenF x.1) (valF x.1)) (Seg.rf (valF x.1)) r) (Seg.rz (valF x.1) (thr (Seg.rl x.2.1 (lenF x.1) (valF x.1)) x.1.length 0))) ∧ (y.1 ≠ 0 → y.2 = []) := fun x => by
    by_cases q : readE x.2.1 x.2.2.d x.1.length (lenF x.1) (valF x.1) = 0 ∧ ∃ r, Gf.Bd2 r ∧ Gf.Und x.2.2.d (fun p => Gf.rowF x.2.2.d (thr (Seg.rl x.2.1 (lenF x.1) (valF x.1)) x.1.length p)) r
    · obtain ⟨q0, r, r1, r2⟩ := q
      refine ⟨(0, bl (readF x.2.2.d x.1.length (Seg.rl x.2.1 (lenF x.1) (valF x.1)) (Seg.rf (valF x.1)) r) (Seg.rz (valF x.1) (thr (Seg.rl x.2.1 (lenF x.1) (valF x.1)) x.1.length 0))), q0.symm, fun _ r' h1 h2 => ?_, fun z => absurd rfl z⟩
      exact congrArg (fun f => bl f _) (funext fun k => readF_uniq (f := Seg.rf (valF x.1)) r1 h1 r2 h2 k)
    · exact ⟨(readE x.2.1 x.2.2.d x.1.length (lenF x.1) (valF x.1), []), rfl, fun z r h1 h2 => absurd ⟨z, r, h1, h2⟩ q, fun _ => rfl⟩
  obtain ⟨f, hf⟩ := Classical.skolem.1 h
  exact ⟨⟨layX, fun bs k c => f (bs, k, c), fun bs k => Seg.badL k (lenF bs) (valF bs) bs.length, fun bs k c => if (f (bs, k, c)).1 ≠ 0 then ((f (bs, k, c)).1, []) else layX (f (bs, k, c)).2 k c⟩,
    fun _ _ _ => rfl, fun _ _ => rfl, fun bs k c => (hf (bs, k, c)).1, fun bs k c => (hf (bs, k, c)).2.1, fun bs k c => (hf (bs, k, c)).2.2, fun _ _ _ => rfl⟩

/-! ### Lists and functions -/
theorem bl_length (g : Nat → Nat) (n : Nat) : (bl g n).length = n := by
  unfold bl
  rw [List.length_map, List.length_range]
theorem bl_get (g : Nat → Nat) {n k : Nat} (h : k < n) : (bl g n)[k]? = some (g k) := by
  unfold bl
  rw [List.getElem?_map, List.getElem?_range h]
  rfl
theorem bl_at (g : Nat → Nat) {n k : Nat} (h : k < n) : (bl g n).getD k 0 = g k := by
  rw [List.getD_eq_getElem?_getD, bl_get g h]
  rfl
theorem bl_self (r : List Nat) : bl (fun j => r.getD j 0) r.length = r := by
  apply List.ext_getElem?
  intro i
  by_cases hi : i < r.length
  · rw [bl_get _ hi, List.getD_eq_getElem?_getD, List.getElem?_eq_getElem hi]
    rfl
  · rw [List.getElem?_eq_none (by rw [bl_length]; omega), List.getElem?_eq_none (by omega)]
theorem bl_congr {f g : Nat → Nat} {n : Nat} (h : ∀ k, k < n → f k = g k) : bl f n = bl g n := List.map_congr_left fun k hk => h k (List.mem_range.1 hk)
theorem low_zero {x k : Nat} (hx : x < 2 ^ 32) (hk : 4 ≤ k) : Crc.low x k = 0 := by
  unfold Crc.low
  have h : 256 ^ 4 ≤ 256 ^ k := Nat.pow_le_pow_right (by decide) hk
  rw [Nat.div_eq_of_lt (Nat.lt_of_lt_of_le hx h)]
/-- A block has no bytes behind its sum. -/
theorem enc_past {s h z n k : Nat} {f : Nat → Nat} (h1 : s < 256) (h2 : h < 256) (h3 : z < 65536) (h4 : n < 65536) (hf : ∀ k, f k < 256) (hk : n + 11 ≤ k) : Crc.enc s h z n f k = 0 := by
  unfold Crc.enc
  rw [if_neg (by omega)]
  exact low_zero (Crc.sum_lt (Crc.hd_bd h1 h2 h3 h4 hf) _) (by omega)
theorem blk_past {r : Nat → Nat} {L seg d i k : Nat} (hd : 1 ≤ d) (hL : L ≤ 400 * d) (hs : seg ≤ 39) (hd8 : d ≤ 8) (hk : Seg.layN L d + 11 ≤ k) : Seg.blk r L seg d i k = 0 := by
  have h2 := Seg.layN_le hd hL
  unfold Seg.blk
  by_cases h : i < 12
  · rw [if_pos h]
    exact enc_past (by omega) (by omega) (by omega) (by omega) (fun k => Gf.mm_lt (fun p => Gf.rowF_bd d p) _ _ _ _) hk
  · rw [if_neg h]
theorem layE_inv {L seg d s : Nat} (h : Seg.layE L seg d s = 0) : 1 ≤ d ∧ d ≤ 8 ∧ s ≤ 4 ∧ seg ≤ 39 ∧ L ≤ 400 * d := by
  unfold Seg.layE at h
  by_cases q1 : (d : Int) < 1 ∨ 8 < (d : Int) ∨ (s : Int) < 0 ∨ 4 < (s : Int)
  · rw [if_pos q1] at h
    cases h
  rw [if_neg q1] at h
  by_cases q2 : (seg : Int) < 0 ∨ 39 < (seg : Int)
  · rw [if_pos q2] at h
    cases h
  rw [if_neg q2] at h
  by_cases q3 : 400 * (d : Int) < (L : Int)
  · rw [if_pos q3] at h
    cases h
  omega
/-- What was laid, block by block. -/
theorem layX_inv {r : List Nat} {k : Nat} {c : Cfg} {L : List (List Nat)} (h : layX r k c = (0, L)) : (1 ≤ c.d ∧ c.d ≤ 8 ∧ c.s ≤ 4 ∧ k ≤ 39 ∧ r.length ≤ 400 * c.d) ∧ L.length = c.d + c.s ∧ ∀ i, i < c.d + c.s → L.getD i [] = bl (Seg.blk (fun j => r.getD j 0) r.length k c.d i) (Seg.layN r.length c.d + 11) := by
  unfold layX at h
  by_cases q : Seg.layE r.length k c.d c.s = 0
  · rw [if_pos q] at h
    have h := (Prod.mk.inj h).2
    subst h
    refine ⟨layE_inv q, by rw [List.length_map, List.length_range], fun i hi => ?_⟩
    rw [List.getD_eq_getElem?_getD, List.getElem?_map, List.getElem?_range hi]
    rfl
  · rw [if_neg q] at h
    exact absurd (Prod.mk.inj h).1 q
theorem cnt_range (M : Nat → Bool) : ∀ n, ((List.range n).filter M).length = cnt M n
  | 0 => rfl
  | n + 1 => by
    rw [List.range_succ, List.filter_append, List.length_append, cnt_range M n]
    show _ = cnt M n + if M n then 1 else 0
    cases h : M n
    · rw [List.filter_cons_of_neg (by rw [h]; decide)]
      rfl
    · rw [List.filter_cons_of_pos h]
      rfl
theorem getD_bytes {r : List Nat} (h : Evt.Bytes r) (k : Nat) : r.getD k 0 < 256 := by
  by_cases hk : k < r.length
  · rw [List.getD_eq_getElem?_getD, List.getElem?_eq_getElem hk]
    exact h _ (List.getElem_mem hk)
  · rw [List.getD_eq_getElem?_getD, List.getElem?_eq_none (by omega)]
    decide

/-! ### Blocks that were hurt -/
section
variable {X : Six} {c : Cfg} {bs : List (List Nat)} {r : List Nat} {k : Nat} {L : List (List Nat)}
theorem hurts_hurt (hX : SixOk X) (h : Hurts X c bs r k L) : Go.Proofs.YtleekmmoanlpfaaGreat.Hurt (fun j => r.getD j 0) r.length k c.d c.s (fun i => decide (bs.getD i [] ≠ L.getD i [])) (lenF bs) (valF bs) := by
  have hl := h.lay
  rw [hX.lay] at hl
  obtain ⟨⟨h1, h2, h3, h4, h5⟩, _, hL⟩ := layX_inv hl
  have n1 := Seg.layN_pos r.length c.d h1
  have n2 := Seg.layN_le h1 h5
  have hbb : Gf.Bd2 (Seg.blk (fun j => r.getD j 0) r.length k c.d) := Seg.blk_bd h1 h5 h4 h2
  refine ⟨fun i hi hM => ?_, fun i hi hM => ?_⟩
  · have e : bs.getD i [] = L.getD i [] := Decidable.not_not.1 (of_decide_eq_false hM)
    rw [hL i hi] at e
    refine ⟨by unfold lenF; rw [e, bl_length], funext fun j => ?_⟩
    unfold valF
    rw [e]
    by_cases hj : j < Seg.layN r.length c.d + 11
    · exact bl_at _ hj
    · rw [List.getD_eq_getElem?_getD, List.getElem?_eq_none (by rw [bl_length]; omega), blk_past h1 h5 h4 h2 (by omega)]
      rfl
  · have hne : bs.getD i [] ≠ L.getD i [] := of_decide_eq_true hM
    intro q
    rcases h.hurt i hi with z | z | ⟨p, y, hp, y1, y2, e⟩
    · have q1 := q.1
      unfold lenF at q1
      rw [z, Crc.parse_form (Or.inl (by decide))] at q1
      cases q1
    · exact hne z
    · rw [hL i hi] at hp e
      rw [bl_length] at hp
      have hlen : lenF bs i = Seg.layN r.length c.d + 11 := by
        unfold lenF
        rw [e, List.length_set, bl_length]
      have hv : ∀ j, valF bs i j = if j = p then Seg.blk (fun j => r.getD j 0) r.length k c.d i p ^^^ y else Seg.blk (fun j => r.getD j 0) r.length k c.d i j := fun j => by
        unfold valF
        rw [e, List.getD_eq_getElem?_getD]
        by_cases hj : j = p
        · subst hj
          rw [if_pos rfl, List.getElem?_set_self (by rw [bl_length]; exact hp), bl_at _ hp]
          rfl
        · rw [if_neg hj, List.getElem?_set_ne (fun z => hj z.symm)]
          by_cases hj2 : j < Seg.layN r.length c.d + 11
          · rw [bl_get _ hj2]
            rfl
          · rw [List.getElem?_eq_none (by rw [bl_length]; omega), blk_past h1 h5 h4 h2 (by omega)]
            rfl
      have hb2 : ∀ j, valF bs i j < 256 := fun j => by
        rw [hv j]
        split
        · exact Nat.xor_lt_two_pow (n := 8) (hbb i p) y2
        · exact hbb i j
      have hne2 : valF bs i p ≠ Crc.enc k i r.length (Seg.layN r.length c.d) (Seg.shard (fun j => r.getD j 0) r.length c.d i) p := fun z => by
        rw [hv p, if_pos rfl, Seg.blk_in (by omega)] at z
        have e2 : Crc.enc k i r.length (Seg.layN r.length c.d) (Seg.shard (fun j => r.getD j 0) r.length c.d i) p ^^^ (Crc.enc k i r.length (Seg.layN r.length c.d) (Seg.shard (fun j => r.getD j 0) r.length c.d i) p ^^^ y) = Crc.enc k i r.length (Seg.layN r.length c.d) (Seg.shard (fun j => r.getD j 0) r.length c.d i) p ^^^ Crc.enc k i r.length (Seg.layN r.length c.d) (Seg.shard (fun j => r.getD j 0) r.length c.d i) p := by rw [z]
        rw [← Nat.xor_assoc, Nat.xor_self, Nat.zero_xor] at e2
        omega
      have hs := Crc.parse_turned (s := k) (h := i) (z := r.length) (n := Seg.layN r.length c.d) (f := Seg.shard (fun j => r.getD j 0) r.length c.d i) (g := valF bs i) (p := p) (fun k => Gf.mm_lt (fun p => Gf.rowF_bd c.d p) _ _ _ _) hb2 (Crc.wrongB_ok (by omega) (by omega)) hp hne2 (fun j hj => by
        rw [hv j, if_neg hj, Seg.blk_in (by omega)])
      have q1 := q.1
      rw [hlen] at q1
      omega
theorem six_good (hX : SixOk X) : Good X c := by
  have hbad : ∀ {bs r k L}, Hurts X c bs r k L → X.bad bs k = (List.range (c.d + c.s)).filter fun i => decide (bs.getD i [] ≠ L.getD i []) := fun {bs r k L} h => by
    have hh := hurts_hurt hX h
    have hl := h.lay
    rw [hX.lay] at hl
    obtain ⟨⟨h1, h2, h3, h4, h5⟩, _, _⟩ := layX_inv hl
    rw [hX.bad, h.len]
    refine List.filter_congr fun i hi => ?_
    have := hh.right h1 h2 h3 h4 h5 (List.mem_range.1 hi)
    by_cases q : Seg.right k (lenF bs) (valF bs) i
    · rw [decide_eq_false (fun z => z q)]
      exact (this.1 q).symm
    · rw [decide_eq_true q]
      have : ¬ decide (bs.getD i [] ≠ L.getD i []) = false := fun z => q (this.2 z)
      exact (by simpa using this : decide (bs.getD i [] ≠ L.getD i []) = true).symm
  refine ⟨hbad, fun {bs r k L} h hc => ?_, fun {bs r k L} h hc => ?_, fun {r k L} h i hi => ?_⟩
  · have hh := hurts_hurt hX h
    have hl := h.lay
    rw [hX.lay] at hl
    obtain ⟨⟨h1, h2, h3, h4, h5⟩, _, _⟩ := layX_inv hl
    rw [hbad h, cnt_range] at hc
    obtain ⟨q1, q2, q3⟩ := read_kept hh h1 h2 h3 h4 h5 hc (getD_bytes h.byt)
    have he := hX.err bs k c
    rw [h.len, q1] at he
    have ht := hh.there h1 h2 h3 h4 h5
    have hu : ∃ r', Gf.Bd2 r' ∧ Gf.Und c.d (fun p => Gf.rowF c.d (thr (Seg.rl k (lenF bs) (valF bs)) (c.d + c.s) p)) r' := by
      rcases Gf.und_or_sing (n := c.d) (m := fun p => Gf.rowF c.d (thr (Seg.rl k (lenF bs) (valF bs)) (c.d + c.s) p)) (fun p => Gf.rowF_bd c.d _) with q | q
      · exact q
      · exact (Gf.rows_not_sing (by omega) (fun p hp => by have := (thr_mem (show p < (Go.Proofs.YtleekmmoanlpfaaGreat.there (Seg.rl k (lenF bs) (valF bs)) (c.d + c.s)).length by omega)).1; omega) (fun p q hp hq hne => thr_inj (by omega) (by omega) hne) q).elim
    obtain ⟨r', r1, r2⟩ := hu
    have hr := hX.told bs k c he r' r1 (by rw [h.len]; exact r2)
    rw [h.len, q2] at hr
    rw [bl_congr (q3 r' r1 r2), bl_self] at hr
    have hrd : X.read bs k c = (0, r) := Prod.ext he hr
    refine ⟨hrd, ?_⟩
    rw [hX.mend, hrd, if_neg (fun z => z rfl)]
    exact hl
  · have hh := hurts_hurt hX h
    have hl := h.lay
    rw [hX.lay] at hl
    obtain ⟨⟨h1, h2, h3, h4, h5⟩, _, _⟩ := layX_inv hl
    rw [hbad h, cnt_range] at hc
    have he := hX.err bs k c
    rw [h.len, read_lost hh h1 h2 h3 h4 h5 hc] at he
    refine ⟨he, ?_⟩
    rw [hX.mend, if_pos (by rw [he]; decide)]
    exact he
  · rw [hX.lay] at h
    obtain ⟨_, _, hL⟩ := layX_inv h
    rw [hL i hi]
    intro z
    have := congrArg List.length z
    rw [bl_length] at this
    simp at this
end

end Go.Proofs.YtleekmmoanlpfaaGreat.Sto
