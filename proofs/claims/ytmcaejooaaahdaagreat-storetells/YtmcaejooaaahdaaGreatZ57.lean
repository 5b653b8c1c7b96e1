/-
  Texts of the proof, joined: JMem, JBlk.
-/
import Derived.Test.YtmcaejooaaahdaaGreatZ56
namespace Go.Proofs.YtmcaejooaaahdaaGreat
open Go.RowKit

/-! ### What is told by fewer cells is told by more -/
def CSub (w w' : World) : Prop := ∀ p u, w.cell? p = some u → w'.cell? p = some u
theorem CSub.of_below {w w' : World} (hb : Below w.heap.size w w') : CSub w w' := fun p _ h => (hb.cell (p := p) (World.block_lt_of_cell? _ _ h)).trans h
theorem BytL.sub {w w' : World} {v : Value} {r : List Nat} (h : BytL w v r) (hs : CSub w w') : BytL w' v r := by
  obtain ⟨h0, A, cap, hv, h1, h2, h3⟩ := h
  refine ⟨h0, A, cap, hv, h1, h2, fun i x hx => ?_⟩
  obtain ⟨b, o, e1, e2⟩ := h3 i x hx
  exact ⟨b, o, e1, hs _ _ e2⟩
theorem Hes.sub {w w' : World} {v : Value} {l : List (Int × List Nat)} (h : Hes w v l) (hs : CSub w w') : Hes w' v l := by
  obtain ⟨A, cap, hv, h1, h2, h3⟩ := h
  refine ⟨A, cap, hv, h1, h2, fun i x hx => ?_⟩
  obtain ⟨b, o, e1, u, e2, e3, e4⟩ := h3 i x hx
  exact ⟨b, o, e1, u, hs _ _ e2, hs _ _ e3, e4.sub hs⟩
theorem BlL.sub {w w' : World} {v : Value} {L : List (List Nat)} (h : BlL w v L) (hs : CSub w w') : BlL w' v L := by
  obtain ⟨A, cap, hv, h1, h2, h3⟩ := h
  refine ⟨A, cap, hv, h1, h2, fun i x hx => ?_⟩
  obtain ⟨b, o, u, e1, e2, e3⟩ := h3 i x hx
  exact ⟨b, o, u, e1, hs _ _ e2, e3.sub hs⟩
theorem Evs.sub {w w' : World} {v : Value} {l : List Evt.Ev} (h : Evs w v l) (hs : CSub w w') : Evs w' v l := by
  obtain ⟨A, cap, hv, h1, h2, h3⟩ := h
  refine ⟨A, cap, hv, h1, h2, fun i x hx => ?_⟩
  obtain ⟨b, o, e1, u, q1, q2, e2, e3, e4⟩ := h3 i x hx
  exact ⟨b, o, e1, u, q1, q2, hs _ _ e2, hs _ _ e3, hs _ _ e4⟩
theorem Accs.sub {w w' : World} {v : Value} {l : List Vw.Acc} (h : Accs w v l) (hs : CSub w w') : Accs w' v l := by
  obtain ⟨A, cap, hv, h1, h2, h3⟩ := h
  refine ⟨A, cap, hv, h1, h2, fun i x hx => ?_⟩
  obtain ⟨b, o, e1, u, q1, q2, e2, e3, e4, e5⟩ := h3 i x hx
  exact ⟨b, o, e1, u, q1, q2, hs _ _ e2, hs _ _ e3, hs _ _ e4, hs _ _ e5⟩
theorem Bats.sub {w w' : World} {v : Value} {l : List Evt.Bat} (h : Bats w v l) (hs : CSub w w') : Bats w' v l := by
  obtain ⟨A, cap, hv, h1, h2, h3⟩ := h
  refine ⟨A, cap, hv, h1, h2, fun i x hx => ?_⟩
  obtain ⟨b, o, e1, u, e2, e3, e4⟩ := h3 i x hx
  exact ⟨b, o, e1, u, hs _ _ e2, hs _ _ e3, e4.sub hs⟩
theorem Nms.sub {w w' : World} {v : Value} {l : List Int} (h : Nms w v l) (hs : CSub w w') : Nms w' v l := by
  obtain ⟨A, cap, hv, h1, h2, h3⟩ := h
  refine ⟨A, cap, hv, h1, h2, fun i x hx => ?_⟩
  obtain ⟨b, o, e1, e2⟩ := h3 i x hx
  exact ⟨b, o, e1, hs _ _ e2⟩
theorem Dks.sub {w w' : World} {v : Value} {l : List Sto.Disk} (h : Dks w v l) (hs : CSub w w') : Dks w' v l := by
  obtain ⟨A, cap, hv, h1, h2, h3⟩ := h
  refine ⟨A, cap, hv, h1, h2, fun i x hx => ?_⟩
  obtain ⟨b, o, e1, u, e2, e3, e4⟩ := h3 i x hx
  exact ⟨b, o, e1, u, hs _ _ e2, hs _ _ e3, e4.sub hs⟩
theorem StIn.sub {w w' : World} {vd vt vs va : Value} {s : Sto.St} (h : StIn w vd vt vs va s) (hs : CSub w w') : StIn w' vd vt vs va s := ⟨h.dk.sub hs, h.tl.sub hs, h.sn.sub hs, h.ac.sub hs⟩
theorem DoIn.sub {w w' : World} {d : Sto.Do} {ve : Value} {t : ByteArray} (h : DoIn w d ve t) (hs : CSub w w') : DoIn w' d ve t := ⟨h.evs.sub hs, h.name, h.sz, h.byte⟩
/-- A world in which the blocks of S are empty. -/
def blank (S : Nat → Bool) (w : World) : World := { w with heap := w.heap.mapIdx fun i o => if S i then .cells #[] 0 else o }
theorem blank_block {S : Nat → Bool} {k : Nat} {w : World} (h : S k = false) : (blank S w).heap[k]? = w.heap[k]? := by
  unfold blank
  simp only [Array.getElem?_mapIdx, h]
  cases w.heap[k]? <;> rfl
theorem blank_cell {S : Nat → Bool} {w : World} {p : Addr} (h : S p.block = false) : (blank S w).cell? p = w.cell? p := World.cell?_of_block (blank_block h)
theorem blank_at {S : Nat → Bool} {w : World} {p : Addr} {u : Value} (h : (blank S w).cell? p = some u) : S p.block = false ∧ w.cell? p = some u := by
  have hn : S p.block = false := by
    cases e : S p.block with
    | false => rfl
    | true =>
      exfalso
      unfold World.cell? blank at h
      simp only [Array.getElem?_mapIdx, e] at h
      cases hw : w.heap[p.block]? <;> rw [hw] at h <;> simp at h
  exact ⟨hn, (blank_cell hn).symm.trans h⟩
theorem blank_sub (S : Nat → Bool) (w : World) : CSub (blank S w) w := fun _ _ h => (blank_at h).2
/-- Nothing but S has turned. -/
theorem blank_off {S : Nat → Bool} {w w' : World} (ho : Off (fun k => S k = true) w w') : CSub (blank S w) (blank S w') := fun p u h => by
  obtain ⟨h1, h2⟩ := blank_at h
  rw [blank_cell h1]
  exact (World.cell?_of_block (w := w) (a := p) (ho.block p.block (World.block_lt_of_cell? _ _ h2) (by rw [h1]; decide))).trans h2
theorem blank_one {S : Nat → Bool} {D : Nat} {w w' : World} (hD : S D = true) (ho : Off (fun k => k = D) w w') : CSub (blank S w) (blank S w') := blank_off (ho.wider fun k hk => by rw [hk]; exact hD)
theorem blank_below {S : Nat → Bool} {w w' : World} (hb : Below w.heap.size w w') : CSub (blank S w) (blank S w') := blank_off (Off.of_below hb)

theorem off_blank (S : Nat → Bool) (w : World) : Off (fun k => S k = true) w (blank S w) :=
  ⟨rfl, rfl, rfl, by unfold blank; simp, fun k _ h => blank_block (by cases e : S k with | false => rfl | true => exact absurd e h)⟩
theorem sub_off {S : Nat → Bool} {w w' : World} (ho : Off (fun k => S k = true) w w') : CSub (blank S w) w' := fun p u h => by
  obtain ⟨h1, h2⟩ := blank_at h
  exact (World.cell?_of_block (w := w) (a := p) (ho.block p.block (World.block_lt_of_cell? _ _ h2) (by rw [h1]; decide))).trans h2

/-! ### Disks that may be written -/
structure DkJ (w : World) (S : Nat → Bool) (D : Nat) (V : Nat → Value) (ds : List Sto.Disk) : Prop where
  sD : S D = true
  row : RowC w D 58 (ds.length * 2) (dkF V ds)
  hes : ∀ i d, ds[i]? = some d → Hes (blank S w) (V i) d.bl
theorem DkJ.off {w w' : World} {S : Nat → Bool} {D : Nat} {V : Nat → Value} {ds : List Sto.Disk} (h : DkJ w S D V ds) (hb : Below w.heap.size w w') : DkJ w' S D V ds :=
  ⟨h.sD, h.row.below hb, fun i d hd => (h.hes i d hd).sub (blank_below hb)⟩
theorem DkJ.gone {w : World} {S : Nat → Bool} {D : Nat} {V : Nat → Value} {ds : List Sto.Disk} (h : DkJ w S D V ds) {i : Nat} {d : Sto.Disk} (hi : ds[i]? = some d) : w.cell? ⟨D, i * 2, none⟩ = some (.bool d.gone) := by
  have hl : i < ds.length := (List.getElem?_eq_some_iff.1 hi).1
  rw [h.row.cell (show i * 2 < ds.length * 2 by omega)]
  unfold dkF
  rw [if_pos (by omega), show i * 2 / 2 = i by omega, List.getD_eq_getElem?_getD, hi]
  rfl
theorem DkJ.held {w : World} {S : Nat → Bool} {D : Nat} {V : Nat → Value} {ds : List Sto.Disk} (h : DkJ w S D V ds) {i : Nat} (hi : i < ds.length) : w.cell? ⟨D, i * 2 + 1, none⟩ = some (V i) := by
  rw [h.row.cell (show i * 2 + 1 < ds.length * 2 by omega)]
  unfold dkF
  rw [if_neg (by omega), show (i * 2 + 1) / 2 = i by omega]
/-- Disk i holds other blocks. -/
theorem DkJ.set {w : World} {S : Nat → Bool} {D : Nat} {V : Nat → Value} {ds : List Sto.Disk} (h : DkJ w S D V ds) {i : Nat} {d : Sto.Disk} (hi : ds[i]? = some d) (v : Value) (l : List (Int × List Nat)) (hl : Hes (blank S w) v l) : DkJ (w.setCell ⟨D, i * 2 + 1, none⟩ v) S D (upd V i v) (ds.set i ⟨d.gone, l⟩) := by
  have hil : i < ds.length := (List.getElem?_eq_some_iff.1 hi).1
  have hof : Off (fun k => k = D) w (w.setCell ⟨D, i * 2 + 1, none⟩ v) := off_set w ⟨D, i * 2 + 1, none⟩ v
  refine ⟨h.sD, ?_, fun j x hx => ?_⟩
  · rw [List.length_set]
    refine (h.row.set (i * 2 + 1) v).congr fun j hj => ?_
    unfold dkF
    by_cases e : j = i * 2 + 1
    · rw [if_pos e, if_neg (by omega), show j / 2 = i by omega, upd_at]
    · rw [if_neg e]
      by_cases q : j % 2 = 0
      · rw [if_pos q, if_pos q, List.getD_eq_getElem?_getD, List.getD_eq_getElem?_getD]
        by_cases z : j / 2 = i
        · rw [z, List.getElem?_set_self hil, hi]
          rfl
        · rw [List.getElem?_set_ne (fun y => z y.symm)]
      · rw [if_neg q, if_neg q, upd_ne _ _ (by omega)]
  · by_cases e : j = i
    · subst e
      rw [List.getElem?_set_self hil] at hx
      cases hx
      rw [upd_at]
      exact hl.sub (blank_one h.sD hof)
    · rw [List.getElem?_set_ne (fun z => e z.symm)] at hx
      rw [upd_ne _ _ e]
      exact (h.hes j x hx).sub (blank_one h.sD hof)
theorem DkJ.dks {w : World} {S : Nat → Bool} {D : Nat} {V : Nat → Value} {ds : List Sto.Disk} (h : DkJ w S D V ds) {C : Nat} (h1 : ds.length ≤ C) (h2 : C ≤ maxLen) : Dks w (.slice (some ⟨D, 0, none⟩) ds.length C) ds := by
  refine ⟨_, C, rfl, h1, h2, fun i x hx => ⟨D, 0, rfl, V i, ?_, ?_, (h.hes i x hx).sub (blank_sub S w)⟩⟩
  · rw [Nat.zero_add]
    exact h.gone hx
  · rw [Nat.zero_add]
    exact h.held (List.getElem?_eq_some_iff.1 hx).1
/-- A row of held blocks of the call's own. -/
theorem hes_own {w : World} {N : Nat} {v : Value} {es : List HeC} {S : Nat → Bool} (h : w.ownsRow N 61 2 v es.length (es.flatMap heCells)) (hD : ∀ g, v.ownBlock = some g → S g = false) (hb : ∀ x, x ∈ es → BytL (blank S w) (slV x.2.1) x.2.2) : Hes (blank S w) v (es.map heOf) := by
  obtain ⟨A, C, rfl, h1, h2, h3⟩ := row_shape h
  refine ⟨A, C, by rw [List.length_map], by rw [List.length_map]; exact h1, h2, fun i x hx => ?_⟩
  rw [List.getElem?_map] at hx
  obtain ⟨e, he, rfl⟩ := Option.map_eq_some_iff.1 hx
  obtain ⟨g, rfl⟩ := h3 (by have := (List.getElem?_eq_some_iff.1 he).1; omega)
  have c0 := row_cell (f := heCells) h (fun _ _ => rfl) (g := g) rfl (j := 0) he rfl
  have c1 := row_cell (f := heCells) h (fun _ _ => rfl) (g := g) rfl (j := 1) he rfl
  have hg := hD g rfl
  refine ⟨g, 0, rfl, slV e.2.1, ?_, ?_, hb e (List.mem_of_getElem? he)⟩
  · rw [blank_cell hg, Nat.zero_add]
    exact c0
  · rw [blank_cell hg, Nat.zero_add]
    exact c1
theorem DkAt.dkJ {w : World} {N D : Nat} {V : Nat → Value} {U : Nat → List HeC} {ds : List Sto.Disk} {S : Nat → Bool} (h : DkAt w N D V U ds) (hD : S D = true) (hS : ∀ k, S k = true → k < N ∨ ∃ t, TyB w k t ∧ t ≠ 61 ∧ t ≠ 5) : DkJ w S D V ds := by
  have away : ∀ k t, N ≤ k → TyB w k t → t = 61 ∨ t = 5 → S k = false := fun k t hN ht e => by
    cases q : S k with
    | false => rfl
    | true =>
      obtain ⟨t', h1, h2, h3⟩ := (hS k q).resolve_left (by omega)
      have hne : t ≠ t' := by
        rcases e with rfl | rfl
        · exact fun z => h2 z.symm
        · exact fun z => h3 z.symm
      exact absurd rfl (ht.ne h1 hne)
  refine ⟨hD, h.row, fun i d hd => ?_⟩
  have hi : i < ds.length := (List.getElem?_eq_some_iff.1 hd).1
  rw [h.bl i d hd]
  refine hes_own (h.own i hi) (fun g hg => away g _ ((h.own i hi).lt g hg).1 (owns_ty (h.own i hi) hg) (Or.inl rfl)) fun x hx => ?_
  · have hO := h.byt i x hi hx
    have hB := hO.bytL
    obtain ⟨g, cap, hv, hg, _, _, hr⟩ := hO.at
    obtain ⟨b0, A, cap', hv', q1, q2, q3⟩ := hB
    refine ⟨b0, A, cap', hv', q1, q2, fun j y hy => ?_⟩
    obtain ⟨b, o, e1, e2⟩ := q3 j y hy
    refine ⟨b, o, e1, ?_⟩
    rw [hv] at hv'
    cases hv'
    cases e1
    rw [blank_cell (away _ _ hg hr.ty (Or.inr rfl))]
    exact e2

/-! ### What is appended -/
theorem run_append_no8 {P : Program} {w : World} (base : Nat) (t ty e : TypeId) (i : TypeInfo) (size c : Nat) (ht : P.underlying t = some (.slice e)) (hi : P.info? e = some i)
    (v : Value) (n : Nat) (xs : List Value) (hown : w.ownsRow base e size v n xs) :
    (Builtin.append_ #[t, t] ty #[v, .slice none 0 c]).run P w = .ok v w := by
  rcases hown.2 with ⟨rfl, rfl⟩ | ⟨g, cap, cur, rfl, _, _, hnc, _⟩
  · simp [Builtin.append_, run_underlying ht, sizeOf, typeInfo, hi, Builtin.lenOf, Builtin.firstCells]
  · simp [Builtin.append_, run_underlying ht, sizeOf, typeInfo, hi, Builtin.lenOf, Builtin.firstCells, hnc, storeCells]
/-- Some more behind a row of the call's own, out of whatever row. -/
theorem app_gen {w : World} {base : Nat} (t : TypeId) {e : TypeId} {sz bytes : Nat} {z : Value} (ht : Tryz.prog.underlying t = some (.slice e)) (hin : (Tryz.prog.info? e).map (fun i => (i.zero, i.size, i.bytes)) = some (some z, sz, bytes)) (hzs : z.cells.size = sz) (hsz : 0 < sz) (hby : bytes ≤ 1000) {v : Value} {n : Nat} {xs : List Value} (hown : w.ownsRow base e sz v n xs)
    (A : Option Addr) (m c : Nat) (hA : A = none → m = 0) (news : List Value) (hl : news.length = m * sz) (hc : ∀ a, A = some a → ∀ j u, news[j]? = some u → w.cell? (a.add j) = some u) (h1 : ∀ u, u ∈ news → u.oneCell' = true) (hnm : n + m ≤ 100000) (hb : base ≤ w.heap.size) :
    ∃ v' w', (Builtin.append_ #[t, t] t #[v, .slice A m c]).run Tryz.prog w = .ok v' w' ∧ w'.ownsRow base e sz v' (n + m) (xs ++ news) ∧ w.grownBy w' v.ownBlock ∧ (v'.ownBlock = v.ownBlock ∨ v'.ownBlock = some w.heap.size) := by
  obtain ⟨i0, hi, hh⟩ := Option.map_eq_some_iff.1 hin
  simp only [Prod.mk.injEq] at hh
  obtain ⟨hz0, hz1, hz2⟩ := hh
  cases A with
  | none =>
    obtain rfl : m = 0 := hA rfl
    obtain rfl : news = [] := List.eq_nil_of_length_eq_zero (by rw [hl, Nat.zero_mul])
    refine ⟨v, w, run_append_no8 base t t e i0 sz c ht hi v n xs hown, by rw [List.append_nil]; exact hown, ⟨rfl, rfl, rfl, Nat.le_refl _, fun _ _ _ => rfl⟩, Or.inl rfl⟩
  | some a =>
    have hm : (n + m) * bytes ≤ 100000 * 1000 := Nat.mul_le_mul hnm hby
    obtain ⟨v', w', hr, h2, h3, _, h5⟩ := run_append_own_at (P := Tryz.prog) w base t t e i0 z sz bytes ht hi hz0 hz1 hz2 hzs hsz v n xs hown a m c news hl (hc a rfl) h1 (by unfold maxLen; omega) (by omega) hb
    exact ⟨v', w', hr, h2, h3, h5⟩
theorem grown_below {w w' : World} {N : Nat} {row : Option Nat} (h : w.grownBy w' row) (hr : ∀ g, row = some g → N ≤ g) (hN : N ≤ w.heap.size) : Below N w w' := ⟨h.os, h.tape, h.output, h.size, fun k hk => h.block k (by omega) fun e => by have := hr k e.symm; omega⟩

end Go.Proofs.YtmcaejooaaahdaaGreat

namespace Go.Proofs.YtmcaejooaaahdaaGreat
open Go.RowKit

abbrev stA (x y z : Int) (vd : Value) (g : Int) (vt vs : Value) (u : Int) (va : Value) : Value := .agg #[.int .i64 x, .int .i64 y, .int .i64 z, vd, .int .i64 g, vt, vs, .int .i64 u, va]
/-- What of a segment lies on disk j, for those that were looked at. -/
def blkT (ds : List Sto.Disk) (k : Int) (q j : Nat) : List Nat := if j < q then (Sto.blocks ds k).getD j [] else []
def BsI (w : World) (ds : List Sto.Disk) (k : Int) (n q : Nat) (Bs : List Value) : Prop := Bs.length = n ∧ ∀ j u, Bs[j]? = some u → BytL w u (blkT ds k q j)
/-- Disk q is being looked at: j of what it has. -/
def BsJ (w : World) (ds : List Sto.Disk) (k : Int) (n q j : Nat) (d : Sto.Disk) (Bs : List Value) : Prop := Bs.length = n ∧ (∀ i u, i ≠ q → Bs[i]? = some u → BytL w u (blkT ds k q i)) ∧ ∃ u cur, Bs[q]? = some u ∧ BytL w u cur ∧ (d.gone = true → cur = []) ∧ (d.gone = false → Sto.pickB k (d.bl.drop j) cur = Sto.pickB k d.bl [])
theorem BsI.to {w : World} {ds : List Sto.Disk} {k : Int} {n q : Nat} {Bs : List Value} {d : Sto.Disk} (h : BsI w ds k n q Bs) (hq : q < n) : BsJ w ds k n q 0 d Bs := by
  refine ⟨h.1, fun i u _ hi => h.2 i u hi, Bs[q]'(by rw [h.1]; exact hq), [], List.getElem?_eq_getElem _, ?_, fun _ => rfl, fun _ => rfl⟩
  have := h.2 q _ (List.getElem?_eq_getElem (by rw [h.1]; exact hq))
  unfold blkT at this
  rw [if_neg (Nat.lt_irrefl q)] at this
  exact this
theorem BsJ.out {w : World} {ds : List Sto.Disk} {k : Int} {n q : Nat} {Bs : List Value} {d : Sto.Disk} (h : BsJ w ds k n q d.bl.length d Bs) (hd : ds[q]? = some d) : BsI w ds k n (q + 1) Bs := by
  obtain ⟨h1, h2, u, cur, h3, h4, h5, h6⟩ := h
  refine ⟨h1, fun i v hi => ?_⟩
  by_cases e : i = q
  · subst e
    rw [h3] at hi
    cases hi
    unfold blkT
    rw [if_pos (Nat.lt_succ_self i), List.getD_eq_getElem?_getD, Sto.blocks, List.getElem?_map, hd]
    show BytL w u (if d.gone then [] else Sto.pickB k d.bl [])
    cases g : d.gone with
    | true =>
      rw [if_pos rfl, ← h5 g]
      exact h4
    | false =>
      rw [if_neg (by decide), ← h6 g, List.drop_length]
      exact h4
  · have := h2 i v e hi
    unfold blkT at this ⊢
    by_cases z : i < q
    · rw [if_pos z] at this
      rw [if_pos (by omega)]
      exact this
    · rw [if_neg z] at this
      rw [if_neg (by omega)]
      exact this
theorem dropC8 {α : Type} {l : List α} {j : Nat} {x : α} (h : l[j]? = some x) : l.drop j = x :: l.drop (j + 1) := by
  obtain ⟨hl, rfl⟩ := List.getElem?_eq_some_iff.1 h
  exact List.drop_eq_getElem_cons hl
theorem BsJ.skip {w : World} {ds : List Sto.Disk} {k : Int} {n q j : Nat} {Bs : List Value} {d : Sto.Disk} {x : Int × List Nat} (h : BsJ w ds k n q j d Bs) (hx : d.bl[j]? = some x) (hn : d.gone = true ∨ x.1 ≠ k) : BsJ w ds k n q (j + 1) d Bs := by
  obtain ⟨h1, h2, u, cur, h3, h4, h5, h6⟩ := h
  refine ⟨h1, h2, u, cur, h3, h4, h5, fun g => ?_⟩
  have := h6 g
  have hne : x.1 ≠ k := by
    rcases hn with y | y
    · rw [g] at y
      cases y
    · exact y
  rw [dropC8 hx, Sto.pickB, if_neg hne] at this
  exact this
theorem BsJ.take {w : World} {ds : List Sto.Disk} {k : Int} {n q j : Nat} {Bs : List Value} {d : Sto.Disk} {x : Int × List Nat} {v : Value} (h : BsJ w ds k n q j d Bs) (hq : q < n) (hx : d.bl[j]? = some x) (hg : d.gone = false) (hk : x.1 = k) (hv : BytL w v x.2) : BsJ w ds k n q (j + 1) d (Bs.set q v) := by
  obtain ⟨h1, h2, u, cur, h3, h4, h5, h6⟩ := h
  refine ⟨by rw [List.length_set]; exact h1, fun i y hi hy => ?_, v, x.2, List.getElem?_set_self (by rw [h1]; exact hq), hv, fun g => ?_, fun g => ?_⟩
  · rw [List.getElem?_set_ne (fun z => hi z.symm)] at hy
    exact h2 i y hi hy
  · rw [hg] at g
    cases g
  · have := h6 g
    rw [dropC8 hx, Sto.pickB, if_pos hk] at this
    exact this
set_option maxHeartbeats 1000000 in
set_option maxRecDepth 100000 in
theorem refBlk_any (x y z g u : Int) (vd vt vs va : Value) (ds : List Sto.Disk) (k : Int) (w : World) (h : Dks w vd ds) (hn : ds.length ≤ 12) (ht : ∃ A n C, vt = .slice A n C) (hs : ∃ A n C, vs = .slice A n C) (ha : ∃ A n C, va = .slice A n C) :
    Calls Tryz.prog 38 #[stA x y z vd g vt vs u va, .int .i64 k] w fun e w' => ∃ v', e = .returned v' ∧ BlL w' v' (Sto.blocks ds k) ∧ Below w.heap.size w w' := by
  obtain ⟨At, nt, Ct, rfl⟩ := ht
  obtain ⟨As, ns, Cs, rfl⟩ := hs
  obtain ⟨Aa, na, Ca, rfl⟩ := ha
  obtain ⟨Ad, Cd, rfl, hd1, hd2, hd3⟩ := h
  obtain ⟨n, hnl⟩ : ∃ n, n = ds.length := ⟨_, rfl⟩
  rw [← hnl] at hn hd1 ⊢
  have HDK : Hid (∀ i d, ds[i]? = some d → ∃ b o, Ad = some ⟨b, o, none⟩ ∧ DkIn w b (o + i * 2) d) := hd3
  have HNL : Hid (n = ds.length) := hnl
  have hmk := run_make_row' (P := Tryz.prog) 86 59 (.slice none 0 0) 24 Tryz.underlying86 Tryz.infoRow rfl .i64 .i64 n (by omega) (by omega)
  have hd2 : Cd ≤ 9223372036854775807 := by unfold maxLen at hd2; exact hd2
  have b1 : Below w.heap.size w (w.alloc (.cells #[.int .i64 x, .int .i64 y, .int .i64 z, .slice Ad n Cd, .int .i64 g, .slice At nt Ct, .slice As ns Cs, .int .i64 u, .slice Aa na Ca] 32)) := (Below.refl _ _).alloc (Nat.le_refl _) _
  clear hd3 hnl
  go_enter Tryz.func38, Tryz.ntmps38
  go_upto_region 1 with fail
  have VS := varN_new w #[.int .i64 x, .int .i64 y, .int .i64 z, .slice Ad n Cd, .int .i64 g, .slice At nt Ct, .slice As ns Cs, .int .i64 u, .slice Aa na Ca] 32
  obtain ⟨w1, hw1⟩ : ∃ q, q = w.alloc (.cells #[.int .i64 x, .int .i64 y, .int .i64 z, .slice Ad n Cd, .int .i64 g, .slice At nt Ct, .slice As ns Cs, .int .i64 u, .slice Aa na Ca] 32) := ⟨_, rfl⟩
  rw [← hw1] at b1 VS ⊢
  obtain ⟨P, hP⟩ : ∃ q, q = w.heap.size := ⟨_, rfl⟩
  rw [← hP] at VS ⊢
  have c3 := VS.cell (i := 3) rfl
  have R0 : (w1.alloc (.cells (madeCells #[.slice none 0 0] n) 59)).ownsRow w1.heap.size 59 1 (.slice (some ⟨w1.heap.size, 0, none⟩) n n) n (List.replicate n (.slice none 0 0)) := by
    have := World.ownsRow_lit w1 (madeCells #[.slice none 0 0] n) n (e := 59) (size := 1) (Nat.le_refl w1.heap.size) (by unfold maxLen; omega) (by simp [madeCells])
    rw [toList_madeCells_one] at this
    exact this
  have b2 : Below w1.heap.size w1 (w1.alloc (.cells (madeCells #[.slice none 0 0] n) 59)) := (Below.refl _ _).alloc (Nat.le_refl _) _
  have c3' := (b2.cell (p := ⟨P, 3, none⟩) (World.block_lt_of_cell? _ _ c3)).trans c3
  have HB0 : Hid (BsI w ds k n 0 (List.replicate n (.slice none 0 0))) := ⟨List.length_replicate, fun j v hj => by
    rw [(List.mem_replicate.1 (List.mem_of_getElem? hj)).2]
    exact BytL.nil w⟩
  have hO : w.heap.size ≤ w1.heap.size := b1.size
  have b12 := bt b1 b2
  clear hw1 VS hP b1
  go_wp2_with fail
  obtain ⟨w2, hw2⟩ : ∃ q, q = w1.alloc (.cells (madeCells #[.slice none 0 0] n) 59) := ⟨_, rfl⟩
  rw [← hw2] at R0 b2 c3' b12 ⊢
  obtain ⟨O, hO'⟩ : ∃ q, q = w1.heap.size := ⟨_, rfl⟩
  rw [← hO'] at R0 hO ⊢
  clear hw2 c3 b2 hO'
  go_loopw [17] (fun x wr => ∃ q : Nat, q ≤ n ∧ x = .int .i64 q ∧ Hid (∃ Bs, wr.ownsRow O 59 1 (.slice (some ⟨O, 0, none⟩) n n) n Bs ∧ BsI w ds k n q Bs) ∧ Hid (Below w.heap.size w wr)) (fun x _ => n - (intOf x).toNat)
  case atStart => exact ⟨0, Nat.zero_le _, rfl, ⟨_, R0, HB0.out⟩, b12⟩
  case round =>
    obtain ⟨q, hq, rfl, HR, HB⟩ := hrel
    by_cases hlt : q < n
    · have hlt' : (q : Int) < (n : Int) := by omega
      obtain ⟨d, hdq⟩ : ∃ d, ds[q]? = some d := ⟨ds[q]'(by rw [← HNL.out]; exact hlt), List.getElem?_eq_getElem _⟩
      obtain ⟨b, o, rfl, vh, g0, g1, hh⟩ := HDK.out q d hdq
      have g0 := (HB.out.cell (p := ⟨b, o + q * 2, none⟩) (World.block_lt_of_cell? _ _ g0)).trans g0
      have g1 := (HB.out.cell (p := ⟨b, o + q * 2 + 1, none⟩) (World.block_lt_of_cell? _ _ g1)).trans g1
      obtain ⟨Ah, Ch, rfl, hh1, hh2, hh3⟩ := hh
      obtain ⟨m, hml⟩ : ∃ m, m = d.bl.length := ⟨_, rfl⟩
      rw [← hml] at g1 hh1
      have hh2 : Ch ≤ 9223372036854775807 := by unfold maxLen at hh2; exact hh2
      have HHE : Hid (∀ i x, d.bl[i]? = some x → ∃ b o, Ah = some ⟨b, o, none⟩ ∧ HdIn w b (o + i * 2) x) := hh3
      have HML : Hid (m = d.bl.length) := hml
      have HDQ : Hid (ds[q]? = some d) := hdq
      obtain ⟨Bs, hBs, hBI⟩ := HR.out
      obtain ⟨wo, hwo⟩ : ∃ y, y = wr := ⟨wr, rfl⟩
      have VD := varN_new wr #[.bool d.gone, .slice Ah m Ch] 58
      have bA : Below wr.heap.size wr (wr.alloc (.cells #[.bool d.gone, .slice Ah m Ch] 58)) := (Below.refl _ _).alloc (Nat.le_refl _) _
      have HR1 : Hid (∃ Bs, (wr.alloc (.cells #[.bool d.gone, .slice Ah m Ch] 58)).ownsRow O 59 1 (.slice (some ⟨O, 0, none⟩) n n) n Bs ∧ BsJ w ds k n q 0 d Bs) := ⟨Bs, owns_below hBs bA, hBI.to hlt⟩
      have HB1 : Hid (Below w.heap.size w (wr.alloc (.cells #[.bool d.gone, .slice Ah m Ch] 58))) := bt HB.out bA
      have hOl : O < wr.heap.size := (hBs.lt O rfl).2
      have HVD : Hid (VarN (wr.alloc (.cells #[.bool d.gone, .slice Ah m Ch] 58)) wr.heap.size 58 [.bool d.gone, .slice Ah m Ch] ∧ O < wr.heap.size) := ⟨VD, hOl⟩
      clear hdq hh3 hml HR HB hBs hBI VD bA hOl
      go_upto_region 5 with fail
      obtain ⟨w3, hw3⟩ : ∃ y, y = wr.alloc (.cells #[.bool d.gone, .slice Ah m Ch] 58) := ⟨_, rfl⟩
      rw [← hw3] at HR1 HB1 HVD ⊢
      obtain ⟨Q, hQ⟩ : ∃ y, y = wr.heap.size := ⟨_, rfl⟩
      rw [← hQ] at HVD ⊢
      have d0 := HVD.out.1.cell (i := 0) rfl
      have d1 := HVD.out.1.cell (i := 1) rfl
      clear hw3 hQ g0 g1
      go_wp2_with fail
      go_loopw [25] (fun x wr => ∃ j : Nat, j ≤ m ∧ x = .int .i64 j ∧ Hid (∃ Bs, wr.ownsRow O 59 1 (.slice (some ⟨O, 0, none⟩) n n) n Bs ∧ BsJ w ds k n q j d Bs) ∧ Hid (Below w.heap.size w wr ∧ VarN wr Q 58 [.bool d.gone, .slice Ah m Ch])) (fun x _ => m - (intOf x).toNat)
      case atStart => exact ⟨0, Nat.zero_le _, rfl, HR1, HB1.out, HVD.out.1⟩
      case round =>
        obtain ⟨j, hj, rfl, HR, HB⟩ := hrel
        by_cases hlj : j < m
        · have hlj' : (j : Int) < (m : Int) := by omega
          obtain ⟨x9, hx9⟩ : ∃ x, d.bl[j]? = some x := ⟨d.bl[j]'(by rw [← HML.out]; exact hlj), List.getElem?_eq_getElem _⟩
          obtain ⟨b9, o9, rfl, v9, e0, e1, e2⟩ := HHE.out j x9 hx9
          have e0 := (HB.out.1.cell (p := ⟨b9, o9 + j * 2, none⟩) (World.block_lt_of_cell? _ _ e0)).trans e0
          have e1 := (HB.out.1.cell (p := ⟨b9, o9 + j * 2 + 1, none⟩) (World.block_lt_of_cell? _ _ e1)).trans e1
          have HBY : Hid (BytL w v9 x9.2) := e2
          obtain ⟨_, A9, C9, rfl, _⟩ := e2
          obtain ⟨r9, hr9⟩ : ∃ y, y = x9.2.length := ⟨_, rfl⟩
          rw [← hr9] at e1 HBY
          obtain ⟨s9, hs9⟩ : ∃ y, y = x9.1 := ⟨_, rfl⟩
          rw [← hs9] at e0
          have bA : Below wr.heap.size wr (wr.alloc (.cells #[.int .i64 s9, .slice A9 r9 C9] 61)) := (Below.refl _ _).alloc (Nat.le_refl _) _
          have f0 := (HB.out.2.below bA).cell (i := 0) rfl
          obtain ⟨Bs, hBs, hBJ⟩ := HR.out
          have hBs2 := owns_below hBs bA
          have HB2 : Hid (Below w.heap.size w (wr.alloc (.cells #[.int .i64 s9, .slice A9 r9 C9] 61)) ∧ VarN (wr.alloc (.cells #[.int .i64 s9, .slice A9 r9 C9] 61)) Q 58 [.bool d.gone, .slice (some ⟨b9, o9, none⟩) m Ch]) := ⟨bt HB.out.1 bA, HB.out.2.below bA⟩
          by_cases hk : s9 = k
          · by_cases hg : d.gone = true
            case pos =>
              have HNX : Hid (∃ Bs, (wr.alloc (.cells #[.int .i64 s9, .slice A9 r9 C9] 61)).ownsRow O 59 1 (.slice (some ⟨O, 0, none⟩) n n) n Bs ∧ BsJ w ds k n q (j + 1) d Bs) := ⟨Bs, hBs2, hBJ.skip hx9 (Or.inl hg)⟩
              rw [hg] at f0
              have hkk : (s9 == k) = true := beq_iff_eq.2 hk
              clear HR HB hBs hBJ hBs2 hx9 hk hg HBY hr9 hs9
              go_wp2_with fail
              exact ⟨⟨j + 1, by omega, by go_num, HNX, HB2⟩, by simp [intOf]; omega⟩
            case neg =>
              have hg : d.gone = false := by simpa using hg
              have hBJ2 := hBJ.take hlt hx9 hg (hs9.symm.trans hk) (show BytL w (.slice A9 r9 C9) x9.2 from HBY.out)
              have hST := hBs2.stored q (.slice A9 r9 C9)
              have HNX : Hid (∃ Bs, ((wr.alloc (.cells #[.int .i64 s9, .slice A9 r9 C9] 61)).setCell ⟨O, q, none⟩ (.slice A9 r9 C9)).ownsRow O 59 1 (.slice (some ⟨O, 0, none⟩) n n) n Bs ∧ BsJ w ds k n q (j + 1) d Bs) := ⟨_, hST.1, hBJ2⟩
              have HB3 : Hid (Below w.heap.size w ((wr.alloc (.cells #[.int .i64 s9, .slice A9 r9 C9] 61)).setCell ⟨O, q, none⟩ (.slice A9 r9 C9)) ∧ VarN ((wr.alloc (.cells #[.int .i64 s9, .slice A9 r9 C9] 61)).setCell ⟨O, q, none⟩ (.slice A9 r9 C9)) Q 58 [.bool d.gone, .slice (some ⟨b9, o9, none⟩) m Ch]) := ⟨HB2.out.1.setCell hO _, HB2.out.2.off (off_set _ ⟨O, q, none⟩ _) fun z => (owns_ty hBs2 rfl).ne HB2.out.2.ty (by decide) z.symm⟩
              have hfr := hBs2.frozenAt q
              obtain ⟨u0, hu0⟩ : ∃ u0, (wr.alloc (.cells #[.int .i64 s9, .slice A9 r9 C9] 61)).cell? ⟨O, q, none⟩ = some u0 := by
                obtain ⟨g, cap, hv, _, _, _, _, hc⟩ := owns_cells hBs2 (by omega)
                cases hv
                exact ⟨_, hc q _ (List.getElem?_eq_getElem (by rw [hBJ.1]; exact hlt))⟩
              rw [hg] at f0
              have hkk : (s9 == k) = true := beq_iff_eq.2 hk
              clear HR HB HB2 hBs hBJ hBJ2 hBs2 hx9 hk hg HBY hr9 hs9 hST
              go_wp2_with fail
              exact ⟨⟨j + 1, by omega, by go_num, HNX, HB3⟩, by simp [intOf]; omega⟩
          · have HNX : Hid (∃ Bs, (wr.alloc (.cells #[.int .i64 s9, .slice A9 r9 C9] 61)).ownsRow O 59 1 (.slice (some ⟨O, 0, none⟩) n n) n Bs ∧ BsJ w ds k n q (j + 1) d Bs) := ⟨Bs, hBs2, hBJ.skip hx9 (Or.inr (by rw [← hs9]; exact hk))⟩
            have hkk : (s9 == k) = false := by rw [beq_eq_false_iff_ne]; exact hk
            clear HR HB hBs hBJ hBs2 hx9 hk HBY hr9 hs9
            go_wp2_with fail
            exact ⟨⟨j + 1, by omega, by go_num, HNX, HB2⟩, by simp [intOf]; omega⟩
        · obtain rfl : j = m := by omega
          obtain ⟨Bs, hBs, hBJ⟩ := HR.out
          have HNX : Hid (∃ Bs, wr.ownsRow O 59 1 (.slice (some ⟨O, 0, none⟩) n n) n Bs ∧ BsI w ds k n (q + 1) Bs) := ⟨Bs, hBs, by
            rw [HML.out] at hBJ
            exact hBJ.out HDQ.out⟩
          have HB2 : Hid (Below w.heap.size w wr) := HB.out.1
          clear HR HB hBs hBJ
          go_wp2_with fail
          exact ⟨⟨q + 1, by omega, by go_num, HNX, HB2⟩, by simp [intOf]; omega⟩
    · obtain rfl : q = n := by omega
      obtain ⟨Bs, hBs, hBI⟩ := HR.out
      have HF : Hid (BlL wr (.slice (some ⟨O, 0, none⟩) q q) (Sto.blocks ds k)) := by
        have hl : (Sto.blocks ds k).length = q := by rw [Sto.blocks, List.length_map, HNL.out]
        refine ⟨_, q, by rw [hl], by rw [hl]; exact Nat.le_refl _, by unfold maxLen; omega, fun i x hx => ?_⟩
        have hi : i < q := by
          rw [← hl]
          exact (List.getElem?_eq_some_iff.1 hx).1
        obtain ⟨u9, hu9⟩ : ∃ u9, Bs[i]? = some u9 := ⟨Bs[i]'(by rw [hBI.1]; exact hi), List.getElem?_eq_getElem _⟩
        have hc := hBs.cells rfl i u9 hu9
        rw [WideShapes.add_plain] at hc
        have hb := hBI.2 i u9 hu9
        unfold blkT at hb
        rw [if_pos hi, List.getD_eq_getElem?_getD, hx] at hb
        exact ⟨O, 0, u9, rfl, hc, hb.below HB.out⟩
      have HB2 := HB.out
      clear HR hBs hBI
      go_wp2_with fail
      go_ret
      exact ⟨_, rfl, HF.out, HB2⟩

end Go.Proofs.YtmcaejooaaahdaaGreat
