/-
  Texts of the proof, joined: HRead, OpenI, HMore, KAlvW, KList.
-/
import Derived.Test.YtleekmmoanlpfaaGreatZ46
import Derived.Test.YtleekmmoanlpfaaGreatZ07
import Derived.ChangeSlices
import Derived.Test.YtleekmmoanlpfaaGreatZ45
import Derived.Test.YtleekmmoanlpfaaGreatZ13
import Derived.Test.YtleekmmoanlpfaaGreatZ16
import Derived.Laws.OwnMore
import Derived.Deep.RegionHeld3
import Derived.Deep.Cut
import Derived.Test.YtleekmmoanlpfaaGreatZ48
import Derived.Lib.AppendZeros
namespace Go.Proofs.YtleekmmoanlpfaaGreat
open Go.RowKit

/-! ### What lies in a row of the call's own is read -/
theorem row_shape {w : World} {N : Nat} {t : TypeId} {z : Nat} {v : Value} {n : Nat} {xs : List Value} (h : w.ownsRow N t z v n xs) : ∃ A C, v = .slice A n C ∧ n ≤ C ∧ C ≤ maxLen ∧ (1 ≤ n → ∃ g, A = some ⟨g, 0, none⟩) := by
  rcases h.2 with ⟨rfl, h0⟩ | ⟨g, cap, cur, rfl, _, _, h1, h2, _⟩
  · subst h0
    exact ⟨none, 0, rfl, Nat.le_refl _, Nat.zero_le _, fun h => absurd h (by decide)⟩
  · exact ⟨_, cap, rfl, h1, h2, fun _ => ⟨g, rfl⟩⟩
theorem row_cell {α : Type} {f : α → List Value} {w : World} {N : Nat} {t : TypeId} {z : Nat} {v : Value} {n : Nat} {es : List α} (h : w.ownsRow N t z v n (es.flatMap f)) (hf : ∀ a, a ∈ es → (f a).length = z) {g : Nat} (hg : v.ownBlock = some g) {i j : Nat} {a : α} {u : Value} (ha : es[i]? = some a) (hj : (f a)[j]? = some u) : w.cell? ⟨g, i * z + j, none⟩ = some u := by
  have hjl : j < z := by
    have := (List.getElem?_eq_some_iff.1 hj).1
    rw [hf a (List.mem_of_getElem? ha)] at this
    exact this
  have := h.cells hg (i * z + j) u ((flat_get f z es hf i j hjl a ha).trans hj)
  rw [WideShapes.add_plain, Nat.zero_add] at this
  exact this

/-! ### Numbers, blocks, disks -/
/-- Numbers in a row. -/
def Nms (w : World) (v : Value) (l : List Int) : Prop := ∃ A cap, v = .slice A l.length cap ∧ l.length ≤ cap ∧ cap ≤ maxLen ∧ ∀ i x, l[i]? = some x → ∃ b o, A = some ⟨b, o, none⟩ ∧ w.cell? ⟨b, o + i, none⟩ = some (.int .i64 x)
theorem Nms.below {w w' : World} {v : Value} {l : List Int} (h : Nms w v l) (hb : Below w.heap.size w w') : Nms w' v l := by
  obtain ⟨A, cap, hv, h1, h2, h3⟩ := h
  refine ⟨A, cap, hv, h1, h2, fun i e he => ?_⟩
  obtain ⟨b, o, hA, hi⟩ := h3 i e he
  exact ⟨b, o, hA, (hb.cell (p := ⟨b, o + i, none⟩) (World.block_lt_of_cell? _ _ hi)).trans hi⟩
theorem Nms.nil (w : World) : Nms w (.slice none 0 0) [] := ⟨none, 0, rfl, Nat.le_refl _, Nat.zero_le _, fun _ _ he => (by cases he)⟩
theorem Nms.shape {w : World} {v : Value} {l : List Int} (h : Nms w v l) : ∃ A C, v = .slice A l.length C := by
  obtain ⟨A, C, hv, _⟩ := h
  exact ⟨A, C, hv⟩
theorem nms_own {w : World} {N : Nat} {v : Value} {l : List Int} (h : w.ownsRow N 3 1 v l.length (l.flatMap inCells)) : Nms w v l := by
  obtain ⟨A, C, rfl, h1, h2, h3⟩ := row_shape h
  refine ⟨A, C, rfl, h1, h2, fun i x hx => ?_⟩
  obtain ⟨g, rfl⟩ := h3 (by have := (List.getElem?_eq_some_iff.1 hx).1; omega)
  have := row_cell (f := inCells) h (fun _ _ => rfl) (g := g) rfl (j := 0) hx rfl
  exact ⟨g, 0, rfl, by simpa using this⟩
/-- A block that is held: its segment, its bytes. -/
def HdIn (w : World) (b o : Nat) (h : Int × List Nat) : Prop := ∃ v, w.cell? ⟨b, o, none⟩ = some (.int .i64 h.1) ∧ w.cell? ⟨b, o + 1, none⟩ = some v ∧ BytL w v h.2
theorem HdIn.below {w w' : World} {b o : Nat} {x : Int × List Nat} (h : HdIn w b o x) (hb : Below w.heap.size w w') : HdIn w' b o x := by
  obtain ⟨v, c0, c1, he⟩ := h
  have hp : b < w.heap.size := World.block_lt_of_cell? _ _ c0
  exact ⟨v, (hb.cell (p := ⟨b, o, none⟩) hp).trans c0, (hb.cell (p := ⟨b, o + 1, none⟩) hp).trans c1, he.below hb⟩
def Hes (w : World) (v : Value) (l : List (Int × List Nat)) : Prop := ∃ A cap, v = .slice A l.length cap ∧ l.length ≤ cap ∧ cap ≤ maxLen ∧ ∀ i x, l[i]? = some x → ∃ b o, A = some ⟨b, o, none⟩ ∧ HdIn w b (o + i * 2) x
theorem Hes.below {w w' : World} {v : Value} {l : List (Int × List Nat)} (h : Hes w v l) (hb : Below w.heap.size w w') : Hes w' v l := by
  obtain ⟨A, cap, hv, h1, h2, h3⟩ := h
  refine ⟨A, cap, hv, h1, h2, fun i e he => ?_⟩
  obtain ⟨b, o, hA, hi⟩ := h3 i e he
  exact ⟨b, o, hA, hi.below hb⟩
def DkIn (w : World) (b o : Nat) (d : Sto.Disk) : Prop := ∃ v, w.cell? ⟨b, o, none⟩ = some (.bool d.gone) ∧ w.cell? ⟨b, o + 1, none⟩ = some v ∧ Hes w v d.bl
theorem DkIn.below {w w' : World} {b o : Nat} {x : Sto.Disk} (h : DkIn w b o x) (hb : Below w.heap.size w w') : DkIn w' b o x := by
  obtain ⟨v, c0, c1, he⟩ := h
  have hp : b < w.heap.size := World.block_lt_of_cell? _ _ c0
  exact ⟨v, (hb.cell (p := ⟨b, o, none⟩) hp).trans c0, (hb.cell (p := ⟨b, o + 1, none⟩) hp).trans c1, he.below hb⟩
def Dks (w : World) (v : Value) (l : List Sto.Disk) : Prop := ∃ A cap, v = .slice A l.length cap ∧ l.length ≤ cap ∧ cap ≤ maxLen ∧ ∀ i x, l[i]? = some x → ∃ b o, A = some ⟨b, o, none⟩ ∧ DkIn w b (o + i * 2) x
theorem Dks.below {w w' : World} {v : Value} {l : List Sto.Disk} (h : Dks w v l) (hb : Below w.heap.size w w') : Dks w' v l := by
  obtain ⟨A, cap, hv, h1, h2, h3⟩ := h
  refine ⟨A, cap, hv, h1, h2, fun i e he => ?_⟩
  obtain ⟨b, o, hA, hi⟩ := h3 i e he
  exact ⟨b, o, hA, hi.below hb⟩
theorem Dks.nil (w : World) : Dks w (.slice none 0 0) [] := ⟨none, 0, rfl, Nat.le_refl _, Nat.zero_le _, fun _ _ he => (by cases he)⟩
theorem dks_own {w : World} {N D : Nat} {V : Nat → Value} {U : Nat → List HeC} {ds : List Sto.Disk} (h : DkAt w N D V U ds) (hl : ds.length ≤ 100) : Dks w (.slice (some ⟨D, 0, none⟩) ds.length ds.length) ds := by
  refine ⟨_, _, rfl, Nat.le_refl _, by unfold maxLen; omega, fun i d hd => ⟨D, 0, rfl, V i, ?_, ?_, ?_⟩⟩
  · have hi := (List.getElem?_eq_some_iff.1 hd).1
    have := h.row.cell (j := i * 2) (by omega)
    rw [Nat.zero_add, this]
    unfold dkF
    rw [if_pos (by omega), Nat.mul_div_cancel _ (by decide), List.getD_eq_getElem?_getD, hd]
    rfl
  · have hi := (List.getElem?_eq_some_iff.1 hd).1
    have := h.row.cell (j := i * 2 + 1) (by omega)
    rw [Nat.zero_add, this]
    unfold dkF
    rw [if_neg (by omega), show (i * 2 + 1) / 2 = i by omega]
  · have hi := (List.getElem?_eq_some_iff.1 hd).1
    have ho := h.own i hi
    have hb := h.bl i d hd
    obtain ⟨A, C, hv, h1, h2, h3⟩ := row_shape ho
    refine ⟨A, C, by rw [hb, List.length_map]; exact hv, by rw [hb, List.length_map]; exact h1, h2, fun k x hx => ?_⟩
    rw [hb, List.getElem?_map] at hx
    obtain ⟨q, hq, rfl⟩ := Option.map_eq_some_iff.1 hx
    obtain ⟨g, rfl⟩ := h3 (by have := (List.getElem?_eq_some_iff.1 hq).1; omega)
    have hg : (V i).ownBlock = some g := by rw [hv]; rfl
    refine ⟨g, 0, rfl, slV q.2.1, ?_, ?_, (h.byt i q hi (List.mem_of_getElem? hq)).bytL⟩
    · have := row_cell (f := heCells) ho (fun _ _ => rfl) hg (j := 0) hq rfl
      rw [Nat.zero_add]
      exact this
    · have := row_cell (f := heCells) ho (fun _ _ => rfl) hg (j := 1) hq rfl
      rw [Nat.zero_add]
      exact this
theorem bats_own {w : World} {N : Nat} {E : Nat → Prop} {vt : Value} {tc : List (Int × Sl)} {l : List Evt.Bat} (h : TlAt w N E vt tc l) : Bats w vt l := by
  obtain ⟨A, C, hv, h1, h2, h3⟩ := row_shape h.own
  refine ⟨A, C, hv, h1, h2, fun i x hx => ?_⟩
  have hi := (List.getElem?_eq_some_iff.1 hx).1
  obtain ⟨q, hq⟩ : ∃ q, tc[i]? = some q := ⟨tc[i]'(by rw [h.len]; exact hi), List.getElem?_eq_getElem _⟩
  obtain ⟨g, rfl⟩ := h3 (by omega)
  have hg : vt.ownBlock = some g := by rw [hv]; rfl
  obtain ⟨e1, e2⟩ := h.evs i q x hq hx
  refine ⟨g, 0, rfl, slV q.2, ?_, ?_, e2.1⟩
  · have := row_cell (f := tbCells) h.own (fun _ _ => rfl) hg (j := 0) hq rfl
    rw [Nat.zero_add, e1]
    exact this
  · have := row_cell (f := tbCells) h.own (fun _ _ => rfl) hg (j := 1) hq rfl
    rw [Nat.zero_add]
    exact this

/-! ### A store -/
/-- A store, as it is read. -/
structure StIn (w : World) (vd vt vs va : Value) (s : Sto.St) : Prop where
  dk : Dks w vd s.disks
  tl : Bats w vt s.tail
  sn : Nms w vs s.seen
  ac : Accs w va s.acc
theorem StIn.below {w w' : World} {vd vt vs va : Value} {s : Sto.St} (h : StIn w vd vt vs va s) (hb : Below w.heap.size w w') : StIn w' vd vt vs va s := ⟨h.dk.below hb, h.tl.below hb, h.sn.below hb, h.ac.below hb⟩
theorem StP.read {w : World} {N R D : Nat} {F E : Nat → Prop} {c : Sto.Cfg} {s : Sto.St} {V : Nat → Value} {U : Nat → List HeC} {vt vs va : Value} {tc : List (Int × Sl)} (h : StP w N R F E c s D V U vt vs va tc) : StIn w (.slice (some ⟨D, 0, none⟩) s.disks.length s.disks.length) vt vs va s :=
  ⟨dks_own h.dk (by have := h.wf.len; have := h.wf.d8; have := h.wf.s4; omega), bats_own h.tail, nms_own h.seen, h.acc.1⟩

/-! ### Answers -/
/-- An answer lies at (b, o). -/
def AnIn (w : World) (b o : Nat) (a : Sto.Ans) : Prop := ∃ ve va, w.cell? ⟨b, o, none⟩ = some (.int .i64 (a.err : Nat)) ∧ w.cell? ⟨b, o + 1, none⟩ = some (.int .i64 a.n) ∧ w.cell? ⟨b, o + 2, none⟩ = some ve ∧ w.cell? ⟨b, o + 3, none⟩ = some (.int .i64 a.vu) ∧ w.cell? ⟨b, o + 4, none⟩ = some va ∧ Evs w ve a.evs ∧ Accs w va a.vl
theorem AnIn.below {w w' : World} {b o : Nat} {a : Sto.Ans} (h : AnIn w b o a) (hb : Below w.heap.size w w') : AnIn w' b o a := by
  obtain ⟨ve, va, c0, c1, c2, c3, c4, he, ha⟩ := h
  have hp : b < w.heap.size := World.block_lt_of_cell? _ _ c0
  exact ⟨ve, va, (hb.cell (p := ⟨b, o, none⟩) hp).trans c0, (hb.cell (p := ⟨b, o + 1, none⟩) hp).trans c1, (hb.cell (p := ⟨b, o + 2, none⟩) hp).trans c2, (hb.cell (p := ⟨b, o + 3, none⟩) hp).trans c3, (hb.cell (p := ⟨b, o + 4, none⟩) hp).trans c4, he.below hb, ha.below hb⟩
def Anss (w : World) (v : Value) (l : List Sto.Ans) : Prop := ∃ A cap, v = .slice A l.length cap ∧ l.length ≤ cap ∧ cap ≤ maxLen ∧ ∀ i a, l[i]? = some a → ∃ b o, A = some ⟨b, o, none⟩ ∧ AnIn w b (o + i * 5) a
theorem Anss.below {w w' : World} {v : Value} {l : List Sto.Ans} (h : Anss w v l) (hb : Below w.heap.size w w') : Anss w' v l := by
  obtain ⟨A, cap, hv, h1, h2, h3⟩ := h
  refine ⟨A, cap, hv, h1, h2, fun i e he => ?_⟩
  obtain ⟨b, o, hA, hi⟩ := h3 i e he
  exact ⟨b, o, hA, hi.below hb⟩
theorem AnsRow.read {w : World} {N : Nat} {F : Nat → Prop} {v : Value} {qs : List AnC} {al : List Sto.Ans} (h : AnsRow w N F v qs al) : Anss w v al := by
  obtain ⟨A, C, hv, h1, h2, h3⟩ := row_shape h.own
  have hl := h.len
  refine ⟨A, C, by rw [← hl]; exact hv, by omega, h2, fun i a ha => ?_⟩
  have hi := (List.getElem?_eq_some_iff.1 ha).1
  obtain ⟨q, hq⟩ : ∃ q, qs[i]? = some q := ⟨qs[i]'(by omega), List.getElem?_eq_getElem _⟩
  obtain ⟨g, rfl⟩ := h3 (by omega)
  have hg : v.ownBlock = some g := by rw [hv]; rfl
  obtain ⟨ve, va, hag, hev, hac⟩ := h.ans i q a hq ha
  have hcl : anCells q = [.int .i64 (a.err : Nat), .int .i64 a.n, ve, .int .i64 a.vu, va] := congrArg Array.toList (Value.agg.inj hag)
  have hc : ∀ j u, (anCells q)[j]? = some u → w.cell? ⟨g, 0 + i * 5 + j, none⟩ = some u := fun j u hj => by
    have := row_cell (f := anCells) h.own (fun _ _ => rfl) hg hq hj
    rw [Nat.zero_add]
    exact this
  exact ⟨g, 0, rfl, ve, va, hc 0 _ (by rw [hcl]; rfl), hc 1 _ (by rw [hcl]; rfl), hc 2 _ (by rw [hcl]; rfl), hc 3 _ (by rw [hcl]; rfl), hc 4 _ (by rw [hcl]; rfl), hev.1, hac.1⟩
theorem Dos.below {w w' : World} {v : Value} {l : List Sto.Do} (h : Dos w v l) (hb : Below w.heap.size w w') : Dos w' v l := by
  obtain ⟨A, cap, hv, h1, h2, h3⟩ := h
  refine ⟨A, cap, hv, h1, h2, fun i e he => ?_⟩
  obtain ⟨b, o, hA, hi⟩ := h3 i e he
  exact ⟨b, o, hA, hi.below rfl hb⟩
/-- What Play told, as it is read: it lies in blocks of its own, so that what becomes of others is no matter. -/
def PlayR (e : Ending) (w w' : World) (c : Sto.Cfg) (r : Sto.St × List Sto.Ans) : Prop := ∃ vd vt vs va vr, e = .returned (.tuple #[.agg #[.int .i64 (c.d : Int), .int .i64 (c.s : Int), .int .i64 (c.b : Int), vd, .int .i64 (r.1.segs : Int), vt, vs, .int .i64 r.1.u, va], vr, .int .i64 0]) ∧ StIn w' vd vt vs va r.1 ∧ Anss w' vr r.2 ∧ Below w.heap.size w w' ∧ ∀ w'', Off (fun k => k < w.heap.size) w' w'' → StIn w'' vd vt vs va r.1 ∧ Anss w'' vr r.2
theorem AnsRow.far {w w' : World} {N : Nat} {F : Nat → Prop} {v : Value} {qs : List AnC} {al : List Sto.Ans} (h : AnsRow w N F v qs al) (ho : Off (fun k => k < N) w w') : AnsRow w' N F v qs al :=
  ⟨owns_off h.own ho fun g hg z => absurd (h.own.lt g hg).1 (Nat.not_le.2 z), h.len, fun i q a hq ha => (h.ans i q a hq ha).move (fun k hk z => ho.block k hk (Nat.not_lt.2 z.2.2.2)) fun _ hk z => ⟨z.1, Nat.lt_of_lt_of_le hk ho.size, z.2.2⟩⟩
theorem PlayO.read {e : Ending} {w w' : World} {X : Sto.Six} {c : Sto.Cfg} {l : List Sto.Do} (h : PlayO e w w' X c l) : PlayR e w w' c (Sto.steps X c (Sto.start c) l) := by
  obtain ⟨N, R, F, E, D, V, U, vt, vs, va, tc, vr, qs, rfl, hS, hA, hb, rfl, hE⟩ := h
  exact ⟨_, vt, vs, va, vr, rfl, hS.read, hA.read, hb, fun w'' ho => ⟨(hS.out ho fun k z => ⟨fun y => absurd (hS.lt k y).1 (Nat.not_le.2 z), fun y => absurd (hE k y) (Nat.not_le.2 z)⟩).read, (hA.far ho).read⟩⟩
theorem playR {X : Sto.Six} (hX : Sto.SixOk X) (c : Sto.Cfg) (d s b : Int) (hd : d = (c.d : Int)) (hs : s = (c.s : Int)) (hb : b = (c.b : Int)) (h1 : 1 ≤ c.d) (h2 : c.d ≤ 8) (h3 : c.s ≤ 4) (h4 : 1 ≤ c.b) (h5 : c.b ≤ 10) (v : Value) (l : List Sto.Do) (w : World) (hD : Dos w v l) (hl : l.length ≤ 80) :
    Calls Tryz.prog 13 #[.agg #[.int .i64 d, .int .i64 s, .int .i64 b], v] w fun e w' => PlayR e w w' c (Sto.steps X c (Sto.start c) l) := by
  subst hd hs hb
  exact (play_ok hX c h1 h2 h3 h4 h5 v l w hD hl).mono fun e w' h => h.read
end Go.Proofs.YtleekmmoanlpfaaGreat

namespace Go.Proofs.YtleekmmoanlpfaaGreat
open Go.ChangeShapes Go.WideShapes Go.ChangeAt Go.RowKit

/-- A list of n numbers. -/
structure Ints (w : World) (v : Value) (n : Nat) (Z : Nat → Int) : Prop where
  lies : ∃ (A : Option Addr) (cap : Nat), v = .slice A n cap ∧ ∀ i, i < n → ∃ b o, A = some ⟨b, o, none⟩ ∧ w.cell? ⟨b, o + i, none⟩ = some (.int .i64 (Z i))

theorem ints_of {H : Type} {enc : TypeId × Value → H} {W : World} {a : Option Addr} {len cap : Nat} {d : DataW H} {ps : List MemPlace} (h : DataW.Trod enc Tryz.prog W 0 (fun _ => true) true 22 (.slice a len cap) d ps) :
    ∃ Z, Ints W (.slice a len cap) len Z ∧ len ≤ cap ∧ cap ≤ maxLen := by
  obtain ⟨fuel, hf⟩ := h
  rcases ChangeShapes.open_ints Tryz.underlying22 Tryz.underlying3 (by kernel_rfl) hf with ⟨hcs, _⟩ | ⟨x, l, c, zs, hcs, _, hl, hm, hz, _, hcell, _⟩
  · simp [Value.cells] at hcs
    obtain ⟨rfl, rfl, rfl⟩ := hcs
    exact ⟨fun _ => 0, ⟨none, 0, rfl, fun i hi => absurd hi (Nat.not_lt_zero i)⟩, Nat.le_refl _, Nat.zero_le _⟩
  · simp [Value.cells] at hcs
    obtain ⟨rfl, rfl, rfl⟩ := hcs
    simp only [if_true] at hz
    refine ⟨fun i => zs.getD i 0, ⟨some x, cap, rfl, fun i hi => ?_⟩, hl, hm⟩
    obtain ⟨b, o, spot⟩ := x
    have hspot : spot = none := by simpa [Addr.add] using World.cell?_spot (hcell 0 (by omega))
    subst hspot
    refine ⟨b, o, rfl, ?_⟩
    rw [← WideShapes.add_plain]
    exact hcell i (by omega)

end Go.Proofs.YtleekmmoanlpfaaGreat

namespace Go.Proofs.YtleekmmoanlpfaaGreat
open Go.RowKit

abbrev DoC := Sto.Do × Value × ByteArray
def doC (q : DoC) : List Value := doCells q.1 q.2.1 q.2.2
theorem Tryz.infoDo : (Tryz.prog.info? 29).map (fun i => (i.zero, i.size, i.bytes)) = some (some (.agg #[.int .i64 0, .int .i64 0, .int .i64 0, .int .i64 0, .int .u8 0, .int .i64 0, .slice none 0 0, .string ByteArray.empty, .int .i64 0]), 9, 96) := by kernel_rfl
theorem doC_len (qs : List DoC) : (qs.flatMap doC).length = qs.length * 9 := flat_len doC 9 _ (fun _ _ => rfl)
theorem doC_one (qs : List DoC) (h : ∀ q, q ∈ qs → q.2.1.oneCell' = true) : ∀ u ∈ qs.flatMap doC, u.oneCell' = true := fun u hu => by
  obtain ⟨x, hm, hx⟩ := List.mem_flatMap.1 hu
  simp only [doC, doCells, List.mem_cons, List.not_mem_nil, or_false] at hx
  rcases hx with rfl | rfl | rfl | rfl | rfl | rfl | rfl | rfl | rfl
  all_goals first | rfl | exact h x hm
/-- A list of the call's own that is appended to, since world W. -/
structure RD (W w : World) (v : Value) (qs : List DoC) : Prop where
  bel : Below W.heap.size W w
  own : w.ownsRow W.heap.size 29 9 v qs.length (qs.flatMap doC)
theorem RD.below {W w w' : World} {v : Value} {qs : List DoC} (h : RD W w v qs) (hb : Below w.heap.size w w') : RD W w' v qs := ⟨bt h.bel hb, owns_below h.own hb⟩
theorem RD.alloc {W w : World} {v : Value} {qs : List DoC} (h : RD W w v qs) (o : Obj) : RD W (w.alloc o) v qs := h.below ((Below.refl _ _).alloc (Nat.le_refl _) o)
theorem RD.dos {W w : World} {v : Value} {qs : List DoC} (h : RD W w v qs) (hi : ∀ q, q ∈ qs → DoIn W q.1 q.2.1 q.2.2) : Dos w v (qs.map fun q => q.1) := by
  obtain ⟨A, C, hv, h1, h2, h3⟩ := row_shape h.own
  refine ⟨A, C, by rw [List.length_map]; exact hv, by rw [List.length_map]; exact h1, h2, fun i d hd => ?_⟩
  rw [List.getElem?_map] at hd
  obtain ⟨q, hq, rfl⟩ := Option.map_eq_some_iff.1 hd
  obtain ⟨g, rfl⟩ := h3 (by have := (List.getElem?_eq_some_iff.1 hq).1; omega)
  refine ⟨g, 0, rfl, q.2.1, q.2.2, (hi q (List.mem_of_getElem? hq)).below h.bel, fun j u hj => ?_⟩
  have := row_cell (f := doC) h.own (fun _ _ => rfl) (g := g) (by rw [hv]; rfl) hq hj
  rw [Nat.zero_add]
  exact this
/-- A variable, or a short list, beside it. -/
structure Td (w : World) (v : Value) (g : Nat) (t : TypeId) (us : List Value) : Prop where
  row : VarN w g t us
  ne : v.ownBlock ≠ some g
theorem Td.below {w w' : World} {v : Value} {g : Nat} {t : TypeId} {us : List Value} (h : Td w v g t us) (hb : Below w.heap.size w w') : Td w' v g t us := ⟨h.row.below hb, h.ne⟩
theorem Td.alloc {w : World} {v : Value} {g : Nat} {t : TypeId} {us : List Value} (h : Td w v g t us) (o : Obj) : Td (w.alloc o) v g t us := h.below ((Below.refl _ _).alloc (Nat.le_refl _) o)
theorem Td.cells {w : World} {v : Value} {g : Nat} {t : TypeId} {us : List Value} (h : Td w v g t us) : ∀ j x, us[j]? = some x → w.cell? ((⟨g, 0, none⟩ : Addr).add j) = some x := fun j x hj => by
  rw [WideShapes.add_plain, Nat.zero_add]
  exact h.row.cell hj
theorem VarN.lt8 {w : World} {g : Nat} {t : TypeId} {us : List Value} (h : VarN w g t us) : g < w.heap.size := RowC.lt h
section
variable {W w : World} {v : Value} {qs : List DoC} {cs : Array Value} {t : TypeId}
theorem belA1 (W : World) (o : Obj) : Below W.heap.size W (W.alloc o) := (Below.refl _ _).alloc (Nat.le_refl _) _
end
/-! ### Play, inside such a statement -/
theorem bel_al {W w : World} {o : Obj} (h : Below W.heap.size W w) : Below W.heap.size W (w.alloc o) := h.alloc h.size o
end Go.Proofs.YtleekmmoanlpfaaGreat

namespace Go.Proofs.YtleekmmoanlpfaaGreat
open Go.RowKit

theorem nbT_empty : nb ByteArray.empty = [] := by decide
theorem nbT_a : nb ⟨#[97]⟩ = [97] := by decide
abbrev evC2 : Array Value := #[.string ⟨#[97]⟩, .int .i64 1, .int .i64 0, .string ⟨#[97]⟩, .int .i64 2, .int .i64 7]
theorem evs_T {w : World} {p : Nat} (hp : VarN w p 32 evC2.toList) : Evs w (.slice (some ⟨p, 0, none⟩) 2 2) [evT1, evT2] := by
  refine ⟨some ⟨p, 0, none⟩, 2, rfl, Nat.le_refl _, by decide, fun i e he => ⟨p, 0, rfl, ?_⟩⟩
  match i, he with
  | 0, he =>
    cases he
    exact ⟨⟨#[97]⟩, by decide, nbT_a, hp.cell (i := 0) rfl, hp.cell (i := 1) rfl, hp.cell (i := 2) rfl⟩
  | 1, he =>
    cases he
    exact ⟨⟨#[97]⟩, by decide, nbT_a, hp.cell (i := 3) rfl, hp.cell (i := 4) rfl, hp.cell (i := 5) rfl⟩
/-- Things to do that lie in a literal. -/
theorem dos_lit {w : World} {q : Nat} {qs : List DoC} (hq : VarN w q 29 (qs.flatMap doC)) (hl : qs.length ≤ 1000) (hi : ∀ x, x ∈ qs → DoIn w x.1 x.2.1 x.2.2) : Dos w (.slice (some ⟨q, 0, none⟩) qs.length qs.length) (qs.map fun x => x.1) := by
  refine ⟨some ⟨q, 0, none⟩, qs.length, by rw [List.length_map], by rw [List.length_map]; exact Nat.le_refl _, by unfold maxLen; omega, fun i d hd => ?_⟩
  rw [List.getElem?_map] at hd
  obtain ⟨x, hx, rfl⟩ := Option.map_eq_some_iff.1 hd
  refine ⟨q, 0, rfl, x.2.1, x.2.2, hi x (List.mem_of_getElem? hx), fun j u hj => ?_⟩
  have hj9 : j < 9 := (List.getElem?_eq_some_iff.1 hj).1
  have hf := flat_get doC 9 qs (fun _ _ => rfl) i j hj9 x hx
  rw [Nat.zero_add]
  exact hq.cell (hf.trans hj)
set_option maxHeartbeats 2000000 in
set_option maxRecDepth 100000 in
theorem aliveT_any (w : World) : Calls Tryz.prog 8 #[] w fun e w' => e = .returned (.bool true) ∧ Below w.heap.size w w' := by
  obtain ⟨X, hX⟩ := Sto.six
  have HO := openT_any w ⟨#[97]⟩
  go_enter Tryz.func8, Tryz.ntmps8
  go_wp2_with fail
  refine HO.mono ?_
  rintro e w1 ⟨rfl, b1⟩
  have HA := addT_any w1 ⟨#[97]⟩ 7
  clear HO
  go_wp2_with fail
  refine HA.mono ?_
  rintro e w2 ⟨rfl, b2⟩
  have b2 := bt b1 b2
  have b3 : Below w2.heap.size w2 (w2.alloc (.cells evC2 32)) := (Below.refl _ _).alloc (Nat.le_refl _) _
  have VE := varN_new w2 evC2 32
  have HP := putT_any (w2.alloc (.cells evC2 32)) 1 (some ⟨w2.heap.size, 0, none⟩) 2 2
  clear HA b1
  go_wp2_with fail
  refine HP.mono ?_
  rintro e w4 ⟨rfl, b4⟩
  have VE4 := VE.below b4
  have b04 := bt (bt b2 b3) b4
  have VD := varN_new w4 #[.int .i64 1, .int .i64 0, .int .i64 0, .int .i64 0, .int .u8 0, .int .i64 1, .slice (some ⟨w2.heap.size, 0, none⟩) 2 2, .string ByteArray.empty, .int .i64 (-1), .int .i64 4, .int .i64 0, .int .i64 0, .int .i64 0, .int .u8 0, .int .i64 0, .slice none 0 0, .string ByteArray.empty, .int .i64 0] 29
  have b5 : Below w4.heap.size w4 (w4.alloc (.cells #[.int .i64 1, .int .i64 0, .int .i64 0, .int .i64 0, .int .u8 0, .int .i64 1, .slice (some ⟨w2.heap.size, 0, none⟩) 2 2, .string ByteArray.empty, .int .i64 (-1), .int .i64 4, .int .i64 0, .int .i64 0, .int .i64 0, .int .u8 0, .int .i64 0, .slice none 0 0, .string ByteArray.empty, .int .i64 0] 29)) := (Below.refl _ _).alloc (Nat.le_refl _) _
  have hdos : Dos (w4.alloc (.cells #[.int .i64 1, .int .i64 0, .int .i64 0, .int .i64 0, .int .u8 0, .int .i64 1, .slice (some ⟨w2.heap.size, 0, none⟩) 2 2, .string ByteArray.empty, .int .i64 (-1), .int .i64 4, .int .i64 0, .int .i64 0, .int .i64 0, .int .u8 0, .int .i64 0, .slice none 0 0, .string ByteArray.empty, .int .i64 0] 29)) (.slice (some ⟨w4.heap.size, 0, none⟩) 2 2) [dT1, dT2] := dos_lit (qs := [(dT1, .slice (some ⟨w2.heap.size, 0, none⟩) 2 2, ByteArray.empty), (dT2, .slice none 0 0, ByteArray.empty)]) VD (show 2 ≤ 1000 by decide) fun x hx => by
    simp only [List.mem_cons, List.not_mem_nil, or_false] at hx
    rcases hx with rfl | rfl
    · exact ⟨evs_T (VE4.below b5), nbT_empty, Nat.zero_le _, show (0 : Nat) < 256 by decide⟩
    · exact ⟨evs_empty _ none 0 (Nat.zero_le _), nbT_empty, Nat.zero_le _, show (0 : Nat) < 256 by decide⟩
  have HPL := playR hX cT 3 2 1 rfl rfl rfl (by decide) (by decide) (by decide) (by decide) (by decide) _ _ _ hdos (by decide)
  obtain ⟨a1, hans⟩ := aliveT hX
  have b05 := bt b04 b5
  clear HP VE VE4 VD b2 b3 b4 b5 hdos b04
  go_wp2_with fail
  refine HPL.mono ?_
  rintro e w6 ⟨vd, vt, vs, va, vr, rfl, hS, hR, b6, _⟩
  have b06 := bt b05 b6
  rw [hans] at hR
  obtain ⟨Ad, nd, Cd, rfl⟩ : ∃ A n C, vd = .slice A n C := by
    obtain ⟨A, C, h, _⟩ := hS.dk
    exact ⟨A, _, C, h⟩
  obtain ⟨At, nt, Ct, rfl⟩ : ∃ A n C, vt = .slice A n C := by
    obtain ⟨A, C, h, _⟩ := hS.tl
    exact ⟨A, _, C, h⟩
  obtain ⟨As, ns, Cs, rfl⟩ : ∃ A n C, vs = .slice A n C := by
    obtain ⟨A, C, h, _⟩ := hS.sn
    exact ⟨A, _, C, h⟩
  obtain ⟨Aa, na, Ca, rfl⟩ : ∃ A n C, va = .slice A n C := by
    obtain ⟨A, C, h⟩ := hS.ac.shape
    exact ⟨A, _, C, h⟩
  have bz : ∀ o, Below w6.heap.size w6 (w6.alloc o) := fun o => (Below.refl _ _).alloc (Nat.le_refl _) _
  generalize (Sto.steps X cT (Sto.start cT) [dT1, dT2]).1 = s1 at *
  have hR7 := hR.below (bz (.cells #[.int .i64 3, .int .i64 2, .int .i64 1, .slice Ad nd Cd, .int .i64 (s1.segs : Int), .slice At nt Ct, .slice As ns Cs, .int .i64 s1.u, .slice Aa na Ca] 44))
  have b07 := bt b06 (bz (.cells #[.int .i64 3, .int .i64 2, .int .i64 1, .slice Ad nd Cd, .int .i64 (s1.segs : Int), .slice At nt Ct, .slice As ns Cs, .int .i64 s1.u, .slice Aa na Ca] 44))
  obtain ⟨Ar, Cr, rfl, hr1, hr2, hra⟩ := hR7
  have hr1 : 2 ≤ Cr := hr1
  have hr2 : Cr ≤ 9223372036854775807 := by unfold maxLen at hr2; exact hr2
  obtain ⟨br, or, rfl, ve, va', _, _, _, k3, k4, _, hac⟩ := hra 1 _ rfl
  have k3 : _ = some (Value.int .i64 2) := k3
  obtain ⟨A8, C8, rfl⟩ := hac.shape
  have HG := get_any 2 ⟨#[97]⟩ (.slice A8 1 C8) _ _ hac (by decide)
  rw [show Vw.get [(⟨[97], 7, 2, true⟩ : Vw.Acc)] (nb ⟨#[97]⟩) = ⟨[97], 7, 2, true⟩ by rw [nbT_a]; rfl] at HG
  unfold GetO AcV at HG
  clear HPL hS hR hra hans b6 b06 hX
  go_wp2_with fail
  refine HG.mono ?_
  rintro e w8 ⟨⟨v8, rfl, s8, _, _, rfl⟩, b8⟩
  have hfc := fun w' => field_acc1 s8 7 2 true w'
  have hb := bt b07 b8
  clear HG
  go_wp2_with fail
  go_ret
  exact ⟨rfl, hb⟩

end Go.Proofs.YtleekmmoanlpfaaGreat

namespace Go.Proofs.YtleekmmoanlpfaaGreat
open Go.RowKit

/-- An event as its cells have it. -/
abbrev EvT := ByteArray × Int × Int
def etC (t : EvT) : List Value := [.string t.1, .int .i64 t.2.1, .int .i64 t.2.2]
def etE (t : EvT) : Evt.Ev := ⟨nb t.1, t.2.1, t.2.2⟩
theorem evs_et {w : World} {p : Nat} {ts : List EvT} (hp : VarN w p 32 (ts.flatMap etC)) (hl : ts.length ≤ 1000) (hs : ∀ t, t ∈ ts → t.1.size ≤ 10) : Evs w (.slice (some ⟨p, 0, none⟩) ts.length ts.length) (ts.map etE) := by
  refine ⟨some ⟨p, 0, none⟩, ts.length, by rw [List.length_map], by rw [List.length_map]; exact Nat.le_refl _, by unfold maxLen; omega, fun i e he => ?_⟩
  rw [List.getElem?_map] at he
  obtain ⟨t, ht, rfl⟩ := Option.map_eq_some_iff.1 he
  have hc : ∀ j u, (etC t)[j]? = some u → w.cell? ⟨p, 0 + i * 3 + j, none⟩ = some u := fun j u hj => by
    have hj3 : j < 3 := (List.getElem?_eq_some_iff.1 hj).1
    have hf := flat_get etC 3 ts (fun _ _ => rfl) i j hj3 t ht
    rw [Nat.zero_add]
    exact hp.cell (hf.trans hj)
  exact ⟨p, 0, rfl, t.1, by have := hs t (List.mem_of_getElem? ht); omega, rfl, hc 0 _ rfl, hc 1 _ rfl, hc 2 _ rfl⟩
theorem et_a (k n : Int) : [(⟨[97], k, n⟩ : Evt.Ev)] = [((⟨#[97]⟩, k, n) : EvT)].map etE := by simp [etE, nbT_a] -- et_one
/-- A thing to do that was made here: its events lie in a block beside v's. -/
structure DoG (w : World) (v : Value) (q : DoC) : Prop where
  str : q.2.2 = ByteArray.empty
  name : q.1.name = []
  byte : q.1.turn < 256
  evs : (q.2.1 = .slice none 0 0 ∧ q.1.bat.evs = []) ∨ ∃ (p : Nat) (ts : List EvT), q.2.1 = .slice (some ⟨p, 0, none⟩) ts.length ts.length ∧ Td w v p 32 (ts.flatMap etC) ∧ q.1.bat.evs = ts.map etE ∧ ts.length ≤ 1000 ∧ ∀ t, t ∈ ts → t.1.size ≤ 10
theorem DoG.turn {w w' : World} {v v' : Value} {q : DoC} (h : DoG w v q) (ht : ∀ g t u, Td w v g t u → Td w' v' g t u) : DoG w' v' q :=
  ⟨h.str, h.name, h.byte, h.evs.imp id fun ⟨p, ts, h1, h2, h3⟩ => ⟨p, ts, h1, ht _ _ _ h2, h3⟩⟩
theorem DoG.below {w w' : World} {v : Value} {q : DoC} (h : DoG w v q) (hb : Below w.heap.size w w') : DoG w' v q := h.turn fun _ _ _ z => z.below hb
theorem DoG.doIn {w : World} {v : Value} {q : DoC} (h : DoG w v q) : DoIn w q.1 q.2.1 q.2.2 := by
  refine ⟨?_, by rw [h.str, h.name]; exact nbT_empty, by rw [h.str]; exact Nat.zero_le _, h.byte⟩
  rcases h.evs with ⟨h1, h2⟩ | ⟨p, ts, h1, h2, h3, h4, h5⟩
  · rw [h1, h2]
    exact evs_empty _ none 0 (Nat.zero_le _)
  · rw [h1, h3]
    exact evs_et h2.row h4 h5
theorem DoG.one {w : World} {v : Value} {q : DoC} (h : DoG w v q) : q.2.1.oneCell' = true := by
  rcases h.evs with ⟨h1, _⟩ | ⟨p, ts, h1, _⟩
  · rw [h1]; rfl
  · rw [h1]; rfl
/-- Without events. -/
theorem doG_plain (w : World) (v : Value) (d : Sto.Do) (h1 : d.name = []) (h2 : d.turn < 256) (h3 : d.bat.evs = []) : DoG w v (d, .slice none 0 0, ByteArray.empty) := ⟨rfl, h1, h2, Or.inl ⟨rfl, h3⟩⟩
/-- With events that lie in a block. -/
theorem doG_evs {w : World} {v : Value} {d : Sto.Do} {p : Nat} (ts : List EvT) (hp : VarN w p 32 (ts.flatMap etC)) (hv : v.ownBlock ≠ some p) (h1 : d.name = []) (h2 : d.turn < 256) (h3 : d.bat.evs = ts.map etE) (hl : ts.length ≤ 1000) (hs : ∀ t, t ∈ ts → t.1.size ≤ 10) : DoG w v (d, .slice (some ⟨p, 0, none⟩) ts.length ts.length, ByteArray.empty) :=
  ⟨rfl, h1, h2, Or.inr ⟨p, ts, rfl, ⟨hp, hv⟩, h3, hl, hs⟩⟩
/-- The list so far, since world W. -/
structure LD (W w : World) (v : Value) (qs : List DoC) : Prop where
  rd : RD W w v qs
  ins : ∀ q, q ∈ qs → DoG w v q
theorem LD.below {W w w' : World} {v : Value} {qs : List DoC} (h : LD W w v qs) (hb : Below w.heap.size w w') : LD W w' v qs := ⟨h.rd.below hb, fun q hq => (h.ins q hq).below hb⟩
theorem LD.bel {W w : World} {v : Value} {qs : List DoC} (h : LD W w v qs) : Below W.heap.size W w := h.rd.bel
theorem LD.shape {W w : World} {v : Value} {qs : List DoC} (h : LD W w v qs) : ∃ A C, v = .slice A qs.length C ∧ qs.length ≤ C ∧ C ≤ maxLen := by
  obtain ⟨A, C, hv, h1, h2, _⟩ := row_shape h.rd.own
  exact ⟨A, C, hv, h1, h2⟩
theorem LD.dos {W w : World} {v : Value} {qs : List DoC} (h : LD W w v qs) : Dos w v (qs.map fun q => q.1) := by
  obtain ⟨A, C, hv, h1, h2, h3⟩ := row_shape h.rd.own
  refine ⟨A, C, by rw [List.length_map]; exact hv, by rw [List.length_map]; exact h1, h2, fun i d hd => ?_⟩
  rw [List.getElem?_map] at hd
  obtain ⟨q, hq, rfl⟩ := Option.map_eq_some_iff.1 hd
  obtain ⟨g, rfl⟩ := h3 (by have := (List.getElem?_eq_some_iff.1 hq).1; omega)
  refine ⟨g, 0, rfl, q.2.1, q.2.2, (h.ins q (List.mem_of_getElem? hq)).doIn, fun j u hj => ?_⟩
  have := row_cell (f := doC) h.rd.own (fun _ _ => rfl) (g := g) (by rw [hv]; rfl) hq hj
  rw [Nat.zero_add]
  exact this
theorem td_new {w : World} {v : Value} {g : Nat} {t : TypeId} {us : List Value} (h : VarN w g t us) (o : Obj) (n C : Nat) (hv : v = .slice (some ⟨w.heap.size, 0, none⟩) n C) : Td (w.alloc o) v g t us :=
  ⟨h.below ((Below.refl _ _).alloc (Nat.le_refl _) o), fun e => by
    rw [hv] at e
    have := h.lt8
    have e : some w.heap.size = some g := e
    cases e
    omega⟩
/-- It begins with a literal. -/
theorem ld_new {W w : World} (hb : Below W.heap.size W w) (ys : List DoC) (n : Nat) (hn : ys.length = n) (hl : n ≤ 1000) (hy : ∀ q, q ∈ ys → DoG w (.slice none 0 0) q) : LD W (w.alloc (.cells (ys.flatMap doC).toArray 29)) (.slice (some ⟨w.heap.size, 0, none⟩) n n) ys := by
  subst hn
  refine ⟨⟨hb.alloc hb.size _, ?_⟩, fun q hq => (hy q hq).turn fun g t u z => td_new z.row _ ys.length ys.length rfl⟩
  have := World.ownsRow_lit (e := 29) (size := 9) w (ys.flatMap doC).toArray ys.length hb.size (by unfold maxLen; omega) (by rw [List.size_toArray, doC_len])
  exact this
theorem off_td {w w' : World} {v v' : Value} (ho : Off (fun k => v.ownBlock = some k) w w') (hv : v'.ownBlock = v.ownBlock ∨ ∀ g, v'.ownBlock = some g → w.heap.size ≤ g) : ∀ g t u, Td w v g t u → Td w' v' g t u := fun g t u z =>
  ⟨RowC.of_block z.row (ho.block g (RowC.lt z.row) z.ne), fun e => by
    rcases hv with q | q
    · rw [q] at e
      exact z.ne e
    · have := q g e
      have := RowC.lt z.row
      omega⟩
/-- Some more come behind it. -/
theorem app_ld {W w : World} {v : Value} {qs : List DoC} (h : LD W w v qs) (ys : List DoC) (n : Nat) (hn : ys.length = n) (hl : qs.length + n ≤ 1000) (hy : ∀ q, q ∈ ys → DoG w v q) :
    ∃ v' w', (Builtin.append_ #[34, 34] 34 #[v, .slice (some ⟨w.heap.size, 0, none⟩) n n]).run Tryz.prog (w.alloc (.cells (ys.flatMap doC).toArray 29)) = .ok v' w' ∧ LD W w' v' (qs ++ ys) ∧ Off (fun k => v.ownBlock = some k) w w' ∧ (v'.ownBlock = v.ownBlock ∨ ∀ g, v'.ownBlock = some g → w.heap.size ≤ g) := by
  subst hn
  obtain ⟨i0, hi, hh⟩ := Option.map_eq_some_iff.1 Tryz.infoDo
  simp only [Prod.mk.injEq] at hh
  obtain ⟨hz0, hz1, hz2⟩ := hh
  have bA : Below w.heap.size w (w.alloc (.cells (ys.flatMap doC).toArray 29)) := (Below.refl _ _).alloc (Nat.le_refl _) _
  have hR := h.rd.below bA
  have hc := varN_new w (ys.flatMap doC).toArray 29
  obtain ⟨v', w', hr, h2, h3, _, h5⟩ := run_append_own_at (P := Tryz.prog) (w.alloc (.cells (ys.flatMap doC).toArray 29)) W.heap.size 34 34 29 i0 _ 9 96 Tryz.underlying34 hi hz0 hz1 hz2 rfl (by decide) v qs.length _ hR.own ⟨w.heap.size, 0, none⟩ ys.length ys.length (ys.flatMap doC) (doC_len ys) (fun j u hj => by
    rw [WideShapes.add_plain, Nat.zero_add]
    exact hc.cell hj) (doC_one ys fun q hq => (hy q hq).one) (by unfold maxLen; omega) (by omega) hR.bel.size
  have hof : Off (fun k => v.ownBlock = some k) w w' := (Off.of_below bA).trans (off_of_grown h3)
  have hvb : v'.ownBlock = v.ownBlock ∨ ∀ g, v'.ownBlock = some g → w.heap.size ≤ g := h5.imp id fun z g hg => by
    rw [z] at hg
    cases hg
    exact bA.size
  refine ⟨v', w', hr, ⟨⟨hR.bel.grown h3 hR.bel.size (fun y hy => (hR.own.lt y hy).1), ?_⟩, fun q hq => ?_⟩, hof, hvb⟩
  · rw [List.length_append, List.flatMap_append]
    exact h2
  · rcases List.mem_append.1 hq with z | z
    · exact (h.ins q z).turn (off_td hof hvb)
    · exact (hy q z).turn (off_td hof hvb)
/-- p % q, q other than 0. -/
theorem wpList_rem {P : Program} (w : World) {ops : Array Oper} {rest : List Oper} {o : Oper} {a : Act} {Q : Exit → Act → World → Prop} (hgd : o.guard = none) (x y : Operand) (t t2 : TypeId) (ho : o.op = .binOp .rem t x y t2) (p q r : Int) (hx : a.eval x = .int .i64 p) (hy : a.eval y = .int .i64 q) (hq : ¬ q = 0) (hr : p.tmod q = r) (h : wpList P ops Q rest (a.put o.dst (.int .i64 r)) w) : wpList P ops Q (o :: rest) a w :=
  wpList_plain hgd fun _ hK => by
    subst hr
    unfold Oper.wp execOp
    simp only [ho, hx, hy]
    simp [go_sem, hq]
    exact hK _ _ h
/-- What Play tells, read in a world that has grown since. -/
theorem LD.kept {W w w' : World} {v : Value} {qs : List DoC} (h : LD W w v qs) (hb : Below w.heap.size w w') : Dos w' v (qs.map fun q => q.1) := (h.below hb).dos

end Go.Proofs.YtleekmmoanlpfaaGreat
