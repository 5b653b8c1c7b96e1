/-
  Texts of the proof, joined: JSame, OpenI, HOpen.
-/
import Derived.Test.YtmcaejooaaahdaaGreatZ50
import Derived.Test.YtmcaejooaaahdaaGreatZ77
import Derived.Test.YtmcaejooaaahdaaGreatZ07
import Derived.ChangeSlices
import Derived.Test.YtmcaejooaaahdaaGreatZ47
import Derived.Test.YtmcaejooaaahdaaGreatZ40
import Derived.Test.YtmcaejooaaahdaaGreatZ18
namespace Go.Proofs.YtmcaejooaaahdaaGreat
open Go.RowKit

set_option maxHeartbeats 2000000 in
set_option maxRecDepth 100000 in
theorem same_ans (a : Sto.Ans) (ve va ve' va' : Value) (w : World) (h : Evs w ve a.evs) (hA : Accs w va a.vl) (h' : Evs w ve' a.evs) (hA' : Accs w va' a.vl) :
    Calls Tryz.prog 9 #[.agg #[.int .i64 (a.err : Nat), .int .i64 a.n, ve, .int .i64 a.vu, va], .agg #[.int .i64 (a.err : Nat), .int .i64 a.n, ve', .int .i64 a.vu, va']] w fun e w' => e = .returned (.bool true) ∧ Below w.heap.size w w' := by
  have HE : Hid (∀ w', Below w.heap.size w w' → Calls Tryz.prog 16 #[ve, ve'] w' fun e w2 => e = .returned (.bool true) ∧ Below w'.heap.size w' w2) := fun w' hb => (sameEv_any ve ve' a.evs a.evs w' (h.below hb) (h'.below hb)).mono fun e w2 q => ⟨q.1.yes rfl, by
    obtain ⟨m, rfl⟩ := q.2
    exact drewN_below w' m⟩
  have HV : Hid (∀ w', Below w.heap.size w w' → Calls Tryz.prog 15 #[.agg #[.int .i64 a.vu, va], .agg #[.int .i64 a.vu, va']] w' fun e w2 => e = .returned (.bool true) ∧ Below w'.heap.size w' w2) := fun w' hb => (sameView_any a.vu a.vu va va' a.vl a.vl w' (hA.below hb) (hA'.below hb)).mono fun e w2 q => ⟨q.1.yes ⟨rfl, rfl⟩, q.2⟩
  obtain ⟨A1, C1, rfl⟩ := h.shape
  obtain ⟨B1, K1, rfl⟩ := h'.shape
  obtain ⟨A2, C2, rfl⟩ := hA.shape
  obtain ⟨B2, K2, rfl⟩ := hA'.shape
  obtain ⟨n1, hn1⟩ : ∃ n, n = a.evs.length := ⟨_, rfl⟩
  obtain ⟨n2, hn2⟩ : ∃ n, n = a.vl.length := ⟨_, rfl⟩
  rw [← hn1] at HE ⊢
  rw [← hn2] at HV ⊢
  clear h h' hA hA' hn1 hn2
  have b1 : Below w.heap.size w (w.alloc (.cells #[.int .i64 (a.err : Nat), .int .i64 a.n, .slice A1 n1 C1, .int .i64 a.vu, .slice A2 n2 C2] 42)) := (Below.refl _ _).alloc (Nat.le_refl _) _
  have b2 : Below (w.alloc (.cells #[.int .i64 (a.err : Nat), .int .i64 a.n, .slice A1 n1 C1, .int .i64 a.vu, .slice A2 n2 C2] 42)).heap.size (w.alloc (.cells #[.int .i64 (a.err : Nat), .int .i64 a.n, .slice A1 n1 C1, .int .i64 a.vu, .slice A2 n2 C2] 42)) ((w.alloc (.cells #[.int .i64 (a.err : Nat), .int .i64 a.n, .slice A1 n1 C1, .int .i64 a.vu, .slice A2 n2 C2] 42)).alloc (.cells #[.int .i64 (a.err : Nat), .int .i64 a.n, .slice B1 n1 K1, .int .i64 a.vu, .slice B2 n2 K2] 42)) := (Below.refl _ _).alloc (Nat.le_refl _) _
  have VA := (varN_new w #[.int .i64 (a.err : Nat), .int .i64 a.n, .slice A1 n1 C1, .int .i64 a.vu, .slice A2 n2 C2] 42).below b2
  have VB := varN_new (w.alloc (.cells #[.int .i64 (a.err : Nat), .int .i64 a.n, .slice A1 n1 C1, .int .i64 a.vu, .slice A2 n2 C2] 42)) #[.int .i64 (a.err : Nat), .int .i64 a.n, .slice B1 n1 K1, .int .i64 a.vu, .slice B2 n2 K2] 42
  rw [show (w.alloc (.cells #[.int .i64 (a.err : Nat), .int .i64 a.n, .slice A1 n1 C1, .int .i64 a.vu, .slice A2 n2 C2] 42)).heap.size = w.heap.size + 1 by simp] at VB
  have b2 := bt b1 b2
  go_enter Tryz.func9, Tryz.ntmps9
  go_upto_region 1 with fail
  generalize (w.alloc (.cells #[.int .i64 (a.err : Nat), .int .i64 a.n, .slice A1 n1 C1, .int .i64 a.vu, .slice A2 n2 C2] 42)).alloc (.cells #[.int .i64 (a.err : Nat), .int .i64 a.n, .slice B1 n1 K1, .int .i64 a.vu, .slice B2 n2 K2] 42) = w2 at *
  have HE2 := HE.out w2 b2
  have HVA : Hid (VarN w2 w.heap.size 42 #[.int .i64 (a.err : Nat), .int .i64 a.n, .slice A1 n1 C1, .int .i64 a.vu, .slice A2 n2 C2].toList) := VA
  have HVB : Hid (VarN w2 (w.heap.size + 1) 42 #[.int .i64 (a.err : Nat), .int .i64 a.n, .slice B1 n1 K1, .int .i64 a.vu, .slice B2 n2 K2].toList) := VB
  have a0 := VA.cell (i := 0) rfl
  have a1 := VA.cell (i := 1) rfl
  have a2 := VA.cell (i := 2) rfl
  have d0 := VB.cell (i := 0) rfl
  have d1 := VB.cell (i := 1) rfl
  have d2 := VB.cell (i := 2) rfl
  clear VA VB b1
  go_wp2_with fail
  refine HE2.mono ?_
  rintro e w3 ⟨rfl, b3⟩
  have b03 := bt b2 b3
  have HV3 := HV.out w3 b03
  have a3 := (HVA.out.below b3).cell (i := 3) rfl
  have a4 := (HVA.out.below b3).cell (i := 4) rfl
  have d3 := (HVB.out.below b3).cell (i := 3) rfl
  have d4 := (HVB.out.below b3).cell (i := 4) rfl
  clear a0 a1 a2 d0 d1 d2 HE2 HVA HVB
  go_wp2_with fail
  refine HV3.mono ?_
  rintro e w4 ⟨rfl, b4⟩
  have b04 := bt b03 b4
  clear HV3
  go_wp2_with fail
  go_ret
  exact ⟨rfl, b04⟩

/-- What a Play tells. -/
def PlT (e : Ending) (w w' : World) (x y z g u : Int) (E : Nat) (s : Sto.St) (al : List Sto.Ans) : Prop := ∃ vd vt vs va vr, e = .returned (.tuple #[.agg #[.int .i64 x, .int .i64 y, .int .i64 z, vd, .int .i64 g, vt, vs, .int .i64 u, va], vr, .int .i64 (E : Nat)]) ∧ StIn w' vd vt vs va s ∧ Anss w' vr al ∧ Below w.heap.size w w'
theorem stIn_none (w : World) : StIn w (.slice none 0 0) (.slice none 0 0) (.slice none 0 0) (.slice none 0 0) ⟨[], 0, [], [], 0, []⟩ :=
  ⟨⟨none, 0, rfl, Nat.le_refl _, Nat.zero_le _, fun _ _ z => (by cases z)⟩, ⟨none, 0, rfl, Nat.le_refl _, Nat.zero_le _, fun _ _ z => (by cases z)⟩, ⟨none, 0, rfl, Nat.le_refl _, Nat.zero_le _, fun _ _ z => (by cases z)⟩, Accs.nil _⟩
theorem plT_none {e : Ending} {w w' : World} {x : Nat} (h : NoPlay e w w' x) : PlT e w w' 0 0 0 0 0 x ⟨[], 0, [], [], 0, []⟩ [] :=
  ⟨_, _, _, _, _, h.1, stIn_none w', ⟨none, 0, rfl, Nat.le_refl _, Nat.zero_le _, fun _ _ z => (by cases z)⟩, h.2⟩
/-- Both Plays tell the same. -/
theorem two_plays (d s b : Int) (v : Value) (l : List Sto.Do) (w : World) (hD : Dos w v l) :
    ∃ (x y z g u : Int) (E : Nat) (t : Sto.St) (al : List Sto.Ans), (∀ w', Below w.heap.size w w' → Calls Tryz.prog 4 #[.agg #[.int .i64 d, .int .i64 s, .int .i64 b], v] w' fun e w2 => PlT e w' w2 x y z g u E t al) ∧ ∀ w', Below w.heap.size w w' → Calls Tryz.prog 5 #[.agg #[.int .i64 d, .int .i64 s, .int .i64 b], v] w' fun e w2 => PlT e w' w2 x y z g u E t al := by
  have HD := fun w' (hb : Below w.heap.size w w') => hD.below hb
  by_cases h0 : wrongS d s b = 0
  · by_cases h80 : l.length ≤ 80
    · obtain ⟨c, ed, es, eb, h1, h2, h3, h4, h5⟩ := setup_ok h0
      obtain ⟨X, hX⟩ := Sto.six
      refine ⟨(c.d : Int), (c.s : Int), (c.b : Int), ((Sto.steps X c (Sto.start c) l).1.segs : Int), (Sto.steps X c (Sto.start c) l).1.u, 0, (Sto.steps X c (Sto.start c) l).1, (Sto.steps X c (Sto.start c) l).2, fun w' hb => (playR hX c d s b ed es eb h1 h2 h3 h4 h5 v l w' (HD w' hb) h80).mono ?_, fun w' hb => ?_⟩
      · rintro e w2 ⟨vd, vt, vs, va, vr, rfl, q1, q2, q3, _⟩
        exact ⟨vd, vt, vs, va, vr, rfl, q1, q2, q3⟩
      · rw [ed, es, eb]
        exact (refPlay_ok hX c h1 h2 h3 h4 h5 v l w' (HD w' hb) h80).mono fun e w2 z => z
    · obtain ⟨A, C, rfl, _⟩ := hD
      exact ⟨0, 0, 0, 0, 0, 5, _, _, fun w' _ => (play_many d s b A l.length C w' h0 (by omega)).mono fun e w2 z => plT_none z, fun w' _ => (refPlay_many d s b A l.length C w' h0 (by omega)).mono fun e w2 z => plT_none z⟩
  · obtain ⟨A, C, rfl, _⟩ := hD
    exact ⟨0, 0, 0, 0, 0, wrongS d s b, _, _, fun w' _ => (play_bad d s b A l.length C w' _ rfl h0).mono fun e w2 z => plT_none z, fun w' _ => (refPlay_bad d s b A l.length C w' _ rfl h0).mono fun e w2 z => plT_none z⟩

end Go.Proofs.YtmcaejooaaahdaaGreat

namespace Go.Proofs.YtmcaejooaaahdaaGreat
open Go.ChangeShapes Go.WideShapes Go.ChangeAt Go.RowKit

/-- A list of n numbers. -/
structure Ints (w : World) (v : Value) (n : Nat) (Z : Nat → Int) : Prop where
  lies : ∃ (A : Option Addr) (cap : Nat), v = .slice A n cap ∧ ∀ i, i < n → ∃ b o, A = some ⟨b, o, none⟩ ∧ w.cell? ⟨b, o + i, none⟩ = some (.int .i64 (Z i))

end Go.Proofs.YtmcaejooaaahdaaGreat

namespace Go.Proofs.YtmcaejooaaahdaaGreat
open Go.ChangeShapes Go.WideShapes Go.ChangeAt Go.RowKit

theorem choose_any {α : Type} (a0 : α) {n : Nat} {P : Nat → α → Prop} (h : ∀ i, i < n → ∃ q, P i q) : ∃ q : Nat → α, ∀ i, i < n → P i (q i) :=
  ⟨fun i => if hi : i < n then Classical.choose (h i hi) else a0, fun i hi => by
    simp only [dif_pos hi]
    exact Classical.choose_spec (h i hi)⟩
def do0 : Sto.Do := ⟨0, 0, 0, 0, 0, ⟨0, []⟩, [], 0⟩
theorem list9 {α : Type} {l : List α} (h : l.length = 9) : ∃ c0 c1 c2 c3 c4 c5 c6 c7 c8, l = [c0, c1, c2, c3, c4, c5, c6, c7, c8] := by
  match l, h with
  | [c0, c1, c2, c3, c4, c5, c6, c7, c8], _ => exact ⟨c0, c1, c2, c3, c4, c5, c6, c7, c8, rfl⟩
theorem trod_struct8 {H : Type} {enc : TypeId × Value → H} {P : Program} {w : World} {base : Nat} {spare : Nat → Bool} {held : Bool} {t : TypeId} {f0 f1 f2 f3 f4 f5 f6 f7 : Field} {fuel : Nat} {cs : List Value} {x : DataW H × List MemPlace} (ht : P.underlying t = some (.struct #[f0, f1, f2, f3, f4, f5, f6, f7])) (h : DataW.trod enc P w base spare held fuel t cs = some x) :
    ∃ y0 y1 y2 y3 y4 y5 y6 y7 n, cs.length = P.cellsOf t ∧ DataW.trod enc P w base spare held n f0.type ((cs.drop f0.offset).take (P.cellsOf f0.type)) = some y0 ∧
      DataW.trod enc P w base spare held n f1.type ((cs.drop f1.offset).take (P.cellsOf f1.type)) = some y1 ∧ DataW.trod enc P w base spare held n f2.type ((cs.drop f2.offset).take (P.cellsOf f2.type)) = some y2 ∧
      DataW.trod enc P w base spare held n f3.type ((cs.drop f3.offset).take (P.cellsOf f3.type)) = some y3 ∧ DataW.trod enc P w base spare held n f4.type ((cs.drop f4.offset).take (P.cellsOf f4.type)) = some y4 ∧
      DataW.trod enc P w base spare held n f5.type ((cs.drop f5.offset).take (P.cellsOf f5.type)) = some y5 ∧ DataW.trod enc P w base spare held n f6.type ((cs.drop f6.offset).take (P.cellsOf f6.type)) = some y6 ∧
      DataW.trod enc P w base spare held n f7.type ((cs.drop f7.offset).take (P.cellsOf f7.type)) = some y7 := by
  obtain ⟨xs, n, _, rfl, hl, hlen, hf⟩ := DataW.trod_struct ht h
  match xs, hlen with
  | [y0, y1, y2, y3, y4, y5, y6, y7], _ => exact ⟨y0, y1, y2, y3, y4, y5, y6, y7, n, hl, by simpa using hf 0 f0 rfl, by simpa using hf 1 f1 rfl, by simpa using hf 2 f2 rfl, by simpa using hf 3 f3 rfl, by simpa using hf 4 f4 rfl, by simpa using hf 5 f5 rfl, by simpa using hf 6 f6 rfl, by simpa using hf 7 f7 rfl⟩
theorem byteD_of {H : Type} {enc : TypeId × Value → H} {W : World} {base : Nat} {sp : Nat → Bool} {hd : Bool} {v : Value} {y : DataW H × List MemPlace} {fuel : Nat} (h : DataW.trod enc Tryz.prog W base sp hd fuel 5 [v] = some y) : ∃ n : Nat, n < 256 ∧ v = .int .u8 (n : Int) := by
  obtain ⟨n, e, _, hw⟩ := DataW.trod_int Tryz.underlying5 h
  simp only [List.cons.injEq, and_true] at e
  obtain ⟨b0, b1⟩ := bounds_u8 hw
  exact ⟨n.toNat, by omega, by rw [e, Int.toNat_of_nonneg b0]⟩
theorem intR_of {H : Type} {enc : TypeId × Value → H} {W : World} {base : Nat} {sp : Nat → Bool} {hd : Bool} {v : Value} {y : DataW H × List MemPlace} {fuel : Nat} (h : DataW.trod enc Tryz.prog W base sp hd fuel 3 [v] = some y) : ∃ n, v = .int .i64 n ∧ -9223372036854775808 ≤ n ∧ n ≤ 9223372036854775807 := by
  obtain ⟨n, e, _, hw⟩ := DataW.trod_int Tryz.underlying3 h
  simp only [List.cons.injEq, and_true] at e
  exact ⟨n, e, (bounds_i64 hw).1, (bounds_i64 hw).2⟩
/-- Its numbers are ints. -/
def RngD (d : Sto.Do) : Prop := (-9223372036854775808 ≤ d.n ∧ d.n ≤ 9223372036854775807) ∧ -9223372036854775808 ≤ d.seg ∧ d.seg ≤ 9223372036854775807
set_option maxRecDepth 100000 in
theorem dos_in {H : Type} {enc : TypeId × Value → H} {W : World} {v : Value} {y : DataW H × List MemPlace} {fuel : Nat} (hf : DataW.trod enc Tryz.prog W 0 (fun _ => true) true fuel 24 [v] = some y) : ∃ l, Dos W v l ∧ ∀ d, d ∈ l → RngD d := by
  have ce : Tryz.prog.cellsOf 49 = 9 := by kernel_rfl
  rcases Deep.open_slice Tryz.underlying24 hf with ⟨hcs, _⟩ | ⟨a, len, cap, m, n, D, Pl, hcs, _, hl, hm, hmm, _, hx⟩
  · simp only [List.cons.injEq, and_true] at hcs
    subst hcs
    exact ⟨[], ⟨none, 0, rfl, Nat.le_refl _, Nat.zero_le _, fun i e he => (by cases he)⟩, fun d hd => (by cases hd)⟩
  · simp only [List.cons.injEq, and_true] at hcs
    subst hcs
    simp only [if_true] at hmm
    subst hmm
    have each : ∀ i, i < m → ∃ q : Sto.Do × Value × ByteArray, RngD q.1 ∧ DoIn W q.1 q.2.1 q.2.2 ∧ ∀ j u, (doCells q.1 q.2.1 q.2.2)[j]? = some u → W.cell? (a.add (i * 9 + j)) = some u := by
      intro i hi
      obtain ⟨cs', h1, h2⟩ := hx i hi
      rw [ce] at h1
      obtain ⟨_, hlen, hcell⟩ := World.cells?_some h1
      obtain ⟨y0, y1, y2, y3, y4, y5, y6, y7, k, _, g0, g1, g2, g3, g4, g5, g6, g7⟩ := trod_struct8 Tryz.underlying49 h2
      obtain ⟨v0, v1, v2, v3, v4, v5, v6, v7, v8, rfl⟩ := list9 hlen
      have c3 : Tryz.prog.cellsOf 3 = 1 := by kernel_rfl
      have c4 : Tryz.prog.cellsOf 5 = 1 := by kernel_rfl
      have c5 : Tryz.prog.cellsOf 47 = 2 := by kernel_rfl
      have c6 : Tryz.prog.cellsOf 40 = 1 := by kernel_rfl
      have c9 : Tryz.prog.cellsOf 9 = 1 := by kernel_rfl
      simp [c3, c4, c5, c9] at g0 g1 g2 g3 g4 g5 g6 g7
      obtain ⟨z0, z1, k', _, _, g50, g51⟩ := trod_struct2 Tryz.underlying47 g5
      simp [c3, c6] at g50 g51
      obtain ⟨k0, rfl⟩ := int_of g0
      obtain ⟨k1, rfl, r1⟩ := intR_of g1
      obtain ⟨k2, rfl, r2⟩ := intR_of g2
      obtain ⟨k3, rfl⟩ := int_of g3
      obtain ⟨k4, hk4, rfl⟩ := byteD_of g4
      obtain ⟨k5, rfl⟩ := int_of g50
      obtain ⟨es, hes⟩ := evs_in g51
      obtain ⟨t, rfl, ht⟩ := str_of g6
      obtain ⟨k8, rfl⟩ := int_of g7
      refine ⟨(⟨k0, k1, k2, k3, k4, ⟨k5, es⟩, nb t, k8⟩, v6, t), ⟨r1, r2⟩, ⟨hes, rfl, ht, hk4⟩, fun j u hj => ?_⟩
      have hjl := (List.getElem?_eq_some_iff.1 hj).1
      have := hcell j (by simpa [doCells] using hjl)
      rw [Deep.add_add] at this
      exact this.trans hj
    obtain ⟨q, hq⟩ := choose_any (α := Sto.Do × Value × ByteArray) (do0, .bool false, ByteArray.empty) each
    refine ⟨(List.range len).map fun i => (q i).1, ⟨some a, m, by simp, by simpa using hl, hm, fun i e he => ?_⟩, fun d hd => ?_⟩
    rotate_left
    · obtain ⟨i, hi, rfl⟩ := List.mem_map.1 hd
      have hi := List.mem_range.1 hi
      exact (hq i (by omega)).1
    have hi : i < len := by
      have := (List.getElem?_eq_some_iff.1 he).1
      simpa using this
    simp [hi] at he
    subst he
    obtain ⟨b, o, spot⟩ := a
    have hspot : spot = none := by simpa [Addr.add] using World.cell?_spot ((hq 0 (by omega)).2.2 0 _ rfl)
    subst hspot
    obtain ⟨_, z0, z1⟩ := hq i (by omega)
    refine ⟨b, o, rfl, (q i).2.1, (q i).2.2, z0, fun j u hj => ?_⟩
    have := z1 j u hj
    rw [WideShapes.add_plain] at this
    rw [Nat.add_assoc]
    exact this
theorem dos_of {H : Type} {enc : TypeId × Value → H} {W : World} {a : Option Addr} {len cap : Nat} {d : DataW H} {ps : List MemPlace} (h : DataW.Trod enc Tryz.prog W 0 (fun _ => true) true 24 (.slice a len cap) d ps) : ∃ l, Dos W (.slice a len cap) l ∧ ∀ d, d ∈ l → RngD d := by
  obtain ⟨fuel, hf⟩ := h
  exact dos_in (fuel := fuel) (y := (d, ps)) (by simpa [Value.cells] using hf)
theorem Tryz.cellsSetup : Tryz.prog.cellsOf 23 = 3 := by kernel_rfl
set_option maxRecDepth 100000 in
theorem setup_of {H : Type} {enc : TypeId × Value → H} {W : World} {r : Reach} {b0 : Nat} {v : Value} {d : DataW H} {ps : List MemPlace} (hv : Value.okWide Tryz.prog W r b0 23 v) (h : DataW.Trod enc Tryz.prog W 0 (fun _ => true) true 23 v d ps) :
    ∃ x y z, v = .agg #[.int .i64 x, .int .i64 y, .int .i64 z] := by
  obtain ⟨v0, v1, v2, y0, y1, y2, m, rfl, _, _, t0, t1, t2⟩ := Joins.open_agg3 Tryz.underlying23 (by kernel_rfl) Tryz.cellsSetup hv h
  obtain ⟨s, rfl⟩ := int_of t0
  obtain ⟨k, rfl⟩ := int_of t1
  obtain ⟨n, rfl⟩ := int_of t2
  exact ⟨s, k, n, rfl⟩

end Go.Proofs.YtmcaejooaaahdaaGreat
