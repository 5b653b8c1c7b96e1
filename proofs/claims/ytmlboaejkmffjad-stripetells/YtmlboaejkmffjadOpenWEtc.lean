/-
  Whatever bytes, blocks and numbers there are: what stripe's Lay, Bad, Read and Mend tell is what the document's own text tells. No condition.
-/
import Derived.Test.YtmlboaejkmffjadOpen
import Derived.SizedLaws
import Derived.Test.YtmlboaejkmffjadTBadEtc
import Derived.Test.YtmlboaejkmffjadSBadEtc
import Derived.Test.YtmlboaejkmffjadRows
import Derived.ProofKit
import Derived.OpenShut
import Derived.Carry
namespace Go.Proofs.Ytmlboaejkmffjad
open Go.ChangeShapes Go.WideShapes Go.ChangeAt Go.RowKit Go.Deep

theorem weights_in {H : Type} {P : Program} {e : TypeId} : ∀ {l : List (DataW H)} {d : DataW H}, d ∈ l → ∀ n, n ∈ d.weights P e → n ∈ DataW.weightsAll P e l
  | [], _, h, _, _ => by cases h
  | x :: l, d, h, n, hn => by
    simp only [DataW.weightsAll, List.mem_append]
    rcases List.mem_cons.1 h with rfl | h
    · exact Or.inl hn
    · exact Or.inr (weights_in h n hn)
theorem Try.bytesRow : Try.prog.bytesOf 25 = 24 := by kernel_rfl
theorem Try.bytesByte : Try.prog.bytesOf 5 = 1 := by kernel_rfl

theorem argW_of {H : Type} {enc : TypeId × Value → H} {W : World} {a : Option Addr} {len cap : Nat} {d : DataW H} {ps : List MemPlace} (h : DataW.Trod enc Try.prog W 0 (fun _ => true) true 43 (.slice a len cap) d ps) (hw : ∀ x, x ∈ d.weights Try.prog 43 → x ≤ reachBytes) :
    ∃ L f, Arg W (.slice a len cap) len L f ∧ len * 24 ≤ reachBytes ∧ ∀ r, r < len → L r ≤ reachBytes := by
  obtain ⟨fuel, hf⟩ := h
  rcases Deep.open_int_rows Try.underlying43 Try.underlying25 Try.underlying5 (by kernel_rfl) (by kernel_rfl) hf with ⟨hcs, _⟩ | ⟨x, l, c, A, L, C, Z, hcs, _, hl, hlm, hx, hrow⟩
  · simp [Value.cells] at hcs
    obtain ⟨rfl, rfl, rfl⟩ := hcs
    exact ⟨fun _ => 0, fun _ _ => 0, ⟨fun _ _ => Nat.zero_lt_succ 255, none, 0, fun _ => none, fun _ => 0, rfl, fun r hr => absurd hr (Nat.not_lt_zero r)⟩, Nat.zero_le _, fun r hr => absurd hr (Nat.not_lt_zero r)⟩
  · simp [Value.cells] at hcs
    obtain ⟨rfl, rfl, rfl⟩ := hcs
    simp only [Prod.mk.injEq] at hx
    obtain ⟨rfl, _⟩ := hx
    have hwl : len * 24 ≤ reachBytes := by
      have h5 := hw ((len + (cap - len)) * Try.prog.bytesOf 25) (by simp [DataW.weights, Try.underlying43])
      rw [Try.bytesRow] at h5
      omega
    have hwr : ∀ r, r < len → L r ≤ reachBytes := fun r hr => by
      obtain ⟨_, z2, _, z4, _, z6, _⟩ := hrow r (by omega)
      cases hA : A r with
      | none =>
        have := z6 hA
        omega
      | some y =>
        have h5 := hw (((lits (H := H) .u8 ((Z r).take (L r))).length + (lits (H := H) .u8 ((Z r).drop (L r))).length) * Try.prog.bytesOf 5) (by
          have h6 : intRow (H := H) .u8 (A r) (L r) (Z r) ∈ (List.range len).map fun r => intRow (H := H) .u8 (A r) (L r) (Z r) := List.mem_map.2 ⟨r, List.mem_range.2 hr, rfl⟩
          have h7 := weights_in (P := Try.prog) (e := 25) h6 (((lits (H := H) .u8 ((Z r).take (L r))).length + (lits (H := H) .u8 ((Z r).drop (L r))).length) * Try.prog.bytesOf 5) (by rw [hA]; simp [intRow, DataW.weights, Try.underlying25])
          simp only [DataW.weights, Try.underlying43]
          exact List.mem_cons_of_mem _ (List.mem_append_left _ h7))
        rw [Try.bytesByte] at h5
        simp [lits] at h5
        omega
    have hz : ∀ r, r < cap → ∀ k, k < C r → ∃ m : Nat, m < 256 ∧ (Z r).getD k 0 = (m : Int) := fun r hr k hk => by
      obtain ⟨_, _, _, z4, z5, _, _⟩ := hrow r hr
      have hm : (Z r).getD k 0 ∈ Z r := by
        have : k < (Z r).length := by omega
        simp [List.getD, this]
      obtain ⟨b0, b1⟩ := bounds_u8 (z5 _ hm)
      exact ⟨((Z r).getD k 0).toNat, by omega, by omega⟩
    refine ⟨L, fun r k => if r < cap ∧ k < C r then ((Z r).getD k 0).toNat else 0, ⟨fun r k => ?_, some x, cap, A, C, rfl, fun r hr => ?_⟩, hwl, hwr⟩
    · show (if r < cap ∧ k < C r then ((Z r).getD k 0).toNat else 0) < 256
      split
      · rename_i h
        obtain ⟨m, hm, e⟩ := hz r h.1 k h.2
        rw [e]
        omega
      · omega
    · obtain ⟨z1, z2, _, _, _, _, z7⟩ := hrow r (by omega)
      obtain ⟨b, o, spot⟩ := x
      have hspot : spot = none := by simpa [Addr.add] using World.cell?_spot (hrow 0 (by omega)).1
      subst hspot
      refine ⟨b, o, rfl, ?_, fun k hk => ?_⟩
      · rw [← WideShapes.add_plain]
        exact z1
      · cases hA : A r with
        | none =>
          have := (hrow r (by omega)).2.2.2.2.2.1 hA
          omega
        | some y =>
          obtain ⟨_, y2⟩ := z7 y hA
          obtain ⟨b', o', sp⟩ := y
          have hs : sp = none := by simpa [Addr.add] using World.cell?_spot (y2 0 (by omega))
          subst hs
          refine ⟨b', o', rfl, ?_⟩
          rw [← WideShapes.add_plain, y2 k (by omega)]
          obtain ⟨m, _, e⟩ := hz r (by omega) k (by omega)
          rw [if_pos ⟨by omega, by omega⟩, e]
          rfl

end Go.Proofs.Ytmlboaejkmffjad

namespace Go.Proofs.Ytmlboaejkmffjad
open Go.RowKit

theorem LayO.below {w w' : World} {E : Nat} {v : Value} {N m : Nat} {F : Nat → Nat → Nat} (h : LayO w E v N m F) (hb : Below w.heap.size w w') : LayO w' E v N m F := h.imp (fun h => ⟨h.1, h.2.below hb⟩) id
theorem ReadO.below {w w' : World} {E : Nat} {v : Value} {n N z : Nat} {L : Nat → Nat} {f : Nat → Nat → Nat} (h : ReadO w E v n N L f z) (hb : Below w.heap.size w w') : ReadO w' E v n N L f z := h.imp (fun ⟨h1, r, h2, h3, h4⟩ => ⟨h1, r, h2, h3, h4.below hb⟩) id
theorem same_lay (v v' : Value) (E N m : Nat) (F G : Nat → Nat → Nat) (w : World) (hx : LayO w E v N m F) (hy : LayO w E v' N m G) (he : E = 0 → F = G) :
    Calls Try.prog 23 #[v, v'] w fun e w' => e = .returned (.bool true) ∧ Below w.heap.size w w' := by
  rcases hx with ⟨h1, hx⟩ | ⟨h1, rfl⟩
  · rcases hy with ⟨h2, hy⟩ | ⟨h2, _⟩
    · exact same_lls v v' N _ F G w hx hy (fun r _ k _ => by rw [he h1])
    · exact absurd h1 h2
  · rcases hy with ⟨h2, _⟩ | ⟨h2, rfl⟩
    · exact absurd h2 h1
    · exact same_none w
theorem mend_one {n : Nat} {M r r' X : Nat → Nat → Nat} (hM : Gf.Bd2 M) (hr : Gf.Bd2 r) (hr' : Gf.Bd2 r') (h : Gf.Und n M r) (h' : Gf.Und n M r') (i k : Nat) : Gf.mm n (Gf.rowF n) (Gf.mm n r X) i k = Gf.mm n (Gf.rowF n) (Gf.mm n r' X) i k :=
  Gf.mm_congr (fun _ _ => rfl) (fun j hj => Gf.mm_congr (fun p hp => Gf.Und.uniq hM hr hr' h h' j p hj hp) (fun _ _ => rfl))
/-- What is read, as a string. -/
theorem read_conv {w : World} {E : Nat} {v v' : Value} {n N z : Nat} {L : Nat → Nat} {f : Nat → Nat → Nat} (h : ReadO w E v n N L f z) (h' : ReadO w E v' n N L f z) :
    ∃ S, (convert 25 9 v).run Try.prog w = .ok (.string S) w ∧ (convert 25 9 v').run Try.prog w = .ok (.string S) w := by
  rcases h with ⟨h1, r, r1, r2, hy⟩ | ⟨h1, rfl⟩
  · rcases h' with ⟨h2, r', r1', r2', hy'⟩ | ⟨h2, _⟩
    · refine ⟨_, conv_any hy, ?_⟩
      rw [conv_any hy', strB_congr (fun k _ => mend_one (fun p => Gf.rowF_bd n _) r1' r1 r2' r2 (X := fun p => f (thr L N p)) _ _)]
    · exact absurd h1 h2
  · rcases h' with ⟨h2, _⟩ | ⟨h2, rfl⟩
    · exact absurd h2 h1
    · exact ⟨_, conv_zero w none 0, conv_zero w none 0⟩
/-- The number that Mend tells. -/
def smendE (seg d : Int) (N : Nat) (L : Nat → Nat) (g : Nat → Nat → Nat) : Nat := if readE seg d N L g ≠ 0 then readE seg d N L g else Seg.layE (Seg.rz g (thr (Seg.rl seg L g) N 0)) seg d ((N : Int) - d)
/-- What Mend tells, in one sentence. -/
def SMendO (seg d : Int) (N : Nat) (L : Nat → Nat) (g : Nat → Nat → Nat) (w : World) (v : Value) : Prop :=
  ∃ r, (readE seg d N L g = 0 → Gf.Bd2 r ∧ Gf.Und d.toNat (fun p => Gf.rowF d.toNat (thr (Seg.rl seg L g) N p)) r) ∧ LayO w (smendE seg d N L g) v (d.toNat + ((N : Int) - d).toNat) (Seg.layN (Seg.rz g (thr (Seg.rl seg L g) N 0)) d.toNat + 11) (Seg.blk (readF d.toNat N (Seg.rl seg L g) (Seg.rf g) r) (Seg.rz g (thr (Seg.rl seg L g) N 0)) seg.toNat d.toNat)
theorem SMendO.below {seg d : Int} {N : Nat} {L : Nat → Nat} {g : Nat → Nat → Nat} {w w' : World} {v : Value} (h : SMendO seg d N L g w v) (hb : Below w.heap.size w w') : SMendO seg d N L g w' v := by
  obtain ⟨r, h1, h2⟩ := h
  exact ⟨r, h1, h2.below hb⟩
theorem smend_one {seg d : Int} {N : Nat} {L : Nat → Nat} {g : Nat → Nat → Nat} {e : Ending} {w : World} (h : SMendP seg d N L g e w) : ∃ v, e = .returned (.tuple #[v, .int .i64 (smendE seg d N L g : Nat)]) ∧ SMendO seg d N L g w v := by
  rcases h with ⟨h1, rfl⟩ | ⟨h1, v, r, r1, r2, rfl, hl⟩
  · have e : smendE seg d N L g = readE seg d N L g := if_pos h1
    exact ⟨_, by rw [e], fun _ _ => 0, fun q => absurd q h1, Or.inr ⟨by rw [e]; exact h1, rfl⟩⟩
  · have e : smendE seg d N L g = Seg.layE (Seg.rz g (thr (Seg.rl seg L g) N 0)) seg d ((N : Int) - d) := if_neg (fun q => q h1)
    exact ⟨v, by rw [e], r, fun _ => ⟨r1, r2⟩, by rw [e]; exact hl⟩
theorem same_mend (v v' : Value) (seg d : Int) (N : Nat) (L : Nat → Nat) (g : Nat → Nat → Nat) (w : World) (hx : SMendO seg d N L g w v) (hy : SMendO seg d N L g w v') :
    Calls Try.prog 23 #[v, v'] w fun e w' => e = .returned (.bool true) ∧ Below w.heap.size w w' := by
  obtain ⟨r, h1, hx⟩ := hx
  obtain ⟨r', h1', hy⟩ := hy
  refine same_lay v v' _ _ _ _ _ w hx hy (fun h0 => blk_congr (fun k _ => ?_))
  have hE : readE seg d N L g = 0 := Classical.byContradiction fun q => by
    rw [show smendE seg d N L g = readE seg d N L g from if_pos q] at h0
    exact q h0
  obtain ⟨r1, r2⟩ := h1 hE
  obtain ⟨r1', r2'⟩ := h1' hE
  exact mend_one (fun p => Gf.rowF_bd _ _) r1 r1' r2 r2' (X := fun p => Seg.rf g (thr (Seg.rl seg L g) N p)) _ _

end Go.Proofs.Ytmlboaejkmffjad

namespace Go.Proofs.Ytmlboaejkmffjad.stripeTells
open Go.ChangeShapes Go.WideShapes Go.ChangeAt Go.RowKit
set_option linter.unusedVariables false

theorem own : ownKnob Try.prog.godebug = none := by kernel_rfl

set_option maxHeartbeats 1000000 in
set_option maxRecDepth 100000 in
theorem walk (w : World) (v0 : Value) (n0 : Nat) (f0 : Nat → Nat) (g0 : Byts w v0 n0 f0) (v1 : Value) (N : Nat) (L : Nat → Nat) (g : Nat → Nat → Nat) (g1 : Lls w v1 N L g) (z1 : N * 24 ≤ reachBytes) (seg : Int) (_ : (Lit.int .i64 seg).wf = true) (d : Int) (_ : (Lit.int .i64 d).wf = true) (s : Int) (_ : (Lit.int .i64 s).wf = true) :
    Calls Try.prog 6 #[v0, v1, .int .i64 seg, .int .i64 d, .int .i64 s] w fun e w' => e = .returned (.bool true) ∧ Below w.heap.size w w' := by
  have hN8 : (N + 1) * 8 ≤ 140737488355328 := by
    unfold reachBytes at z1
    omega
  have H1 := fun w' (hb : Below w.heap.size w w') => lay_any v0 n0 f0 seg d s w' (g0.below hb)
  have H2 := fun w' (hb : Below w.heap.size w w') => refLay_any v0 n0 f0 seg d s w' (g0.below hb)
  have H3 := fun w' (hb : Below w.heap.size w w') => bad_any v1 N L g seg w' (g1.below hb) hN8
  have H4 := fun w' (hb : Below w.heap.size w w') => refBad_any v1 N L g seg w' (g1.below hb) hN8
  have H5 := fun w' (hb : Below w.heap.size w w') => read_any v1 N L g seg d w' (g1.below hb)
  have H6 := fun w' (hb : Below w.heap.size w w') => refRead_any v1 N L g seg d w' (g1.below hb)
  have H7 := fun w' (hb : Below w.heap.size w w') => smend_any v1 N L g seg d w' (g1.below hb)
  have H8 := fun w' (hb : Below w.heap.size w w') => refSMend_any v1 N L g seg d w' (g1.below hb)
  have hbl := badL_len seg L g N
  generalize Seg.badL seg L g N = l at H3 H4 hbl
  generalize Seg.layE n0 seg d s = E0 at H1 H2
  generalize readE seg d N L g = E1 at H5 H6
  obtain ⟨A1, C1, rfl⟩ := g1.shape
  obtain ⟨A0, C0, rfl⟩ := g0.shape
  clear g0 g1 z1
  go_enter Try.func6, Try.ntmps6
  go_wp2_with fail
  refine (H1 _ (Below.refl _ _)).mono ?_
  rintro e u1 ⟨x1, rfl, o1, b1⟩
  go_wp2_with fail
  refine (H2 _ b1).mono ?_
  rintro e u2 ⟨x2, rfl, o2, b2⟩
  have o1 := o1.below b2
  have b2 := bt b1 b2
  have HS := same_lay x1 x2 E0 _ _ _ _ u2 o1 o2 (fun _ => rfl)
  clear H1 H2 o1 o2 b1
  go_wp2_with fail
  refine HS.mono ?_
  rintro e u3 ⟨rfl, b3⟩
  have b3 := bt b2 b3
  clear HS b2
  go_wp2_with fail
  refine (H3 _ b3).mono ?_
  rintro e u4 ⟨x4, rfl, o4, b4⟩
  have b4 := bt b3 b4
  go_wp2_with fail
  refine (H4 _ b4).mono ?_
  rintro e u5 ⟨x5, rfl, o5, b5⟩
  have o4 := o4.below b5
  have b5 := bt b4 b5
  obtain ⟨A4, C4, rfl, c4⟩ := nums_cells o4
  obtain ⟨A5, C5, rfl, c5⟩ := nums_cells o5
  have HC4 : Hid (∀ W, Below u5.heap.size u5 W → ∀ r, r < l.length → ∃ b o, A4 = some ⟨b, o, none⟩ ∧ W.cell? ⟨b, o + r, none⟩ = some (.int .i64 ((l.getD r 0 : Nat) : Int))) := fun W hW r hr => by
    obtain ⟨b, o, e1, e2⟩ := c4 r hr
    exact ⟨b, o, e1, (hW.cell (p := ⟨b, o + r, none⟩) (World.block_lt_of_cell? _ _ e2)).trans e2⟩
  have HC5 : Hid (∀ W, Below u5.heap.size u5 W → ∀ r, r < l.length → ∃ b o, A5 = some ⟨b, o, none⟩ ∧ W.cell? ⟨b, o + r, none⟩ = some (.int .i64 ((l.getD r 0 : Nat) : Int))) := fun W hW r hr => by
    obtain ⟨b, o, e1, e2⟩ := c5 r hr
    exact ⟨b, o, e1, (hW.cell (p := ⟨b, o + r, none⟩) (World.block_lt_of_cell? _ _ e2)).trans e2⟩
  have hl9 : (l.length : Int) ≤ 9223372036854775806 := by omega
  clear H3 H4 c4 c5 o4 o5 b3 b4
  go_wp2_with fail
  go_loopw [58] (fun i wr => ∃ k : Nat, k ≤ l.length ∧ i = .int .i64 k ∧ Below u5.heap.size u5 wr) (fun i _ => l.length - (intOf i).toNat)
  case atStart => exact ⟨0, Nat.zero_le _, rfl, Below.refl _ _⟩
  case round =>
    obtain ⟨k, hk, rfl, hb⟩ := hrel
    by_cases hlt : k < l.length
    · have hlt' : (k : Int) < (l.length : Int) := by omega
      obtain ⟨b, o, rfl, t1⟩ := HC4.out wr hb k hlt
      obtain ⟨b', o', rfl, t2⟩ := HC5.out wr hb k hlt
      generalize l.getD k 0 = x at t1 t2
      go_wp2_with fail
      go_region
      all_goals go_wp2_with fail
      all_goals exact ⟨⟨k + 1, by omega, by go_num, hb.drew⟩, by simp [intOf]; omega⟩
    · obtain rfl : k = l.length := by omega
      have b6 := bt b5 hb
      clear HC4 HC5
      go_wp2_with fail
      refine (H5 _ b6).mono ?_
      rintro e u7 ⟨x7, rfl, o7, b7⟩
      have b7 := bt b6 b7
      go_wp2_with fail
      refine (H6 _ b7).mono ?_
      rintro e u8 ⟨x8, rfl, o8, b8⟩
      have o7 := o7.below b8
      have b8 := bt b7 b8
      obtain ⟨S, q7, q8⟩ := read_conv o7 o8
      clear H5 H6 o7 o8 b7 b6 b5 hb
      go_wp2_with fail
      refine (H7 _ b8).mono ?_
      rintro e u9 ⟨p9, b9⟩
      obtain ⟨x9, rfl, o9⟩ := smend_one p9
      have b9 := bt b8 b9
      clear q7 q8 p9
      go_wp2_with fail
      refine (H8 _ b9).mono ?_
      rintro e u10 ⟨p10, b10⟩
      obtain ⟨x10, rfl, o10⟩ := smend_one p10
      have HS := same_mend x9 x10 seg d N L g u10 (o9.below b10) o10
      have b10 := bt b9 b10
      clear H7 H8 o9 o10 b8 b9 p10
      go_wp2_with fail
      refine HS.mono ?_
      rintro e u11 ⟨rfl, b11⟩
      have b11 := bt b10 b11
      go_wp2_with fail
      go_ret
      exact ⟨rfl, b11⟩

set_option maxRecDepth 100000 in
theorem lifted (os : Os) (started : os.Started) (H : Type) (enc : TypeId × Value → H) :
    ReturnsInHanded {} Try.checked os 6 .any (Rows.stripeTellsSpec.pre6 enc Try.prog Try.f6 Rows.stripeTellsRow.domain false) (Rows.stripeTellsSpec.post enc Try.prog Try.f6 false true false false) := by
  refine returnsInHanded_of_change_sized (C := Try.checked) own started (by kernel_rfl) Try.func6
    (ChangeSpec.witness6 (enc := enc) (C := Try.checked) false ⟨#[], #[.slice none 0 0, .slice none 0 0, .int .i64 0, .int .i64 0, .int .i64 0], []⟩ 8 (by kernel_rfl) (by kernel_rfl) (by kernel_rfl) (by kernel_rfl)) ?_
  intro W base args ds gs before hval0 hW hcnd hsz _
  have hval : ∀ (j : Nat) t v, Try.f6.params[j]? = some t → args[j]? = some v → Value.okWide Try.prog W .any base t v := hval0
  have hW' := hW
  obtain ⟨p, q, hA0, hV, rfl, hfz, hnd⟩ := hW
  have hA : DataW.TrodAll enc Try.prog W 0 (fun _ => true) true Try.f6.params.toList args.toList ds p := hA0
  rw [Try.params6] at hA hval hsz
  obtain ⟨v0, vs0, d0, ds0, p0, q0, hargs, rfl, rfl, h0, r0⟩ := trodAll_cons hA
  obtain ⟨v1, vs1, d1, ds1, p1, q1, rfl, rfl, rfl, h1, r1⟩ := trodAll_cons r0
  obtain ⟨v2, vs2, d2, ds2, p2, q2, rfl, rfl, rfl, h2, r2⟩ := trodAll_cons r1
  obtain ⟨v3, vs3, d3, ds3, p3, q3, rfl, rfl, rfl, h3, r3⟩ := trodAll_cons r2
  obtain ⟨v4, vs4, d4, ds4, p4, q4, rfl, rfl, rfl, h4, r4⟩ := trodAll_cons r3
  obtain ⟨rfl, rfl, rfl⟩ := trodAll_nil r4
  obtain rfl : args = #[v0, v1, v2, v3, v4] := by cases args; simp_all
  obtain ⟨rfl, rfl⟩ := trodVars_none hV
  obtain ⟨a0, l0, c0, rfl⟩ := okWide_slice Try.underlying25 (hval 0 25 v0 rfl rfl)
  have k0 := h0
  have lt0 : ∀ x ∈ p0, x.block < W.heap.size := by obtain ⟨m, hm⟩ := k0; exact DataW.trod_lt m _ _ _ hm
  obtain ⟨f0, g0⟩ := byt_of h0
  obtain ⟨a1, l1, c1, rfl⟩ := okWide_slice Try.underlying43 (hval 1 43 v1 rfl rfl)
  have k1 := h1
  have lt1 : ∀ x ∈ p1, x.block < W.heap.size := by obtain ⟨m, hm⟩ := k1; exact DataW.trod_lt m _ _ _ hm
  obtain ⟨L1, f1, g1⟩ := lls_of h1
  obtain ⟨_, _, _, z1, _⟩ := argW_of h1 (fun x hx => by simpa using List.all_eq_true.1 hsz x (DataW.weights_mem_each (j := 1) rfl rfl x hx))
  obtain ⟨a2, rfl, rfl, rfl, g2⟩ := open_int Try.underlying3 (hval 2 3 v2 rfl rfl) h2
  obtain ⟨a3, rfl, rfl, rfl, g3⟩ := open_int Try.underlying3 (hval 3 3 v3 rfl rfl) h3
  obtain ⟨a4, rfl, rfl, rfl, g4⟩ := open_int Try.underlying3 (hval 4 3 v4 rfl rfl) h4
  clear hA0 hval0
  refine (walk W _ _ _ g0 _ _ L1 f1 g1 z1 a2 g2 a3 g3 a4 g4).mono fun e W' ⟨he, bel⟩ => ?_
  subst he
  exact ⟨_, rfl, _, _, _, [], _, [], hW', trodAll_mk1 (shut_bool Try.underlying4 _), (trodAll_cons_mk (Below.trod Try.laidOut (by kernel_rfl) (of_decide_eq_true (by kernel_rfl)) k0 bel lt0) (trodAll_cons_mk (Below.trod Try.laidOut (by kernel_rfl) (of_decide_eq_true (by kernel_rfl)) k1 bel lt1) (trodAll_cons_mk (shut_int Try.underlying3 g2) (trodAll_cons_mk (shut_int Try.underlying3 g3) (trodAll_cons_mk (shut_int Try.underlying3 g4) trodAll_mk0))))), rfl, bel.frame _, fun h => by cases h⟩

theorem over : Rows.stripeTellsRow.holds Try.pinned (OpenSpec.ofChange Rows.stripeTellsSpec) :=
  OpenClaim.holds_of_wide 6 Try.f6 rfl rfl rfl rfl rfl rfl rfl ⟨rfl, rfl, rfl, rfl, rfl⟩ rfl rfl rfl rfl rfl (by kernel_rfl) Try.func6 (by kernel_rfl)
    (of_decide_eq_true (by kernel_rfl)) (by unfold Func.isWrapper; first | (rw [if_pos (by decide +kernel)]; kernel_rfl) | (rw [if_neg (by decide +kernel)]; exact ⟨rfl, rfl⟩))
    (fun os started H enc _ => lifted os started H enc)
end Go.Proofs.Ytmlboaejkmffjad.stripeTells

namespace Go.Proofs.Ytmlboaejkmffjad
theorem stripeTells_holds : Rows.StripeTellsSaid := stripeTells.over
#print axioms stripeTells_holds
end Go.Proofs.Ytmlboaejkmffjad
