/-
  Whatever bytes are laid out, and whichever of the blocks are gone or have a byte turned: where they are no more than there are spare ones the bytes are read, and the blocks mended to be as they were; where they are more that is said. No condition.
-/
import Derived.Test.YtmlboaejkmffjadTMends
import Derived.Test.YtmlboaejkmffjadTMend
import Derived.Test.YtmlboaejkmffjadSSame
import Derived.Test.YtmlboaejkmffjadRows
import Derived.ProofKit
import Derived.OpenShut
import Derived.Carry
namespace Go.Proofs.Ytmlboaejkmffjad
open Go.RowKit

/-- No more are struck than there are spare ones: it is read as it was laid. -/
theorem read_back {w : World} {v : Value} {r : Nat → Nat} {L seg d s : Nat} {M : Nat → Bool} {Ls : Nat → Nat} {g : Nat → Nat → Nat} (h : Hurt r L seg d s M Ls g) (h1 : 1 ≤ d) (h2 : d ≤ 8) (h3 : s ≤ 4) (h4 : seg ≤ 39) (h5 : L ≤ 400 * d) (hc : cnt M (d + s) ≤ s) (hr : ∀ k, r k < 256)
    (hO : ReadO w (readE seg d (d + s) Ls g) v (d : Int).toNat (d + s) (Seg.rl seg Ls g) (Seg.rf g) (Seg.rz g (thr (Seg.rl seg Ls g) (d + s) 0))) : Byts w v L r := by
  obtain ⟨q1, q2, q3⟩ := read_kept h h1 h2 h3 h4 h5 hc hr
  rw [q1, q2, Int.toNat_natCast] at hO
  rcases hO with ⟨_, r', r1, r2, bd, A', C', hv, e1, e2, hcell⟩ | ⟨q, _⟩
  · refine ⟨hr, A', C', hv, e1, e2, fun k hk => ?_⟩
    obtain ⟨b', o', e3, e4⟩ := hcell k hk
    refine ⟨b', o', e3, ?_⟩
    rw [e4, ← q3 r' r1 r2 k hk]
    rfl
  · exact absurd rfl q
/-- And mended to be as it was. -/
theorem mend_back {e : Ending} {w : World} {r : Nat → Nat} {L seg d s : Nat} {M : Nat → Bool} {Ls : Nat → Nat} {g : Nat → Nat → Nat} (h : Hurt r L seg d s M Ls g) (h1 : 1 ≤ d) (h2 : d ≤ 8) (h3 : s ≤ 4) (h4 : seg ≤ 39) (h5 : L ≤ 400 * d) (hc : cnt M (d + s) ≤ s) (hr : ∀ k, r k < 256)
    (hP : SMendP seg d (d + s) Ls g e w) : ∃ v, e = .returned (.tuple #[v, .int .i64 0]) ∧ Lls w v (d + s) (fun _ => Seg.layN L d + 11) (Seg.blk r L seg d) := by
  obtain ⟨q1, q2, q3⟩ := read_kept h h1 h2 h3 h4 h5 hc hr
  rcases hP with ⟨q, _⟩ | ⟨_, v, r', r1, r2, rfl, hl⟩
  · exact absurd q1 q
  · have e1 : ((d + s : Nat) : Int) - (d : Int) = ((s : Nat) : Int) := by omega
    have e2 : Seg.layE L (seg : Int) (d : Int) (s : Int) = 0 := layE_ok h1 h2 h3 h4 h5
    rw [q2, e1, e2, Int.toNat_natCast, Int.toNat_natCast, Int.toNat_natCast] at hl
    rw [q2, e1, e2]
    refine ⟨v, rfl, ?_⟩
    rcases hl with ⟨_, hl⟩ | ⟨q, _⟩
    · rw [Int.toNat_natCast] at r2
      rw [blk_congr (r := r) (r' := readF d (d + s) (Seg.rl seg Ls g) (Seg.rf g) r') (fun k hk => (q3 r' r1 r2 k hk).symm)]
      exact hl
    · exact absurd rfl q
/-- More are struck: that is told. -/
theorem mend_lost_told {e : Ending} {w : World} {r : Nat → Nat} {L seg d s : Nat} {M : Nat → Bool} {Ls : Nat → Nat} {g : Nat → Nat → Nat} (h : Hurt r L seg d s M Ls g) (h1 : 1 ≤ d) (h2 : d ≤ 8) (h3 : s ≤ 4) (h4 : seg ≤ 39) (h5 : L ≤ 400 * d) (hc : s < cnt M (d + s))
    (hP : SMendP seg d (d + s) Ls g e w) : e = .returned (.tuple #[.slice none 0 0, .int .i64 10]) := by
  have q := read_lost h h1 h2 h3 h4 h5 hc
  rcases hP with ⟨_, rfl⟩ | ⟨q0, _⟩
  · rw [q]
    rfl
  · rw [q] at q0
    cases q0

end Go.Proofs.Ytmlboaejkmffjad

namespace Go.Proofs.Ytmlboaejkmffjad.stripeMends
open Go.ChangeShapes Go.WideShapes Go.ChangeAt Go.RowKit
set_option linter.unusedVariables false

theorem own : ownKnob Try.prog.godebug = none := by kernel_rfl

set_option maxHeartbeats 400000 in
set_option maxRecDepth 100000 in
theorem early (w : World) (v0 : Value) (n0 : Nat) (f0 : Nat → Nat) (g0 : Byts w v0 n0 f0) (seg d s : Int) (vh : Value) (hE : Seg.layE n0 seg d s ≠ 0) :
    Calls Try.prog 7 #[v0, .int .i64 seg, .int .i64 d, .int .i64 s, vh] w fun e w' => e = .returned (.bool true) ∧ Below w.heap.size w w' := by
  have H1 := fun w' (hb : Below w.heap.size w w') => lay_any v0 n0 f0 seg d s w' (g0.below hb)
  have hx' : (((Seg.layE n0 seg d s : Nat) : Int) == 0) = false := by rw [beq_eq_false_iff_ne]; omega
  have hxn : (((Seg.layE n0 seg d s : Nat) : Int) != 0) = true := by rw [bne, hx']; rfl
  generalize Seg.layE n0 seg d s = E at H1 hx' hxn hE
  obtain ⟨A0, C0, rfl⟩ := g0.shape
  clear g0
  go_enter Try.func7, Try.ntmps7
  go_wp2_with fail
  refine (alive6_any _).mono ?_
  rintro e u1 ⟨rfl, b1⟩
  go_wp2_with fail
  refine (H1 _ b1).mono ?_
  rintro e u2 ⟨x2, rfl, o2, b2⟩
  obtain rfl : x2 = .slice none 0 0 := by
    rcases o2 with ⟨q, _⟩ | ⟨_, q⟩
    · exact absurd q hE
    · exact q
  have b2 := bt b1 b2
  clear H1 o2 hE
  go_wp2_with fail
  go_ret
  exact ⟨rfl, b2⟩

set_option maxHeartbeats 1000000 in
set_option maxRecDepth 100000 in
theorem main (w : World) (v0 : Value) (n0 : Nat) (f0 : Nat → Nat) (g0 : Byts w v0 n0 f0) (seg d s : Nat) (vh : Value) (K : Nat) (X : Nat → Int × Int × Nat) (gh : Harms w vh K X) (h1 : 1 ≤ d) (h2 : d ≤ 8) (h3 : s ≤ 4) (h4 : seg ≤ 39) (h5 : n0 ≤ 400 * d) :
    Calls Try.prog 7 #[v0, .int .i64 (seg : Int), .int .i64 (d : Int), .int .i64 (s : Int), vh] w fun e w' => e = .returned (.bool true) ∧ Below w.heap.size w w' := by
  have H1 := fun w' (hb : Below w.heap.size w w') => lay_ok v0 n0 f0 seg d s w' (g0.below hb) h1 h2 h3 h4 h5
  have n1 := Seg.layN_pos n0 d h1
  have n2 := Seg.layN_le h1 h5
  have HBD : Hid (Gf.Bd2 (Seg.blk f0 n0 seg d)) := Seg.blk_bd h1 h5 h4 h2
  have HHH : Hid (∀ w', Below w.heap.size w w' → Harms w' vh K X) := fun w' hb => gh.below hb
  have HG0 : Hid (∀ w', Below w.heap.size w w' → Byts w' v0 n0 f0) := fun w' hb => g0.below hb
  have HF0 : Hid (∀ k, f0 k < 256) := g0.bd
  have H5 : Hid (n0 ≤ 400 * d) := h5
  obtain ⟨A0, C0, rfl⟩ := g0.shape
  obtain ⟨Ah, Ch, rfl⟩ := gh.shape
  clear g0 gh h5
  go_enter Try.func7, Try.ntmps7
  go_wp2_with fail
  refine (alive6_any _).mono ?_
  rintro e u1 ⟨rfl, b1⟩
  go_wp2_with fail
  refine (H1 _ b1).mono ?_
  rintro e u2 ⟨x2, U2, rfl, P2, b2⟩
  have b2 := bt b1 b2
  have LL := P2.lls HBD.out
  have HH := hurt_any x2 _ (d + s) (Seg.layN n0 d + 11) K _ X u2 LL (HHH.out u2 b2) (by omega) (by omega) (by omega) (by omega)
  have HLL : Hid (∀ w', Below u2.heap.size u2 w' → Lls w' x2 (d + s) (fun _ => Seg.layN n0 d + 11) (Seg.blk f0 n0 seg d)) := fun w' hb => LL.below hb
  obtain ⟨A2, C2, rfl⟩ := LL.shape
  clear P2 H1 LL HHH
  go_wp2_with fail
  refine HH.mono ?_
  rintro e u3 ⟨v3, bm, M, Ls, g', rfl, L3, D3, hok, hbad, b3⟩
  have hrel := hurt_rel h1 h2 h3 h4 H5.out L3.bd hok hbad
  have HREL : Hid (Hurt f0 n0 seg d s M Ls g') := hrel
  have HR := read_any v3 (d + s) Ls g' (seg : Int) (d : Int) u3 L3
  have HM := fun w' (hb : Below u3.heap.size u3 w') => smend_any v3 (d + s) Ls g' (seg : Int) (d : Int) w' (L3.below hb)
  obtain ⟨A3, C3, rfl⟩ := L3.shape
  clear HH hok hbad hrel L3
  by_cases hc : s < cnt M (d + s)
  · have hE := read_lost HREL.out h1 h2 h3 h4 H5.out hc
    rw [hE] at HR
    go_wp2_with fail
    refine HR.mono ?_
    rintro e u4 ⟨v4, rfl, _, b4⟩
    clear HR
    go_wp2_with fail
    refine (HM _ b4).mono ?_
    rintro e u5 ⟨o5, b5⟩
    obtain rfl := mend_lost_told HREL.out h1 h2 h3 h4 H5.out hc o5
    have hlen := fun ty => ((D3.below b4).below b5).len ty
    have bz := bt (bt b2 b3) (bt b4 b5)
    have hc' : (s : Int) < ((cnt M (d + s) : Nat) : Int) := by omega
    clear HM o5 hE
    go_wp2_with fail
    go_ret
    exact ⟨rfl, bz⟩
  · have hc2 : cnt M (d + s) ≤ s := by omega
    have hE := (read_kept HREL.out h1 h2 h3 h4 H5.out hc2 HF0.out).1
    have HRB : Hid (∀ w v, ReadO w (readE seg d (d + s) Ls g') v (d : Int).toNat (d + s) (Seg.rl seg Ls g') (Seg.rf g') (Seg.rz g' (thr (Seg.rl seg Ls g') (d + s) 0)) → Byts w v n0 f0) := fun w v hO => read_back HREL.out h1 h2 h3 h4 H5.out hc2 HF0.out hO
    have HE : Hid (readE seg d (d + s) Ls g' = 0) := hE
    go_wp2_with fail
    refine HR.mono ?_
    rintro e u4 ⟨v4, rfl, o4, b4⟩
    have y4 := HRB.out u4 v4 o4
    obtain ⟨A4, C4, rfl⟩ := y4.shape
    rw [HE.out]
    clear HR o4 hE
    go_wp2_with fail
    refine (HM _ b4).mono ?_
    rintro e u5 ⟨o5, b5⟩
    obtain ⟨v5, rfl, L5⟩ := mend_back HREL.out h1 h2 h3 h4 H5.out hc2 HF0.out o5
    have hlen := fun ty => ((D3.below b4).below b5).len ty
    have bz := bt (bt b2 b3) (bt b4 b5)
    have hc' : ¬ (s : Int) < ((cnt M (d + s) : Nat) : Int) := by omega
    have q1 := conv_any (y4.below b5)
    have q2 := conv_any (HG0.out u5 bz)
    have HS := same_lls v5 _ (d + s) _ _ _ u5 L5 (HLL.out u5 (bt b3 (bt b4 b5))) (fun _ _ _ _ => rfl)
    generalize strB f0 n0 = S at q1 q2
    obtain ⟨A5, C5, rfl⟩ := L5.shape
    clear HM o5 L5 y4
    go_wp2_with fail
    refine HS.mono ?_
    rintro e u6 ⟨rfl, b6⟩
    have b6 := bt bz b6
    go_wp2_with fail
    go_ret
    exact ⟨rfl, b6⟩

theorem walk (w : World) (v0 : Value) (n0 : Nat) (f0 : Nat → Nat) (g0 : Byts w v0 n0 f0) (seg : Int) (_ : (Lit.int .i64 seg).wf = true) (d : Int) (_ : (Lit.int .i64 d).wf = true) (s : Int) (_ : (Lit.int .i64 s).wf = true) (vh : Value) (K : Nat) (X : Nat → Int × Int × Nat) (gh : Harms w vh K X) :
    Calls Try.prog 7 #[v0, .int .i64 seg, .int .i64 d, .int .i64 s, vh] w fun e w' => e = .returned (.bool true) ∧ Below w.heap.size w w' := by
  by_cases hE : Seg.layE n0 seg d s = 0
  · obtain ⟨q1, q2, q3, q4, q5, q6, q7⟩ := layE_inv hE
    obtain ⟨d', rfl⟩ := Int.eq_ofNat_of_zero_le (show 0 ≤ d by omega)
    obtain ⟨s', rfl⟩ := Int.eq_ofNat_of_zero_le q3
    obtain ⟨g', rfl⟩ := Int.eq_ofNat_of_zero_le q5
    exact main w v0 n0 f0 g0 g' d' s' vh K X gh (by omega) (by omega) (by omega) (by omega) (by omega)
  · exact early w v0 n0 f0 g0 seg d s vh hE

set_option maxRecDepth 100000 in
theorem lifted (os : Os) (started : os.Started) (H : Type) (enc : TypeId × Value → H) :
    ReturnsInHanded {} Try.checked os 7 .any (Rows.stripeMendsSpec.pre6 enc Try.prog Try.f7 Rows.stripeMendsRow.domain false) (Rows.stripeMendsSpec.post enc Try.prog Try.f7 false true false false) := by
  refine returnsInHanded_of_change (C := Try.checked) own started (by kernel_rfl) Try.func7
    (ChangeSpec.witness6 (enc := enc) (C := Try.checked) false ⟨#[], #[.slice none 0 0, .int .i64 0, .int .i64 0, .int .i64 0, .slice none 0 0], []⟩ 8 (by kernel_rfl) (by kernel_rfl) (by kernel_rfl) (by kernel_rfl)) ?_
  intro W base args ds gs before hval0 hW hcnd _
  have hval : ∀ (j : Nat) t v, Try.f7.params[j]? = some t → args[j]? = some v → Value.okWide Try.prog W .any base t v := hval0
  have hW' := hW
  obtain ⟨p, q, hA0, hV, rfl, hfz, hnd⟩ := hW
  have hA : DataW.TrodAll enc Try.prog W 0 (fun _ => true) true Try.f7.params.toList args.toList ds p := hA0
  rw [Try.params7] at hA hval
  obtain ⟨v0, vs0, d0, ds0, p0, q0, hargs, rfl, rfl, h0, r0⟩ := trodAll_cons hA
  obtain ⟨v1, vs1, d1, ds1, p1, q1, rfl, rfl, rfl, h1, r1⟩ := trodAll_cons r0
  obtain ⟨v2, vs2, d2, ds2, p2, q2, rfl, rfl, rfl, h2, r2⟩ := trodAll_cons r1
  obtain ⟨v3, vs3, d3, ds3, p3, q3, rfl, rfl, rfl, h3, r3⟩ := trodAll_cons r2
  obtain ⟨v4, vs4, d4, ds4, p4, q4, rfl, rfl, rfl, h4, r4⟩ := trodAll_cons r3
  obtain ⟨rfl, rfl, rfl⟩ := trodAll_nil r4
  obtain rfl : args = #[v0, v1, v2, v3, v4] := by cases args; simp_all
  obtain ⟨rfl, rfl⟩ := trodVars_none hV
  obtain ⟨a0, l0, c0, rfl⟩ := okWide_slice Try.underlying25 (hval 0 25 v0 rfl rfl)
  have k0 := h0
  have lt0 : ∀ x ∈ p0, x.block < W.heap.size := by obtain ⟨m, hm⟩ := k0; exact DataW.trod_lt m _ _ _ hm
  obtain ⟨f0, g0⟩ := byt_of h0
  obtain ⟨a1, rfl, rfl, rfl, g1⟩ := open_int Try.underlying3 (hval 1 3 v1 rfl rfl) h1
  obtain ⟨a2, rfl, rfl, rfl, g2⟩ := open_int Try.underlying3 (hval 2 3 v2 rfl rfl) h2
  obtain ⟨a3, rfl, rfl, rfl, g3⟩ := open_int Try.underlying3 (hval 3 3 v3 rfl rfl) h3
  obtain ⟨a4, l4, c4, rfl⟩ := okWide_slice Try.underlying53 (hval 4 53 v4 rfl rfl)
  have k4 := h4
  have lt4 : ∀ x ∈ p4, x.block < W.heap.size := by obtain ⟨m, hm⟩ := k4; exact DataW.trod_lt m _ _ _ hm
  obtain ⟨X4, g4⟩ := harms_of h4
  clear hA0 hval0
  refine (walk W _ _ _ g0 a1 g1 a2 g2 a3 g3 _ _ X4 g4).mono fun e W' ⟨he, bel⟩ => ?_
  subst he
  exact ⟨_, rfl, _, _, _, [], _, [], hW', trodAll_mk1 (shut_bool Try.underlying4 _), (trodAll_cons_mk (Below.trod Try.laidOut (by kernel_rfl) (of_decide_eq_true (by kernel_rfl)) k0 bel lt0) (trodAll_cons_mk (shut_int Try.underlying3 g1) (trodAll_cons_mk (shut_int Try.underlying3 g2) (trodAll_cons_mk (shut_int Try.underlying3 g3) (trodAll_cons_mk (Below.trod Try.laidOut (by kernel_rfl) (of_decide_eq_true (by kernel_rfl)) k4 bel lt4) trodAll_mk0))))), rfl, bel.frame _, fun h => by cases h⟩

theorem over : Rows.stripeMendsRow.holds Try.pinned (OpenSpec.ofChange Rows.stripeMendsSpec) :=
  OpenClaim.holds_of_wide 7 Try.f7 rfl rfl rfl rfl rfl rfl rfl ⟨rfl, rfl, rfl, rfl, rfl⟩ rfl rfl rfl rfl rfl (by kernel_rfl) Try.func7 (by kernel_rfl)
    (of_decide_eq_true (by kernel_rfl)) (by unfold Func.isWrapper; first | (rw [if_pos (by decide +kernel)]; kernel_rfl) | (rw [if_neg (by decide +kernel)]; exact ⟨rfl, rfl⟩))
    (fun os started H enc _ => lifted os started H enc)
end Go.Proofs.Ytmlboaejkmffjad.stripeMends

namespace Go.Proofs.Ytmlboaejkmffjad
theorem stripeMends_holds : Rows.StripeMendsSaid := stripeMends.over
#print axioms stripeMends_holds
end Go.Proofs.Ytmlboaejkmffjad
