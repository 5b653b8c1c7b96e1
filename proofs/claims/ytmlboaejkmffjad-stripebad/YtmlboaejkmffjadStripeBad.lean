/-
  Whatever bytes are laid out, and whichever of the blocks are gone or have a byte turned: just those are told to be wrong, and none of those that were laid. No condition.
-/
import Derived.Test.YtmlboaejkmffjadRows
import Derived.Test.YtmlboaejkmffjadTMends
import Derived.ProofKit
import Derived.OpenShut
import Derived.Carry
namespace Go.Proofs.Ytmlboaejkmffjad.stripeBad
open Go.ChangeShapes Go.WideShapes Go.ChangeAt Go.RowKit
set_option linter.unusedVariables false

theorem own : ownKnob Try.prog.godebug = none := by kernel_rfl

set_option maxHeartbeats 400000 in
set_option maxRecDepth 100000 in
theorem early (w : World) (v0 : Value) (n0 : Nat) (f0 : Nat → Nat) (g0 : Byts w v0 n0 f0) (seg d s : Int) (vh : Value) (hE : Seg.layE n0 seg d s ≠ 0) :
    Calls Try.prog 8 #[v0, .int .i64 seg, .int .i64 d, .int .i64 s, vh] w fun e w' => e = .returned (.bool true) ∧ Below w.heap.size w w' := by
  have H1 := fun w' (hb : Below w.heap.size w w') => lay_any v0 n0 f0 seg d s w' (g0.below hb)
  have hx' : (((Seg.layE n0 seg d s : Nat) : Int) == 0) = false := by rw [beq_eq_false_iff_ne]; omega
  have hxn : (((Seg.layE n0 seg d s : Nat) : Int) != 0) = true := by rw [bne, hx']; rfl
  generalize Seg.layE n0 seg d s = E at H1 hx' hxn
  obtain ⟨A0, C0, rfl⟩ := g0.shape
  clear g0 hE
  go_enter Try.func8, Try.ntmps8
  go_wp2_with fail
  refine (alive6_any _).mono ?_
  rintro e u1 ⟨rfl, b1⟩
  go_wp2_with fail
  refine (H1 _ b1).mono ?_
  rintro e u2 ⟨x2, rfl, _, b2⟩
  have b2 := bt b1 b2
  clear H1
  go_wp2_with fail
  go_ret
  exact ⟨rfl, b2⟩

set_option maxHeartbeats 1000000 in
set_option maxRecDepth 100000 in
theorem main (w : World) (v0 : Value) (n0 : Nat) (f0 : Nat → Nat) (g0 : Byts w v0 n0 f0) (seg d s : Nat) (vh : Value) (K : Nat) (X : Nat → Int × Int × Nat) (gh : Harms w vh K X) (h1 : 1 ≤ d) (h2 : d ≤ 8) (h3 : s ≤ 4) (h4 : seg ≤ 39) (h5 : n0 ≤ 400 * d) :
    Calls Try.prog 8 #[v0, .int .i64 (seg : Int), .int .i64 (d : Int), .int .i64 (s : Int), vh] w fun e w' => e = .returned (.bool true) ∧ Below w.heap.size w w' := by
  have H1 := fun w' (hb : Below w.heap.size w w') => lay_ok v0 n0 f0 seg d s w' (g0.below hb) h1 h2 h3 h4 h5
  have n1 := Seg.layN_pos n0 d h1
  have n2 := Seg.layN_le h1 h5
  have HG0 : Hid ((Seg.badL (seg : Int) (fun _ => Seg.layN n0 d + 11) (Seg.blk f0 n0 seg d) (d + s)).length = 0) := by
    show (Seg.badL (seg : Int) (fun _ => Seg.layN n0 d + 11) (Seg.blk f0 n0 seg d) (d + s)).length = 0
    rw [badL_cnt (M := fun _ => false) (d + s) (fun i hi => ⟨fun _ => rfl, fun _ => ?_⟩), cnt_none]
    obtain ⟨q1, q2, q3⟩ := Seg.blk_right (r := f0) (L := n0) (seg := seg) (d := d) (i := i) h1 h5 h4 (by omega) h2
    exact ⟨q1, by rw [q2], q3⟩
  have HREL : Hid (∀ (M : Nat → Bool) (Ls : Nat → Nat) (g : Nat → Nat → Nat), Gf.Bd2 g → (∀ i, i < d + s → M i = false → Ls i = Seg.layN n0 d + 11 ∧ g i = Seg.blk f0 n0 seg d i) → (∀ i, i < d + s → M i = true → Turn (Seg.layN n0 d + 11) (Seg.blk f0 n0 seg d i) (Ls i) (g i)) → ∀ i, i < d + s → (Seg.right (seg : Int) Ls g i ↔ M i = false)) := fun M Ls g bd hok hbad i hi => (hurt_rel h1 h2 h3 h4 h5 bd hok hbad).right h1 h2 h3 h4 h5 hi
  have HBD : Hid (Gf.Bd2 (Seg.blk f0 n0 seg d)) := Seg.blk_bd h1 h5 h4 h2
  have HHH : Hid (∀ w', Below w.heap.size w w' → Harms w' vh K X) := fun w' hb => gh.below hb
  obtain ⟨A0, C0, rfl⟩ := g0.shape
  obtain ⟨Ah, Ch, rfl⟩ := gh.shape
  have hN12 : d + s ≤ 12 := by omega
  have hN1 : 1 ≤ d + s := by omega
  have hn11 : Seg.layN n0 d + 11 ≤ 1000 := by omega
  have hn1 : 1 ≤ Seg.layN n0 d + 11 := by omega
  clear g0 gh h5 n1 n2
  generalize Seg.layN n0 d + 11 = n at H1 HG0 HREL hn11 hn1
  generalize Seg.blk f0 n0 seg d = g at H1 HG0 HREL HBD
  generalize d + s = N at H1 HG0 HREL hN12 hN1
  go_enter Try.func8, Try.ntmps8
  go_wp2_with fail
  refine (alive6_any _).mono ?_
  rintro e u1 ⟨rfl, b1⟩
  go_wp2_with fail
  refine (H1 _ b1).mono ?_
  rintro e u2 ⟨x2, U2, rfl, P2, b2⟩
  have b2 := bt b1 b2
  have LL := P2.lls HBD.out
  have HH := hurt_any x2 _ N n K g X u2 LL (HHH.out u2 b2) hN1 hN12 hn1 hn11
  have HB0 := fun w' (hb : Below u2.heap.size u2 w') => bad_any x2 N _ g (seg : Int) w' (LL.below hb) (by omega)
  obtain ⟨A2, C2, rfl⟩ := LL.shape
  clear P2 H1 LL HHH
  go_wp2_with fail
  refine HH.mono ?_
  rintro e u3 ⟨v3, bm, M, Ls, g', rfl, L3, D3, hok, hbad, b3⟩
  have hrt := HREL.out M Ls g' L3.bd hok hbad
  have HB := bad_any v3 N Ls g' (seg : Int) u3 L3 (by omega)
  have HLN : Hid ((Seg.badL (seg : Int) Ls g' N).length = cnt M N) := badL_cnt N hrt
  have HMM : Hid (∀ x, x ∈ Seg.badL (seg : Int) Ls g' N → x < N ∧ M x = true) := fun x hx => by
    obtain ⟨q1, q2⟩ := badL_mem.1 hx
    refine ⟨q1, ?_⟩
    cases hM : M x with
    | true => rfl
    | false => exact absurd ((hrt x q1).2 hM) q2
  obtain ⟨A3, C3, rfl⟩ := L3.shape
  generalize Seg.badL (seg : Int) Ls g' N = l at HB HLN HMM
  clear HH hok hbad hrt L3
  go_wp2_with fail
  refine HB.mono ?_
  rintro e u4 ⟨v4, rfl, N4, b4⟩
  obtain ⟨A4, C4, rfl, c4⟩ := nums_cells N4
  have D4 := D3.below b4
  have HC4 : Hid (∀ W, Below u4.heap.size u4 W → ∀ r, r < l.length → ∃ b o, A4 = some ⟨b, o, none⟩ ∧ W.cell? ⟨b, o + r, none⟩ = some (.int .i64 ((l.getD r 0 : Nat) : Int))) := fun W hW r hr => by
    obtain ⟨b, o, e1, e2⟩ := c4 r hr
    exact ⟨b, o, e1, (hW.cell (p := ⟨b, o + r, none⟩) (World.block_lt_of_cell? _ _ e2)).trans e2⟩
  have b34 := bt b3 b4
  have hl9 : l.length ≤ 12 := by
    have := HLN.out
    have := cnt_le M N
    omega
  clear HB N4 c4 D3
  go_wp2_with fail
  go_loopw [41] (fun x wr => ∃ k : Nat, k ≤ l.length ∧ x = .int .i64 k ∧ Below u4.heap.size u4 wr) (fun x _ => l.length - (intOf x).toNat)
  case atStart => exact ⟨0, Nat.zero_le _, rfl, Below.refl _ _⟩
  case round =>
    obtain ⟨k, hk, rfl, hb⟩ := hrel
    by_cases hlt : k < l.length
    · have hlt' : (k : Int) < (l.length : Int) := by omega
      obtain ⟨b, o, rfl, t1⟩ := HC4.out wr hb k hlt
      obtain ⟨q1, q2⟩ := HMM.out (l.getD k 0) (by simp [List.getD, hlt])
      have hlook := (D4.below hb).look (l.getD k 0) q1 (by omega)
      rw [q2] at hlook
      clear q1 q2
      generalize l.getD k 0 = x at t1 hlook
      go_wp2_with fail
      exact ⟨⟨k + 1, by omega, by go_num, hb⟩, by simp [intOf]; omega⟩
    · obtain rfl : k = l.length := by omega
      have hlen := fun ty => (D4.below hb).len ty
      rw [← HLN.out] at hlen
      have HB0 := HB0 wr (bt b34 hb)
      have bz := bt b2 (bt b34 hb)
      clear HC4 HMM D4
      go_wp2_with fail
      refine HB0.mono ?_
      rintro e u6 ⟨v6, rfl, N6, b6⟩
      obtain ⟨A6, C6, rfl, _⟩ := nums_cells N6
      rw [HG0.out]
      have b6 := bt bz b6
      clear HB0 N6 hlen
      go_wp2_with fail
      go_ret
      exact ⟨rfl, b6⟩

theorem walk (w : World) (v0 : Value) (n0 : Nat) (f0 : Nat → Nat) (g0 : Byts w v0 n0 f0) (seg : Int) (_ : (Lit.int .i64 seg).wf = true) (d : Int) (_ : (Lit.int .i64 d).wf = true) (s : Int) (_ : (Lit.int .i64 s).wf = true) (vh : Value) (K : Nat) (X : Nat → Int × Int × Nat) (gh : Harms w vh K X) :
    Calls Try.prog 8 #[v0, .int .i64 seg, .int .i64 d, .int .i64 s, vh] w fun e w' => e = .returned (.bool true) ∧ Below w.heap.size w w' := by
  by_cases hE : Seg.layE n0 seg d s = 0
  · obtain ⟨q1, q2, q3, q4, q5, q6, q7⟩ := layE_inv hE
    obtain ⟨d', rfl⟩ := Int.eq_ofNat_of_zero_le (show 0 ≤ d by omega)
    obtain ⟨s', rfl⟩ := Int.eq_ofNat_of_zero_le q3
    obtain ⟨g', rfl⟩ := Int.eq_ofNat_of_zero_le q5
    exact main w v0 n0 f0 g0 g' d' s' vh K X gh (by omega) (by omega) (by omega) (by omega) (by omega)
  · exact early w v0 n0 f0 g0 seg d s vh hE

set_option maxRecDepth 100000 in
theorem lifted (os : Os) (started : os.Started) (H : Type) (enc : TypeId × Value → H) :
    ReturnsInHanded {} Try.checked os 8 .any (Rows.stripeBadSpec.pre6 enc Try.prog Try.f8 Rows.stripeBadRow.domain false) (Rows.stripeBadSpec.post enc Try.prog Try.f8 false true false false) := by
  refine returnsInHanded_of_change (C := Try.checked) own started (by kernel_rfl) Try.func8
    (ChangeSpec.witness6 (enc := enc) (C := Try.checked) false ⟨#[], #[.slice none 0 0, .int .i64 0, .int .i64 0, .int .i64 0, .slice none 0 0], []⟩ 8 (by kernel_rfl) (by kernel_rfl) (by kernel_rfl) (by kernel_rfl)) ?_
  intro W base args ds gs before hval0 hW hcnd _
  have hval : ∀ (j : Nat) t v, Try.f8.params[j]? = some t → args[j]? = some v → Value.okWide Try.prog W .any base t v := hval0
  have hW' := hW
  obtain ⟨p, q, hA0, hV, rfl, hfz, hnd⟩ := hW
  have hA : DataW.TrodAll enc Try.prog W 0 (fun _ => true) true Try.f8.params.toList args.toList ds p := hA0
  rw [Try.params8] at hA hval
  obtain ⟨v0, vs0, d0, ds0, p0, q0, hargs, rfl, rfl, h0, r0⟩ := trodAll_cons hA
  obtain ⟨v1, vs1, d1, ds1, p1, q1, rfl, rfl, rfl, h1, r1⟩ := trodAll_cons r0
  obtain ⟨v2, vs2, d2, ds2, p2, q2, rfl, rfl, rfl, h2, r2⟩ := trodAll_cons r1
  obtain ⟨v3, vs3, d3, ds3, p3, q3, rfl, rfl, rfl, h3, r3⟩ := trodAll_cons r2
  obtain ⟨v4, vs4, d4, ds4, p4, q4, rfl, rfl, rfl, h4, r4⟩ := trodAll_cons r3
  obtain ⟨rfl, rfl, rfl⟩ := trodAll_nil r4
  obtain rfl : args = #[v0, v1, v2, v3, v4] := by cases args; simp_all
  obtain ⟨rfl, rfl⟩ := trodVars_none hV
  obtain ⟨a0, l0, c0, rfl⟩ := okWide_slice Try.underlying25 (hval 0 25 v0 rfl rfl)
  have k0 := h0
  have lt0 : ∀ x ∈ p0, x.block < W.heap.size := by obtain ⟨m, hm⟩ := k0; exact DataW.trod_lt m _ _ _ hm
  obtain ⟨f0, g0⟩ := byt_of h0
  obtain ⟨a1, rfl, rfl, rfl, g1⟩ := open_int Try.underlying3 (hval 1 3 v1 rfl rfl) h1
  obtain ⟨a2, rfl, rfl, rfl, g2⟩ := open_int Try.underlying3 (hval 2 3 v2 rfl rfl) h2
  obtain ⟨a3, rfl, rfl, rfl, g3⟩ := open_int Try.underlying3 (hval 3 3 v3 rfl rfl) h3
  obtain ⟨a4, l4, c4, rfl⟩ := okWide_slice Try.underlying53 (hval 4 53 v4 rfl rfl)
  have k4 := h4
  have lt4 : ∀ x ∈ p4, x.block < W.heap.size := by obtain ⟨m, hm⟩ := k4; exact DataW.trod_lt m _ _ _ hm
  obtain ⟨X4, g4⟩ := harms_of h4
  clear hA0 hval0
  refine (walk W _ _ _ g0 a1 g1 a2 g2 a3 g3 _ _ X4 g4).mono fun e W' ⟨he, bel⟩ => ?_
  subst he
  exact ⟨_, rfl, _, _, _, [], _, [], hW', trodAll_mk1 (shut_bool Try.underlying4 _), (trodAll_cons_mk (Below.trod Try.laidOut (by kernel_rfl) (of_decide_eq_true (by kernel_rfl)) k0 bel lt0) (trodAll_cons_mk (shut_int Try.underlying3 g1) (trodAll_cons_mk (shut_int Try.underlying3 g2) (trodAll_cons_mk (shut_int Try.underlying3 g3) (trodAll_cons_mk (Below.trod Try.laidOut (by kernel_rfl) (of_decide_eq_true (by kernel_rfl)) k4 bel lt4) trodAll_mk0))))), rfl, bel.frame _, fun h => by cases h⟩

theorem over : Rows.stripeBadRow.holds Try.pinned (OpenSpec.ofChange Rows.stripeBadSpec) :=
  OpenClaim.holds_of_wide 8 Try.f8 rfl rfl rfl rfl rfl rfl rfl ⟨rfl, rfl, rfl, rfl, rfl⟩ rfl rfl rfl rfl rfl (by kernel_rfl) Try.func8 (by kernel_rfl)
    (of_decide_eq_true (by kernel_rfl)) (by unfold Func.isWrapper; first | (rw [if_pos (by decide +kernel)]; kernel_rfl) | (rw [if_neg (by decide +kernel)]; exact ⟨rfl, rfl⟩))
    (fun os started H enc _ => lifted os started H enc)
end Go.Proofs.Ytmlboaejkmffjad.stripeBad

namespace Go.Proofs.Ytmlboaejkmffjad
theorem stripeBad_holds : Rows.StripeBadSaid := stripeBad.over
#print axioms stripeBad_holds
end Go.Proofs.Ytmlboaejkmffjad
