/-
  A square matrix of which two rows are alike, or of which a row is noughts, can not be undone, and that is told. No condition.
-/
import Derived.Test.YtbidimaljeblgabRows
import Derived.Test.YtbidimaljeblgabTwiceEarly
import Derived.ProofKit
import Derived.OpenShut
import Derived.Carry
namespace Go.Proofs.Ytbidimaljeblgab.gridTwice
open Go.ChangeShapes Go.WideShapes Go.ChangeAt Go.RowKit
set_option linter.unusedVariables false

theorem own : ownKnob Try.prog.godebug = none := by kernel_rfl

set_option maxHeartbeats 2000000 in
theorem late (w : World) (b o p n c : Nat) (G O K : Nat → Nat) (f : Nat → Nat → Nat) (hbd : Gf.Bd2 f) (hm : MatAt w b o n n G O K f) (d1 : 1 ≤ n) (d2 : n ≤ 12) (i j : Nat) (hi : i < n) (hj : j < n) (hij : i ≠ j) :
    Calls Try.prog 5 #[.slice (some ⟨b, o, none⟩) n p, .int .i64 (i : Int), .int .i64 (j : Int)] w fun e w' => e = .returned (.bool true) ∧ Below w.heap.size w w' := by
  have hmx : Mx w (.slice (some ⟨b, o, none⟩) n p) n n f := ⟨hbd, ⟨d1, d2, d1, by omega⟩, b, o, p, G, O, K, rfl, hm⟩
  have hw := fun w' hb' => wrong_any _ n _ f w' (hmx.below (w' := w') hb').arg
  rw [hmx.ok] at hw
  have h0 : (0 : Int) < (n : Int) := by omega
  have i0 : ¬ (i : Int) < 0 := by omega
  have j0 : ¬ (j : Int) < 0 := by omega
  have i1 : ¬ (n : Int) ≤ (i : Int) := by omega
  have j1 : ¬ (n : Int) ≤ (j : Int) := by omega
  have i2 : (i : Int) < (n : Int) := by omega
  have j2 : (j : Int) < (n : Int) := by omega
  have ij : ((i : Int) == (j : Int)) = false := by rw [beq_eq_false_iff_ne]; omega
  clear hmx
  go_enter Try.func5, Try.ntmps5
  go_wp2_with fail
  refine (alive2_any _).mono ?_
  rintro e u1 ⟨rfl, b1⟩
  go_wp2_with fail
  refine (hw _ b1).mono ?_
  rintro e u2 ⟨rfl, b2⟩
  have b2 := bt b1 b2
  have hm2 := hm.below b2
  have ht : u2.cell? ⟨b, o, none⟩ = some (.slice (some ⟨G 0, O 0, none⟩) n (K 0)) := by simpa using hm2.top 0 (by omega)
  clear hw b1 hm
  go_wp2_with (first
    | (at_builtin; refine (wpList_rows _ rfl (.tmp 52) (.tmp 53) rfl u2.heap.size b o n p n G O K f rfl rfl (hm2.below ((Below.refl _ _).alloc (Nat.le_refl _) _)) d1 d2 ?_); intro C1 q1 hC1)
    | (at_builtin; refine (wpList_rows _ rfl (.tmp 55) (.tmp 56) rfl _ b o n p n G O K f rfl rfl (hm2.below ((((Below.refl _ _).alloc (Nat.le_refl _) _).alloc (by simp) _).alloc (by simp; omega) _).drew) d1 d2 ?_); intro C2 q2 hC2))
  obtain ⟨u5, hu5⟩ : ∃ u5, u5 = ((((u2.alloc (.cells #[] 34)).alloc (.cells C1 34)).alloc (.cells #[] 34)).alloc (.cells C2 34)).drew.drew := ⟨_, rfl⟩
  rw [← hu5]
  have b5 : Below u2.heap.size u2 u5 := by
    rw [hu5]
    exact (((((Below.refl _ _).alloc (Nat.le_refl _) _).alloc (by simp) _).alloc (by simp; omega) _).alloc (by simp; omega) _).drew.drew
  have F1 : u5.rowIs (u2.heap.size + 1) 34 C1.size (fun i => C1.getD i (.slice none 0 0)) := by
    rw [hu5]
    have := World.rowIs_alloc (u2.alloc (.cells #[] 34)) C1 34 (fun i => C1.getD i (.slice none 0 0)) (fun i hi => by simp [hi])
    rw [Deep.nblk_alloc] at this
    exact (((this.alloc _).alloc _).drew).drew
  have F2 : u5.rowIs (u2.heap.size + 3) 34 C2.size (fun i => C2.getD i (.slice none 0 0)) := by
    rw [hu5]
    have := World.rowIs_alloc (((u2.alloc (.cells #[] 34)).alloc (.cells C1 34)).alloc (.cells #[] 34)) C2 34 (fun i => C2.getD i (.slice none 0 0)) (fun i hi => by simp [hi])
    rw [Deep.nblk_alloc, Deep.nblk_alloc, Deep.nblk_alloc] at this
    exact (this.drew).drew
  clear hu5
  have s1 : ∀ r, r < n → r < C1.size ∧ C1.getD r (.slice none 0 0) = .slice (some ⟨G r, O r, none⟩) n (K r) := fun r hr => by
    obtain ⟨h1, h2⟩ := Array.getElem?_eq_some_iff.1 (hC1 r hr)
    exact ⟨h1, by simp [h1, h2]⟩
  have s2 : ∀ r, r < n → r < C2.size ∧ C2.getD r (.slice none 0 0) = .slice (some ⟨G r, O r, none⟩) n (K r) := fun r hr => by
    obtain ⟨h1, h2⟩ := Array.getElem?_eq_some_iff.1 (hC2 r hr)
    exact ⟨h1, by simp [h1, h2]⟩
  clear hC1 hC2
  have t1 := F1.cell (s1 i hi).1
  have t2 := F1.cell (s1 j hj).1
  have t3 := F2.cell (s2 i hi).1
  rw [(s1 i hi).2] at t1
  rw [(s1 j hj).2] at t2
  rw [(s2 i hi).2] at t3
  have z1 := F1.frozen i
  have z3 := F2.frozen i
  have l1 := F1.lt
  have l3 := F2.lt
  have hmk := run_make_row' (P := Try.prog) 34 5 (.int .u8 0) 1 Try.underlying34 Try.infoByte rfl .i64 .i64 n (by omega) (by omega)
  have F1h : Hid (u5.rowIs (u2.heap.size + 1) 34 C1.size (fun i => C1.getD i (.slice none 0 0))) := F1
  have F2h : Hid (u5.rowIs (u2.heap.size + 3) 34 C2.size (fun i => C2.getD i (.slice none 0 0))) := F2
  have HM2 : Hid (MatAt u2 b o n n G O K f) := hm2
  have HS1 : Hid (∀ r, r < n → r < C1.size ∧ C1.getD r (.slice none 0 0) = .slice (some ⟨G r, O r, none⟩) n (K r)) := s1
  have HS2 : Hid (∀ r, r < n → r < C2.size ∧ C2.getD r (.slice none 0 0) = .slice (some ⟨G r, O r, none⟩) n (K r)) := s2
  clear F1 F2 ht hm2 s1 s2
  go_region
  obtain ⟨u6, hu6⟩ : ∃ u6, u6 = (((u5.setCell ⟨u2.heap.size + 1, i, none⟩ (.slice (some ⟨G j, O j, none⟩) n (K j))).setCell ⟨u2.heap.size + 1 + 1 + 1, i, none⟩ (.slice (some ⟨u5.heap.size, 0, none⟩) n n)).alloc (.cells (madeCells #[.int .u8 0] n) 5)).drew := ⟨_, rfl⟩
  rw [← hu6]
  have b6 : Below u2.heap.size u2 u6 := by
    rw [hu6]
    exact (((b5.setCell (p := ⟨u2.heap.size + 1, i, none⟩) (Nat.le_succ _) _).setCell (p := ⟨u2.heap.size + 1 + 1 + 1, i, none⟩) (by show u2.heap.size ≤ u2.heap.size + 1 + 1 + 1; omega) _).alloc (by rw [Deep.nblk_setCell, Deep.nblk_setCell]; exact b5.size) _).drew
  have E1 : u6.rowIs (u2.heap.size + 1) 34 C1.size (fun r => if r = i then .slice (some ⟨G j, O j, none⟩) n (K j) else C1.getD r (.slice none 0 0)) := by
    rw [hu6]
    exact (((F1h.out.set i _).setOther (by show u2.heap.size + 1 ≠ u2.heap.size + 1 + 1 + 1; omega) _).alloc _).drew
  have E2 : u6.rowIs (u2.heap.size + 3) 34 C2.size (fun r => if r = i then .slice (some ⟨u5.heap.size, 0, none⟩) n n else C2.getD r (.slice none 0 0)) := by
    rw [hu6]
    exact (((F2h.out.setOther (by show u2.heap.size + 3 ≠ u2.heap.size + 1; omega) _).set i _).alloc _).drew
  have E3 : u6.rowIs u5.heap.size 5 n (fun _ => .int .u8 0) := by
    rw [hu6]
    have := World.rowIs_made ((u5.setCell ⟨u2.heap.size + 1, i, none⟩ (.slice (some ⟨G j, O j, none⟩) n (K j))).setCell ⟨u2.heap.size + 1 + 1 + 1, i, none⟩ (.slice (some ⟨u5.heap.size, 0, none⟩) n n)) (.int .u8 0) n 5
    rw [Deep.nblk_setCell, Deep.nblk_setCell] at this
    exact this.drew
  have M2 := HM2.out.below b6
  have mb : Mx u6 (.slice (some ⟨u2.heap.size + 1, 0, none⟩) n q1) n n (fun r => if r = i then f j else f r) := by
    refine ⟨fun r => by show Gf.Bd (if r = i then f j else f r); split; exact hbd j; exact hbd r, ⟨d1, d2, d1, by omega⟩, u2.heap.size + 1, 0, q1, fun r => if r = i then G j else G r, fun r => if r = i then O j else O r, fun r => if r = i then K j else K r, rfl, fun r hr => ?_, fun r hr k hk => ?_⟩
    · rw [Nat.zero_add, E1.cell (HS1.out r hr).1]
      by_cases e : r = i
      · simp only [if_pos e]
      · simp only [if_neg e]
        rw [(HS1.out r hr).2]
    · by_cases e : r = i
      · simp only [if_pos e]
        exact M2.row j hj k hk
      · simp only [if_neg e]
        exact M2.row r hr k hk
  have mc : Mx u6 (.slice (some ⟨u2.heap.size + 3, 0, none⟩) n q2) n n (fun r => if r = i then fun _ => 0 else f r) := by
    refine ⟨fun r => by show Gf.Bd (if r = i then fun _ => 0 else f r); split; exact fun _ => Nat.zero_lt_succ 255; exact hbd r, ⟨d1, d2, d1, by omega⟩, u2.heap.size + 3, 0, q2, fun r => if r = i then u5.heap.size else G r, fun r => if r = i then 0 else O r, fun r => if r = i then n else K r, rfl, fun r hr => ?_, fun r hr k hk => ?_⟩
    · rw [Nat.zero_add, E2.cell (HS2.out r hr).1]
      by_cases e : r = i
      · simp only [if_pos e]
      · simp only [if_neg e]
        rw [(HS2.out r hr).2]
    · by_cases e : r = i
      · simp only [if_pos e]
        rw [Nat.zero_add]
        exact E3.cell hk
      · simp only [if_neg e]
        exact M2.row r hr k hk
  have b6 := bt b2 b6
  clear hu6 E1 E2 E3 M2 F1h F2h HM2 HS1 HS2 t1 t2 t3 z1 z3 l1 l3 b5 hmk
  go_wp2_with fail
  refine (undo_any _ n _ _ mb).mono ?_
  rintro e u7 ⟨h7 | h7, b7⟩
  · obtain ⟨v7, r7, rfl, _, hu⟩ := h7
    exact (hu.rows hi hj hij (fun k _ => by show (if i = i then f j else f i) k = (if j = i then f j else f j) k; rw [if_pos rfl, if_neg (fun e => hij e.symm)])).elim
  obtain ⟨rfl, _⟩ := h7
  have mc := mc.below b7
  have b7 := bt b6 b7
  clear mb
  go_wp2_with fail
  refine (undo_any _ n _ _ mc).mono ?_
  rintro e u8 ⟨h8 | h8, b8⟩
  · obtain ⟨v8, r8, rfl, _, hu⟩ := h8
    exact (hu.nought hi (fun k _ => by show (if i = i then (fun _ => 0) else f i) k = 0; rw [if_pos rfl])).elim
  obtain ⟨rfl, _⟩ := h8
  have b8 := bt b7 b8
  clear mc
  go_wp2_with fail
  go_ret
  exact ⟨rfl, b8⟩

theorem walk (w : World) (v0 : Value) (n0 : Nat) (L0 : Nat → Nat) (f0 : Nat → Nat → Nat) (g0 : Arg w v0 n0 L0 f0) (i : Int) (wi : (Lit.int .i64 i).wf = true) (j : Int) (wj : (Lit.int .i64 j).wf = true) :
    Calls Try.prog 5 #[v0, .int .i64 i, .int .i64 j] w fun e w' => e = .returned (.bool true) ∧ Below w.heap.size w w' := by
  obtain ⟨A, p, R, C, rfl, _⟩ := g0.lies
  by_cases h : wrongE n0 L0 ≠ 0 ∨ L0 0 ≠ n0 ∨ i < 0 ∨ j < 0 ∨ (n0 : Int) ≤ i ∨ (n0 : Int) ≤ j ∨ i = j
  · exact early w A p n0 L0 f0 g0 i j h
  · have h1 : wrongE n0 L0 = 0 := by omega
    have h2 : L0 0 = n0 := by omega
    have mx := g0.mx h1
    rw [h2] at mx
    obtain ⟨b, o, q, G, O, K, hv, hm⟩ := mx.lies
    cases hv
    obtain ⟨i', rfl⟩ := Int.eq_ofNat_of_zero_le (show 0 ≤ i by omega)
    obtain ⟨j', rfl⟩ := Int.eq_ofNat_of_zero_le (show 0 ≤ j by omega)
    exact late w b o p n0 n0 G O K f0 mx.bd hm mx.dim.1 mx.dim.2.1 i' j' (by omega) (by omega) (by omega)

set_option maxRecDepth 100000 in
theorem lifted (os : Os) (started : os.Started) (H : Type) (enc : TypeId × Value → H) :
    ReturnsInHanded {} Try.checked os 5 .any (Rows.gridTwiceSpec.pre6 enc Try.prog Try.f5 Rows.gridTwiceRow.domain false) (Rows.gridTwiceSpec.post enc Try.prog Try.f5 false true false false) := by
  refine returnsInHanded_of_change (C := Try.checked) own started (by kernel_rfl) Try.func5
    (ChangeSpec.witness6 (enc := enc) (C := Try.checked) false ⟨#[], #[.slice none 0 0, .int .i64 0, .int .i64 0], []⟩ 8 (by kernel_rfl) (by kernel_rfl) (by kernel_rfl) (by kernel_rfl)) ?_
  intro W base args ds gs before hval0 hW hcnd _
  have hval : ∀ (j : Nat) t v, Try.f5.params[j]? = some t → args[j]? = some v → Value.okWide Try.prog W .any base t v := hval0
  have hW' := hW
  obtain ⟨p, q, hA0, hV, rfl, hfz, hnd⟩ := hW
  have hA : DataW.TrodAll enc Try.prog W 0 (fun _ => true) true Try.f5.params.toList args.toList ds p := hA0
  rw [Try.params5] at hA hval
  obtain ⟨v0, vs0, d0, ds0, p0, q0, hargs, rfl, rfl, h0, r0⟩ := trodAll_cons hA
  obtain ⟨v1, vs1, d1, ds1, p1, q1, rfl, rfl, rfl, h1, r1⟩ := trodAll_cons r0
  obtain ⟨v2, vs2, d2, ds2, p2, q2, rfl, rfl, rfl, h2, r2⟩ := trodAll_cons r1
  obtain ⟨rfl, rfl, rfl⟩ := trodAll_nil r2
  obtain rfl : args = #[v0, v1, v2] := by cases args; simp_all
  obtain ⟨rfl, rfl⟩ := trodVars_none hV
  obtain ⟨a0, l0, c0, rfl⟩ := okWide_slice Try.underlying23 (hval 0 23 v0 rfl rfl)
  have k0 := h0
  have lt0 : ∀ x ∈ p0, x.block < W.heap.size := by obtain ⟨m, hm⟩ := k0; exact DataW.trod_lt m _ _ _ hm
  obtain ⟨L0, f0, g0⟩ := arg_of h0
  obtain ⟨a1, rfl, rfl, rfl, g1⟩ := open_int Try.underlying3 (hval 1 3 v1 rfl rfl) h1
  obtain ⟨a2, rfl, rfl, rfl, g2⟩ := open_int Try.underlying3 (hval 2 3 v2 rfl rfl) h2
  clear hA0 hval0
  refine (walk W _ _ L0 f0 g0 a1 g1 a2 g2).mono fun e W' ⟨he, bel⟩ => ?_
  subst he
  exact ⟨_, rfl, _, _, _, [], _, [], hW', trodAll_mk1 (shut_bool Try.underlying4 _), (trodAll_cons_mk (Below.trod Try.laidOut (by kernel_rfl) (of_decide_eq_true (by kernel_rfl)) k0 bel lt0) (trodAll_cons_mk (shut_int Try.underlying3 g1) (trodAll_cons_mk (shut_int Try.underlying3 g2) trodAll_mk0))), rfl, bel.frame _, fun h => by cases h⟩

theorem over : Rows.gridTwiceRow.holds Try.pinned (OpenSpec.ofChange Rows.gridTwiceSpec) :=
  OpenClaim.holds_of_wide 5 Try.f5 rfl rfl rfl rfl rfl rfl rfl ⟨rfl, rfl, rfl, rfl, rfl⟩ rfl rfl rfl rfl rfl (by kernel_rfl) Try.func5 (by kernel_rfl)
    (of_decide_eq_true (by kernel_rfl)) (by unfold Func.isWrapper; first | (rw [if_pos (by decide +kernel)]; kernel_rfl) | (rw [if_neg (by decide +kernel)]; exact ⟨rfl, rfl⟩))
    (fun os started H enc _ => lifted os started H enc)
end Go.Proofs.Ytbidimaljeblgab.gridTwice

namespace Go.Proofs.Ytbidimaljeblgab
theorem gridTwice_holds : Rows.GridTwiceSaid := gridTwice.over
#print axioms gridTwice_holds
end Go.Proofs.Ytbidimaljeblgab
