/-
  Whatever list of batches there is that can be written: it comes back; whatever bytes are read as batches are those that the batches are written as; beside an error no batches are told. No condition.
-/
import Derived.Test.YtniaffofeeieeadRows
import Derived.Test.YtniaffofeeieeadXAlive
import Derived.ProofKit
import Derived.OpenShut
import Derived.Carry
namespace Go.Proofs.Ytniaffofeeieead.eventTurns
open Go.ChangeShapes Go.WideShapes Go.ChangeAt Go.RowKit
set_option linter.unusedVariables false

theorem own : ownKnob Try.prog.godebug = none := by kernel_rfl

set_option maxHeartbeats 1000000 in
theorem w00 (w : World) (v : Value) (l : List Evt.Bat) (hl : Bats w v l) (v1 : Value) (r : List Nat) (hy : BytL w v1 r) (hE : (Evt.wrongL l).1 = 0) (hE2 : Evt.parseE r = 0) :
    Calls Try.prog 4 #[v, v1] w fun e w' => e = .returned (.bool true) ∧ Below w.heap.size w w' := by
  have HB := fun w' (hb' : Below w.heap.size w w') => bytesL_list v l w' (hl.below hb')
  have HP := fun w' (hb' : Below w.heap.size w w') => parseL_list v1 r w' (hy.below hb')
  have HL : Hid (∀ w', Below w.heap.size w w' → Bats w' v l) := fun w' hb' => hl.below hb'
  have HY : Hid (∀ w', Below w.heap.size w w' → BytL w' v1 r) := fun w' hb' => hy.below hb'
  have hpe := Evt.parse_enc hE
  have HPE : Hid (Evt.parseE (Evt.encL l) = 0 ∧ Evt.parse (Evt.encL l) = l) := hpe
  clear hpe
  rw [outL_ok hE, wrongL_ok2 hE, hE] at HB
  clear hE
  have HOP : Hid (outL (Evt.parse r) = r ∧ (Evt.wrongL (Evt.parse r)).2 = 0 ∧ (Evt.wrongL (Evt.parse r)).1 = 0) := by
    obtain ⟨h1, h2⟩ := Evt.enc_parse hy.1 hE2
    exact ⟨by rw [outL_ok h2, h1], wrongL_ok2 h2, h2⟩
  rw [hE2] at HP
  clear hE2
  obtain ⟨A0, C0, rfl⟩ := hl.shape
  obtain ⟨A1, C1, rfl⟩ := hy.byts.shape
  clear hl hy
  go_enter Try.func4, Try.ntmps4
  go_wp2_with fail
  refine (alive5_any _).mono ?_
  rintro e u1 ⟨rfl, b1⟩
  go_wp2_with fail
  refine (HB _ b1).mono ?_
  rintro e u2 ⟨A2, C2, rfl, Y2, b2⟩
  have b2 := bt b1 b2
  clear HB
  have bA : Below u2.heap.size u2 (u2.alloc (.cells #[.int .i64 0, .int .i64 0] 33)) := (Below.refl _ _).alloc (Nat.le_refl _) _
  have V2 := varF_new u2 33 (.int .i64 0) (.int .i64 0)
  have b3 := bt b2 bA
  have HW := parseL_list _ _ _ (Y2.below bA)
  rw [HPE.out.1, HPE.out.2] at HW
  clear bA Y2 V2 b2
  go_wp2_with fail
  refine HW.mono ?_
  rintro e u3 ⟨A3, C3, rfl, B3, b4⟩
  have b4 := bt b3 b4
  have HSM := sameB_any _ _ _ _ _ B3 (HL.out _ b4)
  clear HW B3 b3
  go_wp2_with fail
  refine HSM.mono ?_
  rintro e u4 ⟨⟨y, rfl, hy⟩, q, rfl⟩
  obtain rfl : y = true := hy.2 trivial
  have b5 : Below w.heap.size w (u3.drewN q) := ⟨b4.os, b4.tape, b4.output, b4.size, b4.block⟩
  clear HSM hy b4
  go_wp2_with fail
  refine (HP _ b5).mono ?_
  rintro e u5 ⟨A5, C5, rfl, B5, b6⟩
  have b6 := bt b5 b6
  have HB2 := bytesL_list _ _ _ B5
  rw [HOP.out.1, HOP.out.2.1, HOP.out.2.2] at HB2
  clear HP B5 b5
  go_wp2_with fail
  refine HB2.mono ?_
  rintro e u6 ⟨A6, C6, rfl, Y6, b7⟩
  have b7 := bt b6 b7
  have bA6 : Below u6.heap.size u6 (u6.alloc (.cells #[.int .i64 0, .int .i64 0] 33)) := (Below.refl _ _).alloc (Nat.le_refl _) _
  have b8 := bt b7 bA6
  have q1 := convL (Y6.below bA6)
  have q2 := convL (HY.out _ b8)
  have hst : ((strL r).toList == (strL r).toList) = true := by simp
  generalize strL r = S at q1 q2 hst
  clear HB2 Y6 bA6 b6 b7
  go_wp2_with fail
  go_ret
  exact ⟨rfl, b8⟩

set_option maxHeartbeats 1000000 in
theorem w01 (w : World) (v : Value) (l : List Evt.Bat) (hl : Bats w v l) (v1 : Value) (r : List Nat) (hy : BytL w v1 r) (hE : (Evt.wrongL l).1 = 0) (hE2 : Evt.parseE r ≠ 0) :
    Calls Try.prog 4 #[v, v1] w fun e w' => e = .returned (.bool true) ∧ Below w.heap.size w w' := by
  have HB := fun w' (hb' : Below w.heap.size w w') => bytesL_list v l w' (hl.below hb')
  have HP := fun w' (hb' : Below w.heap.size w w') => parseL_list v1 r w' (hy.below hb')
  have HL : Hid (∀ w', Below w.heap.size w w' → Bats w' v l) := fun w' hb' => hl.below hb'
  have HY : Hid (∀ w', Below w.heap.size w w' → BytL w' v1 r) := fun w' hb' => hy.below hb'
  have hpe := Evt.parse_enc hE
  have HPE : Hid (Evt.parseE (Evt.encL l) = 0 ∧ Evt.parse (Evt.encL l) = l) := hpe
  clear hpe
  rw [outL_ok hE, wrongL_ok2 hE, hE] at HB
  clear hE
  rw [parse_no hE2] at HP
  generalize Evt.parseE r = z at HP hE2
  have hz' : ((z : Int) == 0) = false := by rw [beq_eq_false_iff_ne]; omega
  have hzn : ((z : Int) != 0) = true := by rw [bne, hz']; rfl
  clear hE2
  obtain ⟨A0, C0, rfl⟩ := hl.shape
  obtain ⟨A1, C1, rfl⟩ := hy.byts.shape
  clear hl hy
  go_enter Try.func4, Try.ntmps4
  go_wp2_with fail
  refine (alive5_any _).mono ?_
  rintro e u1 ⟨rfl, b1⟩
  go_wp2_with fail
  refine (HB _ b1).mono ?_
  rintro e u2 ⟨A2, C2, rfl, Y2, b2⟩
  have b2 := bt b1 b2
  clear HB
  have bA : Below u2.heap.size u2 (u2.alloc (.cells #[.int .i64 0, .int .i64 0] 33)) := (Below.refl _ _).alloc (Nat.le_refl _) _
  have V2 := varF_new u2 33 (.int .i64 0) (.int .i64 0)
  have b3 := bt b2 bA
  have HW := parseL_list _ _ _ (Y2.below bA)
  rw [HPE.out.1, HPE.out.2] at HW
  clear bA Y2 V2 b2
  go_wp2_with fail
  refine HW.mono ?_
  rintro e u3 ⟨A3, C3, rfl, B3, b4⟩
  have b4 := bt b3 b4
  have HSM := sameB_any _ _ _ _ _ B3 (HL.out _ b4)
  clear HW B3 b3
  go_wp2_with fail
  refine HSM.mono ?_
  rintro e u4 ⟨⟨y, rfl, hy⟩, q, rfl⟩
  obtain rfl : y = true := hy.2 trivial
  have b5 : Below w.heap.size w (u3.drewN q) := ⟨b4.os, b4.tape, b4.output, b4.size, b4.block⟩
  clear HSM hy b4
  go_wp2_with fail
  refine (HP _ b5).mono ?_
  rintro e u5 ⟨A5, C5, rfl, B5, b6⟩
  have b6 := bt b5 b6
  clear HP B5 b5
  go_wp2_with fail
  go_ret
  exact ⟨rfl, b6⟩

set_option maxHeartbeats 1000000 in
theorem w10 (w : World) (v : Value) (l : List Evt.Bat) (hl : Bats w v l) (v1 : Value) (r : List Nat) (hy : BytL w v1 r) (hE : (Evt.wrongL l).1 ≠ 0) (hE2 : Evt.parseE r = 0) :
    Calls Try.prog 4 #[v, v1] w fun e w' => e = .returned (.bool true) ∧ Below w.heap.size w w' := by
  have HB := fun w' (hb' : Below w.heap.size w w') => bytesL_list v l w' (hl.below hb')
  have HP := fun w' (hb' : Below w.heap.size w w') => parseL_list v1 r w' (hy.below hb')
  have HL : Hid (∀ w', Below w.heap.size w w' → Bats w' v l) := fun w' hb' => hl.below hb'
  have HY : Hid (∀ w', Below w.heap.size w w' → BytL w' v1 r) := fun w' hb' => hy.below hb'
  generalize (Evt.wrongL l).1 = x at HB hE
  generalize (Evt.wrongL l).2 = y0 at HB
  have hx' : ((x : Int) == 0) = false := by rw [beq_eq_false_iff_ne]; omega
  clear hE
  have HOP : Hid (outL (Evt.parse r) = r ∧ (Evt.wrongL (Evt.parse r)).2 = 0 ∧ (Evt.wrongL (Evt.parse r)).1 = 0) := by
    obtain ⟨h1, h2⟩ := Evt.enc_parse hy.1 hE2
    exact ⟨by rw [outL_ok h2, h1], wrongL_ok2 h2, h2⟩
  rw [hE2] at HP
  clear hE2
  obtain ⟨A0, C0, rfl⟩ := hl.shape
  obtain ⟨A1, C1, rfl⟩ := hy.byts.shape
  clear hl hy
  go_enter Try.func4, Try.ntmps4
  go_wp2_with fail
  refine (alive5_any _).mono ?_
  rintro e u1 ⟨rfl, b1⟩
  go_wp2_with fail
  refine (HB _ b1).mono ?_
  rintro e u2 ⟨A2, C2, rfl, Y2, b2⟩
  have b2 := bt b1 b2
  clear HB
  have b5 : Below w.heap.size w (u2.alloc (.cells #[.int .i64 (x : Nat), .int .i64 (y0 : Nat)] 33)) := b2.alloc b2.size _
  clear b2 Y2
  go_wp2_with fail
  refine (HP _ b5).mono ?_
  rintro e u5 ⟨A5, C5, rfl, B5, b6⟩
  have b6 := bt b5 b6
  have HB2 := bytesL_list _ _ _ B5
  rw [HOP.out.1, HOP.out.2.1, HOP.out.2.2] at HB2
  clear HP B5 b5
  go_wp2_with fail
  refine HB2.mono ?_
  rintro e u6 ⟨A6, C6, rfl, Y6, b7⟩
  have b7 := bt b6 b7
  have bA6 : Below u6.heap.size u6 (u6.alloc (.cells #[.int .i64 0, .int .i64 0] 33)) := (Below.refl _ _).alloc (Nat.le_refl _) _
  have b8 := bt b7 bA6
  have q1 := convL (Y6.below bA6)
  have q2 := convL (HY.out _ b8)
  have hst : ((strL r).toList == (strL r).toList) = true := by simp
  generalize strL r = S at q1 q2 hst
  clear HB2 Y6 bA6 b6 b7
  go_wp2_with fail
  go_ret
  exact ⟨rfl, b8⟩

set_option maxHeartbeats 1000000 in
theorem w11 (w : World) (v : Value) (l : List Evt.Bat) (hl : Bats w v l) (v1 : Value) (r : List Nat) (hy : BytL w v1 r) (hE : (Evt.wrongL l).1 ≠ 0) (hE2 : Evt.parseE r ≠ 0) :
    Calls Try.prog 4 #[v, v1] w fun e w' => e = .returned (.bool true) ∧ Below w.heap.size w w' := by
  have HB := fun w' (hb' : Below w.heap.size w w') => bytesL_list v l w' (hl.below hb')
  have HP := fun w' (hb' : Below w.heap.size w w') => parseL_list v1 r w' (hy.below hb')
  have HL : Hid (∀ w', Below w.heap.size w w' → Bats w' v l) := fun w' hb' => hl.below hb'
  have HY : Hid (∀ w', Below w.heap.size w w' → BytL w' v1 r) := fun w' hb' => hy.below hb'
  generalize (Evt.wrongL l).1 = x at HB hE
  generalize (Evt.wrongL l).2 = y0 at HB
  have hx' : ((x : Int) == 0) = false := by rw [beq_eq_false_iff_ne]; omega
  clear hE
  rw [parse_no hE2] at HP
  generalize Evt.parseE r = z at HP hE2
  have hz' : ((z : Int) == 0) = false := by rw [beq_eq_false_iff_ne]; omega
  have hzn : ((z : Int) != 0) = true := by rw [bne, hz']; rfl
  clear hE2
  obtain ⟨A0, C0, rfl⟩ := hl.shape
  obtain ⟨A1, C1, rfl⟩ := hy.byts.shape
  clear hl hy
  go_enter Try.func4, Try.ntmps4
  go_wp2_with fail
  refine (alive5_any _).mono ?_
  rintro e u1 ⟨rfl, b1⟩
  go_wp2_with fail
  refine (HB _ b1).mono ?_
  rintro e u2 ⟨A2, C2, rfl, Y2, b2⟩
  have b2 := bt b1 b2
  clear HB
  have b5 : Below w.heap.size w (u2.alloc (.cells #[.int .i64 (x : Nat), .int .i64 (y0 : Nat)] 33)) := b2.alloc b2.size _
  clear b2 Y2
  go_wp2_with fail
  refine (HP _ b5).mono ?_
  rintro e u5 ⟨A5, C5, rfl, B5, b6⟩
  have b6 := bt b5 b6
  clear HP B5 b5
  go_wp2_with fail
  go_ret
  exact ⟨rfl, b6⟩

theorem walk (w : World) (v : Value) (l : List Evt.Bat) (hl : Bats w v l) (v1 : Value) (N : Nat) (g : Nat → Nat) (hy0 : Byts w v1 N g) :
    Calls Try.prog 4 #[v, v1] w fun e w' => e = .returned (.bool true) ∧ Below w.heap.size w w' := by
  have hy := hy0.list
  by_cases h1 : (Evt.wrongL l).1 = 0 <;> by_cases h2 : Evt.parseE (bl g N) = 0
  · exact w00 w v l hl v1 _ hy h1 h2
  · exact w01 w v l hl v1 _ hy h1 h2
  · exact w10 w v l hl v1 _ hy h1 h2
  · exact w11 w v l hl v1 _ hy h1 h2

set_option maxRecDepth 100000 in
theorem lifted (os : Os) (started : os.Started) (H : Type) (enc : TypeId × Value → H) :
    ReturnsInHanded {} Try.checked os 4 .any (Rows.eventTurnsSpec.pre6 enc Try.prog Try.f4 Rows.eventTurnsRow.domain false) (Rows.eventTurnsSpec.post enc Try.prog Try.f4 false true false false) := by
  refine returnsInHanded_of_change (C := Try.checked) own started (by kernel_rfl) Try.func4
    (ChangeSpec.witness6 (enc := enc) (C := Try.checked) false ⟨#[], #[.slice none 0 0, .slice none 0 0], []⟩ 8 (by kernel_rfl) (by kernel_rfl) (by kernel_rfl) (by kernel_rfl)) ?_
  intro W base args ds gs before hval0 hW hcnd _
  have hval : ∀ (j : Nat) t v, Try.f4.params[j]? = some t → args[j]? = some v → Value.okWide Try.prog W .any base t v := hval0
  have hW' := hW
  obtain ⟨p, q, hA0, hV, rfl, hfz, hnd⟩ := hW
  have hA : DataW.TrodAll enc Try.prog W 0 (fun _ => true) true Try.f4.params.toList args.toList ds p := hA0
  rw [Try.params4] at hA hval
  obtain ⟨v0, vs0, d0, ds0, p0, q0, hargs, rfl, rfl, h0, r0⟩ := trodAll_cons hA
  obtain ⟨v1, vs1, d1, ds1, p1, q1, rfl, rfl, rfl, h1, r1⟩ := trodAll_cons r0
  obtain ⟨rfl, rfl, rfl⟩ := trodAll_nil r1
  obtain rfl : args = #[v0, v1] := by cases args; simp_all
  obtain ⟨rfl, rfl⟩ := trodVars_none hV
  obtain ⟨a0, l0, c0, rfl⟩ := okWide_slice Try.underlying22 (hval 0 22 v0 rfl rfl)
  have k0 := h0
  have lt0 : ∀ x ∈ p0, x.block < W.heap.size := by obtain ⟨m, hm⟩ := k0; exact DataW.trod_lt m _ _ _ hm
  obtain ⟨f0, g0⟩ := bats_of h0
  obtain ⟨a1, l1, c1, rfl⟩ := okWide_slice Try.underlying25 (hval 1 25 v1 rfl rfl)
  have k1 := h1
  have lt1 : ∀ x ∈ p1, x.block < W.heap.size := by obtain ⟨m, hm⟩ := k1; exact DataW.trod_lt m _ _ _ hm
  obtain ⟨f1, g1⟩ := byt_of h1
  clear hA0 hval0
  refine (walk W _ _ g0 _ _ _ g1).mono fun e W' ⟨he, bel⟩ => ?_
  subst he
  exact ⟨_, rfl, _, _, _, [], _, [], hW', trodAll_mk1 (shut_bool Try.underlying4 _), (trodAll_cons_mk (Below.trod Try.laidOut (by kernel_rfl) (of_decide_eq_true (by kernel_rfl)) k0 bel lt0) (trodAll_cons_mk (Below.trod Try.laidOut (by kernel_rfl) (of_decide_eq_true (by kernel_rfl)) k1 bel lt1) trodAll_mk0)), rfl, bel.frame _, fun h => by cases h⟩

theorem over : Rows.eventTurnsRow.holds Try.pinned (OpenSpec.ofChange Rows.eventTurnsSpec) :=
  OpenClaim.holds_of_wide 4 Try.f4 rfl rfl rfl rfl rfl rfl rfl ⟨rfl, rfl, rfl, rfl, rfl⟩ rfl rfl rfl rfl rfl (by kernel_rfl) Try.func4 (by kernel_rfl)
    (of_decide_eq_true (by kernel_rfl)) (by unfold Func.isWrapper; first | (rw [if_pos (by decide +kernel)]; kernel_rfl) | (rw [if_neg (by decide +kernel)]; exact ⟨rfl, rfl⟩))
    (fun os started H enc _ => lifted os started H enc)
end Go.Proofs.Ytniaffofeeieead.eventTurns

namespace Go.Proofs.Ytniaffofeeieead
theorem eventTurns_holds : Rows.EventTurnsSaid := eventTurns.over
#print axioms eventTurns_holds
end Go.Proofs.Ytniaffofeeieead
