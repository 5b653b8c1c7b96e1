/-
  Whatever two lists of batches there are that together hold no more than 1048576 values and letters: the bytes of both, one behind the other, are, but for how many there are, those of one behind those of the other; where one of them can not be written that is told. No condition.
-/
import Derived.Test.YtniaffofeeieeadRows
import Derived.Test.YtniaffofeeieeadXJoin
import Derived.Test.YtniaffofeeieeadOpenZ
import Derived.ProofKit
import Derived.OpenShut
import Derived.Carry
import Derived.JoinedCond
namespace Go.Proofs.Ytniaffofeeieead.eventJoined
open Go.ChangeShapes Go.WideShapes Go.ChangeAt Go.RowKit
set_option linter.unusedVariables false

theorem own : ownKnob Try.prog.godebug = none := by kernel_rfl

theorem fst_ne {p q : Nat × Nat} (h : p = q ∨ p.1 = 5) : (p.1 = q.1 ∧ p.2 = q.2) ∨ p.1 = 5 := h.imp (fun e => ⟨by rw [e], by rw [e]⟩) id
theorem join_out {la lb : List Evt.Bat} (h1 : (Evt.wrongL la).1 = 0) (h2 : (Evt.wrongL lb).1 = 0) (h3 : (Evt.wrongL (la ++ lb)).1 = 0) : outL (la ++ lb) = (la.length + lb.length) :: ((outL la).drop 1 ++ (outL lb).drop 1) ∧ 1 ≤ (outL la).length ∧ 1 ≤ (outL lb).length := by
  rw [outL_ok h1, outL_ok h2, outL_ok h3]
  refine ⟨Evt.encL_append la lb, ?_, ?_⟩
  · unfold Evt.encL
    simp
  · unfold Evt.encL
    simp

set_option maxHeartbeats 1000000 in
theorem walk (w : World) (va : Value) (la : List Evt.Bat) (ha : Bats w va la) (vb : Value) (lb : List Evt.Bat) (hb : Bats w vb lb) (hsz : la.length + lb.length ≤ 1048576) :
    Calls Try.prog 5 #[va, vb] w fun e w' => e = .returned (.bool true) ∧ Below w.heap.size w w' := by
  have HA := fun w' (hb' : Below w.heap.size w w') => bytesL_list va la w' (ha.below hb')
  have HB := fun w' (hb' : Below w.heap.size w w') => bytesL_list vb lb w' (hb.below hb')
  have HC := fun v w' (q : Bats w' v (la ++ lb)) => bytesL_list v (la ++ lb) w' q
  have HJ := fun w' (hb' : Below w.heap.size w w') => join_bats w' va vb la lb (ha.below hb') (hb.below hb') (by omega)
  have HJ1 : Hid ((Evt.wrongL la).1 ≠ 0 → ((Evt.wrongL (la ++ lb)).1 = (Evt.wrongL la).1 ∧ (Evt.wrongL (la ++ lb)).2 = (Evt.wrongL la).2) ∨ (Evt.wrongL (la ++ lb)).1 = 5) := fun h => fst_ne (Evt.join_bad h)
  have HJ2 : Hid ((Evt.wrongL lb).1 ≠ 0 → (Evt.wrongL (la ++ lb)).1 ≠ 0) := fun h => Evt.join_bad' h
  have HJ3 : Hid ((Evt.wrongL la).1 = 0 → (Evt.wrongL lb).1 = 0 → (Evt.wrongL (la ++ lb)).1 = 0 → outL (la ++ lb) = (la.length + lb.length) :: ((outL la).drop 1 ++ (outL lb).drop 1) ∧ 1 ≤ (outL la).length ∧ 1 ≤ (outL lb).length) := fun h1 h2 h3 => join_out h1 h2 h3
  generalize (Evt.wrongL la).1 = x1 at HA HJ1 HJ2 HJ3
  generalize (Evt.wrongL la).2 = y1 at HA HJ1
  generalize (Evt.wrongL lb).1 = x2 at HB HJ2 HJ3
  generalize (Evt.wrongL lb).2 = y2 at HB
  generalize (Evt.wrongL (la ++ lb)).1 = x3 at HC HJ1 HJ2 HJ3
  generalize (Evt.wrongL (la ++ lb)).2 = y3 at HC HJ1
  generalize outL la = p1 at HA HJ3
  generalize outL lb = p2 at HB HJ3
  generalize outL (la ++ lb) = p3 at HC HJ3
  obtain ⟨A0, C0, rfl⟩ := ha.shape
  obtain ⟨A1, C1, rfl⟩ := hb.shape
  clear ha hb
  go_enter Try.func5, Try.ntmps5
  go_wp2_with fail
  refine (alive5_any _).mono ?_
  rintro e u1 ⟨rfl, b1⟩
  go_wp2_with fail
  refine (HA _ b1).mono ?_
  rintro e u2 ⟨A2, C2, rfl, Y2, b2⟩
  have b2 := bt b1 b2
  have V2 := varF_new u2 33 (.int .i64 (x1 : Nat)) (.int .i64 (y1 : Nat))
  have a2 : Below u2.heap.size u2 (u2.alloc (.cells #[.int .i64 (x1 : Nat), .int .i64 (y1 : Nat)] 33)) := (Below.refl _ _).alloc (Nat.le_refl _) _
  have Y2 := Y2.below a2
  have b2 := bt b2 a2
  clear HA a2 b1
  go_wp2_with fail
  refine (HB _ b2).mono ?_
  rintro e u3 ⟨A3, C3, rfl, Y3, b3⟩
  have V2 := V2.below b3
  have Y2 := Y2.below b3
  have b3 := bt b2 b3
  have V3 := varF_new u3 33 (.int .i64 (x2 : Nat)) (.int .i64 (y2 : Nat))
  have a3 : Below u3.heap.size u3 (u3.alloc (.cells #[.int .i64 (x2 : Nat), .int .i64 (y2 : Nat)] 33)) := (Below.refl _ _).alloc (Nat.le_refl _) _
  have V2 := V2.below a3
  have Y2 := Y2.below a3
  have Y3 := Y3.below a3
  have b3 := bt b3 a3
  obtain ⟨j1, w1, j2, w2, r1, r2, BJ, bJ⟩ := HJ _ b3
  have V2 := V2.below bJ
  have V3 := V3.below bJ
  have Y2 := Y2.below bJ
  have Y3 := Y3.below bJ
  have b4 := bt b3 bJ
  have sz : (u3.alloc (.cells #[.int .i64 (x2 : Nat), .int .i64 (y2 : Nat)] 33)).heap.size = u3.heap.size + 1 := by simp
  rw [sz] at r1
  have HC := HC j2 w2 BJ
  clear HB HJ sz a3 b3 bJ BJ b2
  go_wp2_with (first | (at_builtin; refine Lib.wpList_append_run _ rfl (.tmp 24) (.tmp 25) 22 22 rfl _ _ rfl rfl _ _ r1 ?_) | (at_builtin; refine Lib.wpList_append_run _ rfl (.tmp 26) (.tmp 27) 22 22 rfl _ _ rfl rfl _ _ r2 ?_))
  refine HC.mono ?_
  rintro e u4 ⟨A4, C4, rfl, Y4, b5⟩
  have V2 := V2.below b5
  have V3 := V3.below b5
  have Y2 := Y2.below b5
  have Y3 := Y3.below b5
  have b5 := bt b4 b5
  have V4 := varF_new u4 33 (.int .i64 (x3 : Nat)) (.int .i64 (y3 : Nat))
  have a4 : Below u4.heap.size u4 (u4.alloc (.cells #[.int .i64 (x3 : Nat), .int .i64 (y3 : Nat)] 33)) := (Below.refl _ _).alloc (Nat.le_refl _) _
  obtain ⟨k0, k1, _⟩ := V2.below a4
  obtain ⟨m0, m1, _⟩ := V3.below a4
  obtain ⟨n0, n1, _⟩ := V4
  have Y2 := Y2.below a4
  have Y3 := Y3.below a4
  have Y4 := Y4.below a4
  have b6 := bt b5 a4
  clear HC V2 V3 r1 r2 a4 b4 b5
  by_cases hx1 : x1 = 0
  case neg =>
    have hx' : ((x1 : Int) == 0) = false := by rw [beq_eq_false_iff_ne]; omega
    have hxn : ((x1 : Int) != 0) = true := by rw [bne, hx']; rfl
    have HQ := HJ1.out hx1
    clear Y2 Y3 Y4 hx1 HJ1 HJ2 HJ3
    by_cases hex : x3 = x1
    · have ex : (((x3 : Nat) : Int) == ((x1 : Nat) : Int)) = true := by rw [beq_iff_eq]; omega
      by_cases hey : y3 = y1
      · have ey : (((y3 : Nat) : Int) == ((y1 : Nat) : Int)) = true := by rw [beq_iff_eq]; omega
        clear HQ hex hey
        go_wp2_with fail
        go_ret
        exact ⟨rfl, b6⟩
      · have e5 : x3 = 5 := HQ.resolve_left (fun q => hey q.2)
        have e5' : ((x3 : Int) == 5) = true := by rw [beq_iff_eq]; omega
        have ey : (((y3 : Nat) : Int) == ((y1 : Nat) : Int)) = false := by rw [beq_eq_false_iff_ne]; omega
        clear HQ hey hex e5
        go_wp2_with fail
        go_ret
        exact ⟨rfl, b6⟩
    · have e5 : x3 = 5 := HQ.resolve_left (fun q => hex q.1)
      have e5' : ((x3 : Int) == 5) = true := by rw [beq_iff_eq]; omega
      have ex : (((x3 : Nat) : Int) == ((x1 : Nat) : Int)) = false := by rw [beq_eq_false_iff_ne]; omega
      clear HQ hex e5
      go_wp2_with fail
      go_ret
      exact ⟨rfl, b6⟩
  have hx1n : ((x1 : Int) != 0) = false := by rw [hx1]; rfl
  by_cases hx2 : x2 = 0
  case neg =>
    have hx' : ((x2 : Int) == 0) = false := by rw [beq_eq_false_iff_ne]; omega
    have hxn : ((x2 : Int) != 0) = true := by rw [bne, hx']; rfl
    have h3 := HJ2.out hx2
    have hz' : ((x3 : Int) == 0) = false := by rw [beq_eq_false_iff_ne]; omega
    have hzn : ((x3 : Int) != 0) = true := by rw [bne, hz']; rfl
    clear Y2 Y3 Y4 hx2 h3 hx1 HJ1 HJ2 HJ3
    go_wp2_with fail
    go_ret
    exact ⟨rfl, b6⟩
  have hx2n : ((x2 : Int) != 0) = false := by rw [hx2]; rfl
  by_cases hx3 : x3 = 0
  case neg =>
    have hz' : ((x3 : Int) == 0) = false := by rw [beq_eq_false_iff_ne]; omega
    have hzn : ((x3 : Int) != 0) = true := by rw [bne, hz']; rfl
    clear Y2 Y3 Y4 hx3 hx1 hx2 HJ1 HJ2 HJ3
    go_wp2_with fail
    go_ret
    exact ⟨rfl, b6⟩
  have hx3n : ((x3 : Int) != 0) = false := by rw [hx3]; rfl
  obtain ⟨hp3, hp1, hp2⟩ := HJ3.out hx1 hx2 hx3
  have HL3 : p3.length = p1.length - 1 + (p2.length - 1) + 1 := by rw [hp3]; simp
  have HD3 : Hid (p3.drop 1 = p1.drop 1 ++ p2.drop 1) := by
    show p3.drop 1 = _
    rw [hp3]
    rfl
  have hz0 : p3[0]? = some (la.length + lb.length) := by rw [hp3]; rfl
  clear HJ1 HJ2 HJ3 hx1 hx2 hx3 hp3
  have HU1 : Hid ((strL (p3.drop 1)).toList = (strL (p1.drop 1) ++ strL (p2.drop 1)).toList) := by
    show (strL (p3.drop 1)).toList = _
    rw [HD3.out, strL_app]
  have HG : Hid (p3.getD 0 0 = la.length + lb.length) := by
    show p3.getD 0 0 = _
    rw [List.getD_eq_getElem?_getD, hz0]
    rfl
  have hlt : la.length + lb.length < 256 := by
    have := Y4.1 _ (List.mem_of_getElem? hz0)
    exact this
  obtain ⟨B4, O4, rfl, g4, g4', t4, z4⟩ := cutL Y4 rfl (by omega)
  obtain ⟨B2, O2, rfl, g2, g2', _, z2⟩ := cutL Y2 rfl hp1
  obtain ⟨B3, O3, rfl, g3, g3', _, z3⟩ := cutL Y3 rfl hp2
  rw [HG.out] at t4
  have hst : ((strL (p3.drop 1)).toList == (strL (p1.drop 1) ++ strL (p2.drop 1)).toList) = true := by rw [beq_iff_eq]; exact HU1.out
  have hcat : ¬ 9223372036854775807 < (strL (p1.drop 1)).size + (strL (p2.drop 1)).size := by
    rw [strL_size, strL_size, List.length_drop, List.length_drop]
    omega
  have hps : (0 : Int) < (p3.length : Int) := by omega
  have hps1 : (1 : Int) ≤ (p3.length : Int) := by omega
  have hps2 : (1 : Int) ≤ (p1.length : Int) := by omega
  have hps3 : (1 : Int) ≤ (p2.length : Int) := by omega
  obtain ⟨nz, hnz⟩ : ∃ nz, la.length + lb.length = nz := ⟨_, rfl⟩
  have HWQ : Hid ((IntKind.i64.wrap (nz : Int) == IntKind.i64.wrap ((la.length : Int) + (lb.length : Int))) = true) := by
    show (IntKind.i64.wrap (nz : Int) == IntKind.i64.wrap ((la.length : Int) + (lb.length : Int))) = true
    rw [← hnz, beq_iff_eq]
    rfl
  have hnl : nz < 256 := by omega
  have hla : la.length ≤ 255 := by omega
  have hlb : lb.length ≤ 255 := by omega
  rw [hnz] at t4
  clear Y2 Y3 Y4 hz0 HL3 hnz hlt hsz
  generalize p3.length = n3 at *
  generalize p1.length = n1 at *
  generalize p2.length = n2 at *
  generalize la.length = m1 at *
  generalize lb.length = m2 at *
  by_cases c4 : C4 = 1
  · by_cases c2 : C2 = 1
    · by_cases c3 : C3 = 1
      · obtain ⟨_, l4, y4⟩ := z4.resolve_right (fun q => q.1 c4)
        have q4 := conv_drew y4
        subst c4
        subst l4
        obtain ⟨_, l2, y2⟩ := z2.resolve_right (fun q => q.1 c2)
        have q2 := conv_drew y2
        subst c2
        subst l2
        obtain ⟨_, l3, y3⟩ := z3.resolve_right (fun q => q.1 c3)
        have q3 := conv_drew y3
        subst c3
        subst l3
        generalize strL (p3.drop 1) = S3 at hst q4
        generalize strL (p1.drop 1) = S1 at hst q2 hcat
        generalize strL (p2.drop 1) = S2 at hst q3 hcat
        clear HU1 HD3 HG z4 z2 z3
        go_wp2_with fail
        have hwq := HWQ.out
        go_quiet (fail)
        go_wp2_with fail
        go_ret
        exact ⟨rfl, ⟨b6.os, b6.tape, b6.output, b6.size, b6.block⟩⟩
      · obtain ⟨_, l4, y4⟩ := z4.resolve_right (fun q => q.1 c4)
        have q4 := conv_drew y4
        subst c4
        subst l4
        obtain ⟨_, l2, y2⟩ := z2.resolve_right (fun q => q.1 c2)
        have q2 := conv_drew y2
        subst c2
        subst l2
        have q3 := conv_drew (z3.resolve_left (fun q => c3 q.1)).2
        generalize strL (p3.drop 1) = S3 at hst q4
        generalize strL (p1.drop 1) = S1 at hst q2 hcat
        generalize strL (p2.drop 1) = S2 at hst q3 hcat
        clear HU1 HD3 HG z4 z2 z3
        go_wp2_with fail
        have hwq := HWQ.out
        go_quiet (fail)
        go_wp2_with fail
        go_ret
        exact ⟨rfl, ⟨b6.os, b6.tape, b6.output, b6.size, b6.block⟩⟩
    · by_cases c3 : C3 = 1
      · obtain ⟨_, l4, y4⟩ := z4.resolve_right (fun q => q.1 c4)
        have q4 := conv_drew y4
        subst c4
        subst l4
        have q2 := conv_drew (z2.resolve_left (fun q => c2 q.1)).2
        obtain ⟨_, l3, y3⟩ := z3.resolve_right (fun q => q.1 c3)
        have q3 := conv_drew y3
        subst c3
        subst l3
        generalize strL (p3.drop 1) = S3 at hst q4
        generalize strL (p1.drop 1) = S1 at hst q2 hcat
        generalize strL (p2.drop 1) = S2 at hst q3 hcat
        clear HU1 HD3 HG z4 z2 z3
        go_wp2_with fail
        have hwq := HWQ.out
        go_quiet (fail)
        go_wp2_with fail
        go_ret
        exact ⟨rfl, ⟨b6.os, b6.tape, b6.output, b6.size, b6.block⟩⟩
      · obtain ⟨_, l4, y4⟩ := z4.resolve_right (fun q => q.1 c4)
        have q4 := conv_drew y4
        subst c4
        subst l4
        have q2 := conv_drew (z2.resolve_left (fun q => c2 q.1)).2
        have q3 := conv_drew (z3.resolve_left (fun q => c3 q.1)).2
        generalize strL (p3.drop 1) = S3 at hst q4
        generalize strL (p1.drop 1) = S1 at hst q2 hcat
        generalize strL (p2.drop 1) = S2 at hst q3 hcat
        clear HU1 HD3 HG z4 z2 z3
        go_wp2_with fail
        have hwq := HWQ.out
        go_quiet (fail)
        go_wp2_with fail
        go_ret
        exact ⟨rfl, ⟨b6.os, b6.tape, b6.output, b6.size, b6.block⟩⟩
  · by_cases c2 : C2 = 1
    · by_cases c3 : C3 = 1
      · have q4 := conv_drew (z4.resolve_left (fun q => c4 q.1)).2
        obtain ⟨_, l2, y2⟩ := z2.resolve_right (fun q => q.1 c2)
        have q2 := conv_drew y2
        subst c2
        subst l2
        obtain ⟨_, l3, y3⟩ := z3.resolve_right (fun q => q.1 c3)
        have q3 := conv_drew y3
        subst c3
        subst l3
        generalize strL (p3.drop 1) = S3 at hst q4
        generalize strL (p1.drop 1) = S1 at hst q2 hcat
        generalize strL (p2.drop 1) = S2 at hst q3 hcat
        clear HU1 HD3 HG z4 z2 z3
        go_wp2_with fail
        have hp0 : (0 : Int) < (n3 : Int) := by omega
        have hp0n : 0 < n3 := by omega
        have hp0z : ¬ n3 = 0 := by omega
        have hwq := HWQ.out
        go_quiet (fail)
        go_wp2_with fail
        go_ret
        exact ⟨rfl, ⟨b6.os, b6.tape, b6.output, b6.size, b6.block⟩⟩
      · have q4 := conv_drew (z4.resolve_left (fun q => c4 q.1)).2
        obtain ⟨_, l2, y2⟩ := z2.resolve_right (fun q => q.1 c2)
        have q2 := conv_drew y2
        subst c2
        subst l2
        have q3 := conv_drew (z3.resolve_left (fun q => c3 q.1)).2
        generalize strL (p3.drop 1) = S3 at hst q4
        generalize strL (p1.drop 1) = S1 at hst q2 hcat
        generalize strL (p2.drop 1) = S2 at hst q3 hcat
        clear HU1 HD3 HG z4 z2 z3
        go_wp2_with fail
        have hp0 : (0 : Int) < (n3 : Int) := by omega
        have hp0n : 0 < n3 := by omega
        have hp0z : ¬ n3 = 0 := by omega
        have hwq := HWQ.out
        go_quiet (fail)
        go_wp2_with fail
        go_ret
        exact ⟨rfl, ⟨b6.os, b6.tape, b6.output, b6.size, b6.block⟩⟩
    · by_cases c3 : C3 = 1
      · have q4 := conv_drew (z4.resolve_left (fun q => c4 q.1)).2
        have q2 := conv_drew (z2.resolve_left (fun q => c2 q.1)).2
        obtain ⟨_, l3, y3⟩ := z3.resolve_right (fun q => q.1 c3)
        have q3 := conv_drew y3
        subst c3
        subst l3
        generalize strL (p3.drop 1) = S3 at hst q4
        generalize strL (p1.drop 1) = S1 at hst q2 hcat
        generalize strL (p2.drop 1) = S2 at hst q3 hcat
        clear HU1 HD3 HG z4 z2 z3
        go_wp2_with fail
        have hp0 : (0 : Int) < (n3 : Int) := by omega
        have hp0n : 0 < n3 := by omega
        have hp0z : ¬ n3 = 0 := by omega
        have hwq := HWQ.out
        go_quiet (fail)
        go_wp2_with fail
        go_ret
        exact ⟨rfl, ⟨b6.os, b6.tape, b6.output, b6.size, b6.block⟩⟩
      · have q4 := conv_drew (z4.resolve_left (fun q => c4 q.1)).2
        have q2 := conv_drew (z2.resolve_left (fun q => c2 q.1)).2
        have q3 := conv_drew (z3.resolve_left (fun q => c3 q.1)).2
        generalize strL (p3.drop 1) = S3 at hst q4
        generalize strL (p1.drop 1) = S1 at hst q2 hcat
        generalize strL (p2.drop 1) = S2 at hst q3 hcat
        clear HU1 HD3 HG z4 z2 z3
        go_wp2_with fail
        have hp0 : (0 : Int) < (n3 : Int) := by omega
        have hp0n : 0 < n3 := by omega
        have hp0z : ¬ n3 = 0 := by omega
        have hwq := HWQ.out
        go_quiet (fail)
        go_wp2_with fail
        go_ret
        exact ⟨rfl, ⟨b6.os, b6.tape, b6.output, b6.size, b6.block⟩⟩

set_option maxRecDepth 100000 in
theorem lifted (os : Os) (started : os.Started) (H : Type) (enc : TypeId × Value → H) (F : Stop.Interp) :
    ReturnsInHanded {} Try.checked os 5 .any ((Rows.OpenSpec.upto Rows.eventJoinedSpec).pre6 enc Try.prog Try.f5 Rows.eventJoinedUptoRow.domain false) (((Rows.OpenSpec.upto Rows.eventJoinedSpec).at F).post enc Try.prog Try.f5 false true false false) := by
  refine returnsInHanded_of_cond (C := Try.checked) (s := Rows.OpenSpec.upto Rows.eventJoinedSpec) (k := Rows.uptoSmall) rfl own started (by kernel_rfl) Try.func5
    (OpenSpec.witness (enc := enc) (C := Try.checked) (s := Rows.OpenSpec.upto Rows.eventJoinedSpec) (k := Rows.uptoSmall) rfl false ⟨#[], #[.slice none 0 0, .slice none 0 0], []⟩ 8 (by kernel_rfl) (by kernel_rfl) (by kernel_rfl)
      (x := ([.nil, .nil], [], [])) (by kernel_rfl) rfl (by kernel_rfl)) ?_
  intro W base args ds gs before hval0 hW _ hk _
  have hval : ∀ (j : Nat) t v, Try.f5.params[j]? = some t → args[j]? = some v → Value.okWide Try.prog W .any base t v := hval0
  have hW' := hW
  obtain ⟨p, q, hA0, hV, rfl, hfz, hnd⟩ := hW
  have hA : DataW.TrodAll enc Try.prog W 0 (fun _ => true) true Try.f5.params.toList args.toList ds p := hA0
  rw [Try.params5] at hA hval
  obtain ⟨v0, vs0, d0, ds0, p0, q0, hargs, rfl, rfl, h0, r0⟩ := trodAll_cons hA
  obtain ⟨v1, vs1, d1, ds1, p1, q1, rfl, rfl, rfl, h1, r1⟩ := trodAll_cons r0
  obtain ⟨rfl, rfl, rfl⟩ := trodAll_nil r1
  obtain rfl : args = #[v0, v1] := by cases args; simp_all
  obtain ⟨rfl, rfl⟩ := trodVars_none hV
  obtain ⟨a0, l0, c0, rfl⟩ := okWide_slice Try.underlying22 (hval 0 22 v0 rfl rfl)
  obtain ⟨a1, l1, c1, rfl⟩ := okWide_slice Try.underlying22 (hval 1 22 v1 rfl rfl)
  have k0 := h0
  have k1 := h1
  have lt0 : ∀ x ∈ p0, x.block < W.heap.size := by obtain ⟨m, hm⟩ := k0; exact DataW.trod_lt m _ _ _ hm
  have lt1 : ∀ x ∈ p1, x.block < W.heap.size := by obtain ⟨m, hm⟩ := k1; exact DataW.trod_lt m _ _ _ hm
  obtain ⟨f0, g0⟩ := bats_of h0
  obtain ⟨f1, g1⟩ := bats_of h1
  have z0 := bats_short h0
  have z1 := bats_short h1
  have zk : Rows.uptoBulk d0 + Rows.uptoBulk d1 ≤ 1048576 := bats_both (by simpa using hk)
  have hl0 : f0.length = l0 := by obtain ⟨A, C, hv, _⟩ := g0; cases hv; rfl
  have hl1 : f1.length = l1 := by obtain ⟨A, C, hv, _⟩ := g1; cases hv; rfl
  clear hA0 hval0
  refine (walk W _ _ g0 _ _ g1 (by omega)).mono fun e W' ⟨he, bel⟩ => ?_
  subst he
  exact ⟨_, rfl, _, _, _, [], _, [], hW', trodAll_mk1 (shut_bool Try.underlying4 _), (trodAll_cons_mk (Below.trod Try.laidOut (by kernel_rfl) (of_decide_eq_true (by kernel_rfl)) k0 bel lt0) (trodAll_cons_mk (Below.trod Try.laidOut (by kernel_rfl) (of_decide_eq_true (by kernel_rfl)) k1 bel lt1) trodAll_mk0)), rfl, bel.frame _, fun h => by cases h⟩

theorem over : Rows.eventJoinedUptoRow.holds Try.pinned (Rows.OpenSpec.upto Rows.eventJoinedSpec) :=
  OpenClaim.holds_of_cond 5 Try.f5 rfl rfl rfl rfl rfl rfl rfl ⟨rfl, rfl, rfl, rfl, rfl⟩ rfl rfl rfl rfl rfl (by kernel_rfl) Try.func5 (by kernel_rfl)
    (of_decide_eq_true (by kernel_rfl)) (by unfold Func.isWrapper; first | (rw [if_pos (by decide +kernel)]; kernel_rfl) | (rw [if_neg (by decide +kernel)]; exact ⟨rfl, rfl⟩))
    (fun os started H enc _ F => lifted os started H enc F)
end Go.Proofs.Ytniaffofeeieead.eventJoined

namespace Go.Proofs.Ytniaffofeeieead
theorem eventJoined_upto : Rows.EventJoinedUptoSaid := eventJoined.over
#print axioms eventJoined_upto
end Go.Proofs.Ytniaffofeeieead
