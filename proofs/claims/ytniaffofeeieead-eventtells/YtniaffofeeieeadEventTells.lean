/-
  Whatever batches, event and bytes there are: what event's Named, Wrong, WrongBatch, Bytes and Parse tell is what the document's own text tells. No condition.
-/
import Derived.Test.YtniaffofeeieeadRows
import Derived.Test.YtniaffofeeieeadXTells
import Derived.ProofKit
import Derived.OpenShut
import Derived.Carry
namespace Go.Proofs.Ytniaffofeeieead.eventTells
open Go.ChangeShapes Go.WideShapes Go.ChangeAt Go.RowKit
set_option linter.unusedVariables false

theorem own : ownKnob Try.prog.godebug = none := by kernel_rfl

set_option maxHeartbeats 1000000 in
theorem walk (w : World) (v : Value) (l : List Evt.Bat) (hl : Bats w v l) (s : ByteArray) (k m : Int) (hs : s.size ≤ maxLen) (v1 : Value) (N : Nat) (g : Nat → Nat) (hy : Byts w v1 N g) :
    Calls Try.prog 3 #[v, .agg #[.string s, .int .i64 k, .int .i64 m], v1] w fun e w' => e = .returned (.bool true) ∧ Below w.heap.size w w' := by
  have hs : s.size ≤ 9223372036854775807 := by unfold maxLen at hs; exact hs
  have HB := fun w' (hb' : Below w.heap.size w w') => bytesL_list v l w' (hl.below hb')
  have HRB := fun w' (hb' : Below w.heap.size w w') => refBytesL_list v l w' (hl.below hb')
  have HP := fun w' (hb' : Below w.heap.size w w') => parseL_list v1 _ w' (hy.below hb').list
  have HRP := fun w' (hb' : Below w.heap.size w w') => refParseL_list v1 N g w' (hy.below hb')
  obtain ⟨yn, hyn⟩ : ∃ yn : Bool, yn = true ↔ Evt.named (nb s) := ⟨decide (Evt.named (nb s)), decide_eq_true_iff⟩
  have HN1 := fun w' => named_is s w' hs yn hyn
  have HN2 := fun w' => refNamed_is s w' hs yn hyn
  have HW1 := fun w' => wrongE_any s k m w' hs
  have HW2 := fun w' => refWrongE_any s k m w' hs
  generalize Evt.wrongE ⟨nb s, k, m⟩ = E at HW1 HW2
  obtain ⟨A0, C0, rfl⟩ := hl.shape
  obtain ⟨A1, C1, rfl⟩ := hy.shape
  have HC : Hid (∀ i x, l[i]? = some x → ∃ b o, A0 = some ⟨b, o, none⟩ ∧ BatIn w b (o + i * 2) x) := bats_at hl
  have hll := hl.len
  have hb0 : Below w.heap.size w (w.alloc (.cells #[.string s, .int .i64 k, .int .i64 m] 24)) := (Below.refl _ _).alloc (Nat.le_refl _) _
  have V0 := varE_new w (.string s) (.int .i64 k) (.int .i64 m)
  clear hl hy hyn
  go_enter Try.func3, Try.ntmps3
  go_wp2_with fail
  generalize w.alloc (.cells #[.string s, .int .i64 k, .int .i64 m] 24) = w0 at hb0 V0 ⊢
  have TD : w0.drew.cell? ⟨w.heap.size, 0, none⟩ = some (.string s) ∧ w0.drew.cell? ⟨w.heap.size, 1, none⟩ = some (.int .i64 k) ∧ w0.drew.cell? ⟨w.heap.size, 2, none⟩ = some (.int .i64 m) ∧ Below w0.heap.size w0 w0.drew := ⟨V0.c0, V0.c1, V0.c2, (Below.refl _ _).drew⟩
  have hnn : (yn != yn) = false := by cases yn <;> rfl
  go_region_held3 (fun w' => w'.cell? ⟨w.heap.size, 0, none⟩ = some (.string s) ∧ w'.cell? ⟨w.heap.size, 1, none⟩ = some (.int .i64 k) ∧ w'.cell? ⟨w.heap.size, 2, none⟩ = some (.int .i64 m) ∧ Below w0.heap.size w0 w')
    (first | with_reducible exact TD | with_reducible assumption | with_reducible exact keepE (by assumption) (by assumption))
    (first | (go_at_call 6; refine (HN1 _).mono ?_; rintro e1 w1 ⟨rfl, rfl⟩) | (go_at_call 7; refine (HN2 _).mono ?_; rintro e2 w2 ⟨rfl, b2⟩; have S2 := keepE b2 (by assumption)) | (go_at_call 8; refine (HW1 _).mono ?_; rintro e3 w3 ⟨rfl, b3⟩; have S3 := keepE b3 (by assumption)) | (go_at_call 9; refine (HW2 _).mono ?_; rintro e4 w4 ⟨rfl, b4⟩; have S4 := keepE b4 (by assumption)))
  have bz := bt hb0 S4.2.2.2
  clear TD HN1 HN2 HW1 HW2 V0 S2 S3 S4 b2 b3 b4
  go_wp2_with fail
  generalize w4 = u0 at bz ⊢
  go_loopw [33] (fun x wr => ∃ k : Nat, k ≤ l.length ∧ x = .int .i64 k ∧ Below u0.heap.size u0 wr) (fun x _ => l.length - (intOf x).toNat)
  case atStart => exact ⟨0, Nat.zero_le _, rfl, Below.refl _ _⟩
  case round =>
    obtain ⟨i, hi, rfl, hbr⟩ := hrel
    have br := bt bz hbr
    by_cases hlt : i < l.length
    · have hlt' : (i : Int) < (l.length : Int) := by omega
      obtain ⟨x, hx⟩ : ∃ x, l[i]? = some x := ⟨l[i], List.getElem?_eq_getElem hlt⟩
      obtain ⟨b, o, rfl, hin⟩ := HC.out i x hx
      obtain ⟨vs, d0, d1, he⟩ := hin.below br
      obtain ⟨wo, rfl⟩ : ∃ y, y = wr := ⟨wr, rfl⟩
      have bA : Below wo.heap.size wo (wo.alloc (.cells #[.int .i64 x.cmd, vs] 31)) := (Below.refl _ _).alloc (Nat.le_refl _) _
      have V := varF_new wo 31 (.int .i64 x.cmd) vs
      have HF1 := fun w' (hb' : Below (wo.alloc (.cells #[.int .i64 x.cmd, vs] 31)).heap.size (wo.alloc (.cells #[.int .i64 x.cmd, vs] 31)) w') => wrongB_any x.cmd vs x.evs w' ((he.below bA).below hb')
      have HF2 := fun w' (hb' : Below (wo.alloc (.cells #[.int .i64 x.cmd, vs] 31)).heap.size (wo.alloc (.cells #[.int .i64 x.cmd, vs] 31)) w') => refWrongB_any x.cmd vs x.evs w' ((he.below bA).below hb')
      generalize (Evt.wrongB ⟨x.cmd, x.evs⟩).1 = x1 at HF1 HF2
      generalize (Evt.wrongB ⟨x.cmd, x.evs⟩).2 = y1 at HF1 HF2
      obtain ⟨As, Cs, rfl⟩ := he.shape
      clear hx hin he
      go_upto_region 6 with fail
      generalize wo.alloc (.cells #[.int .i64 x.cmd, .slice As x.evs.length Cs] 31) = wa at bA V HF1 HF2 ⊢
      have TD : wa.drew.cell? ⟨wo.heap.size, 0, none⟩ = some (.int .i64 x.cmd) ∧ wa.drew.cell? ⟨wo.heap.size, 1, none⟩ = some (.slice As x.evs.length Cs) ∧ Below wa.heap.size wa wa.drew := ⟨V.c0, V.c1, (Below.refl _ _).drew⟩
      have HF1 := fun w' (hS : w'.cell? ⟨wo.heap.size, 0, none⟩ = some (.int .i64 x.cmd) ∧ w'.cell? ⟨wo.heap.size, 1, none⟩ = some (.slice As x.evs.length Cs) ∧ Below wa.heap.size wa w') => HF1 w' hS.2.2
      have HF2 := fun w' (hS : w'.cell? ⟨wo.heap.size, 0, none⟩ = some (.int .i64 x.cmd) ∧ w'.cell? ⟨wo.heap.size, 1, none⟩ = some (.slice As x.evs.length Cs) ∧ Below wa.heap.size wa w') => HF2 w' hS.2.2
      go_region_held3 (fun w' => w'.cell? ⟨wo.heap.size, 0, none⟩ = some (.int .i64 x.cmd) ∧ w'.cell? ⟨wo.heap.size, 1, none⟩ = some (.slice As x.evs.length Cs) ∧ Below wa.heap.size wa w')
        (first | with_reducible exact TD | with_reducible assumption | with_reducible exact keepF (by assumption) (by assumption))
        (first | (go_at_call 10; refine (HF1 _ (by assumption)).mono ?_; rintro e5 w5 ⟨rfl, b5⟩; have S5 := keepF b5 (by assumption)) | (go_at_call 11; refine (HF2 _ (by assumption)).mono ?_; rintro e6 w6 ⟨rfl, b6⟩; have S6 := keepF b6 (by assumption)))
      have b7 := bt (bt hbr bA) S6.2.2
      clear TD HF1 HF2 V S5 S6 b5 b6
      go_wp2_with fail
      exact ⟨⟨i + 1, by omega, by go_num, b7⟩, by simp [intOf]; omega⟩
    · obtain rfl : i = l.length := by omega
      clear hbr
      go_wp2_with fail
      refine (HB _ br).mono ?_
      rintro e u2 ⟨A2, C2, rfl, Y2, b2⟩
      have b2 := bt br b2
      generalize outL l = p1 at HRB Y2
      generalize (Evt.wrongL l).1 = x1 at HRB
      generalize (Evt.wrongL l).2 = y1 at HRB
      have V2 := varF_new u2 33 (.int .i64 (x1 : Nat)) (.int .i64 (y1 : Nat))
      have a2 : Below u2.heap.size u2 (u2.alloc (.cells #[.int .i64 (x1 : Nat), .int .i64 (y1 : Nat)] 33)) := (Below.refl _ _).alloc (Nat.le_refl _) _
      have Y2 := Y2.below a2
      have b2 := bt b2 a2
      clear HB a2 br
      go_wp2_with fail
      refine (HRB _ b2).mono ?_
      rintro e u3 ⟨A3, C3, rfl, Y3, b3⟩
      have V2 := V2.below b3
      have Y2 := Y2.below b3
      have b3 := bt b2 b3
      have V3 := varF_new u3 33 (.int .i64 (x1 : Nat)) (.int .i64 (y1 : Nat))
      have a3 : Below u3.heap.size u3 (u3.alloc (.cells #[.int .i64 (x1 : Nat), .int .i64 (y1 : Nat)] 33)) := (Below.refl _ _).alloc (Nat.le_refl _) _
      obtain ⟨k0, k1, _⟩ := V2.below a3
      obtain ⟨m0, m1, _⟩ := V3
      have q2 := convL (Y2.below a3)
      have q3 := convL (Y3.below a3)
      have b4 := bt b3 a3
      have hst : ((strL p1).toList != (strL p1).toList) = false := by simp
      have hst2 : ((strL p1).toList == (strL p1).toList) = true := by simp
      generalize strL p1 = S1 at q2 q3 hst hst2
      clear HRB V2 Y2 Y3 a3 b2 b3
      go_wp2_with fail
      refine (HP _ b4).mono ?_
      rintro e u5 ⟨A5, C5, rfl, B5, b5⟩
      have b5 := bt b4 b5
      clear HP q2 q3 k0 k1 m0 m1 b4
      go_wp2_with fail
      refine (HRP _ b5).mono ?_
      rintro e u6 ⟨A6, C6, rfl, B6, b6⟩
      have HSM := sameB_any _ _ _ _ _ (B5.below b6) B6
      have b6 := bt b5 b6
      generalize Evt.parse (bl g N) = pl at HSM
      generalize Evt.parseE (bl g N) = pe
      clear HRP B5 B6 b5
      go_wp2_with fail
      refine HSM.mono ?_
      rintro e u7 ⟨⟨y, rfl, hy⟩, q, rfl⟩
      obtain rfl : y = true := hy.2 trivial
      clear HSM hy
      go_wp2_with fail
      go_ret
      exact ⟨rfl, ⟨b6.os, b6.tape, b6.output, b6.size, b6.block⟩⟩

set_option maxRecDepth 100000 in
theorem lifted (os : Os) (started : os.Started) (H : Type) (enc : TypeId × Value → H) :
    ReturnsInHanded {} Try.checked os 3 .any (Rows.eventTellsSpec.pre6 enc Try.prog Try.f3 Rows.eventTellsRow.domain false) (Rows.eventTellsSpec.post enc Try.prog Try.f3 false true false false) := by
  refine returnsInHanded_of_change (C := Try.checked) own started (by kernel_rfl) Try.func3
    (ChangeSpec.witness6 (enc := enc) (C := Try.checked) false ⟨#[], #[.slice none 0 0, .agg #[.string ByteArray.empty, .int .i64 0, .int .i64 0], .slice none 0 0], []⟩ 8 (by kernel_rfl) (by kernel_rfl) (by kernel_rfl) (by kernel_rfl)) ?_
  intro W base args ds gs before hval0 hW hcnd _
  have hval : ∀ (j : Nat) t v, Try.f3.params[j]? = some t → args[j]? = some v → Value.okWide Try.prog W .any base t v := hval0
  have hW' := hW
  obtain ⟨p, q, hA0, hV, rfl, hfz, hnd⟩ := hW
  have hA : DataW.TrodAll enc Try.prog W 0 (fun _ => true) true Try.f3.params.toList args.toList ds p := hA0
  rw [Try.params3] at hA hval
  obtain ⟨v0, vs0, d0, ds0, p0, q0, hargs, rfl, rfl, h0, r0⟩ := trodAll_cons hA
  obtain ⟨v1, vs1, d1, ds1, p1, q1, rfl, rfl, rfl, h1, r1⟩ := trodAll_cons r0
  obtain ⟨v2, vs2, d2, ds2, p2, q2, rfl, rfl, rfl, h2, r2⟩ := trodAll_cons r1
  obtain ⟨rfl, rfl, rfl⟩ := trodAll_nil r2
  obtain rfl : args = #[v0, v1, v2] := by cases args; simp_all
  obtain ⟨rfl, rfl⟩ := trodVars_none hV
  obtain ⟨a0, l0, c0, rfl⟩ := okWide_slice Try.underlying22 (hval 0 22 v0 rfl rfl)
  have k0 := h0
  have lt0 : ∀ x ∈ p0, x.block < W.heap.size := by obtain ⟨m, hm⟩ := k0; exact DataW.trod_lt m _ _ _ hm
  obtain ⟨f0, g0⟩ := bats_of h0
  have k1 := h1
  have lt1 : ∀ x ∈ p1, x.block < W.heap.size := by obtain ⟨m, hm⟩ := k1; exact DataW.trod_lt m _ _ _ hm
  obtain ⟨s1, t1, z1, rfl, g1⟩ := ev_of (hval 1 24 v1 rfl rfl) h1
  obtain ⟨a2, l2, c2, rfl⟩ := okWide_slice Try.underlying25 (hval 2 25 v2 rfl rfl)
  have k2 := h2
  have lt2 : ∀ x ∈ p2, x.block < W.heap.size := by obtain ⟨m, hm⟩ := k2; exact DataW.trod_lt m _ _ _ hm
  obtain ⟨f2, g2⟩ := byt_of h2
  clear hA0 hval0
  refine (walk W _ _ g0 s1 t1 z1 g1 _ _ _ g2).mono fun e W' ⟨he, bel⟩ => ?_
  subst he
  exact ⟨_, rfl, _, _, _, [], _, [], hW', trodAll_mk1 (shut_bool Try.underlying4 _), (trodAll_cons_mk (Below.trod Try.laidOut (by kernel_rfl) (of_decide_eq_true (by kernel_rfl)) k0 bel lt0) (trodAll_cons_mk (Below.trod Try.laidOut (by kernel_rfl) (of_decide_eq_true (by kernel_rfl)) k1 bel lt1) (trodAll_cons_mk (Below.trod Try.laidOut (by kernel_rfl) (of_decide_eq_true (by kernel_rfl)) k2 bel lt2) trodAll_mk0))), rfl, bel.frame _, fun h => by cases h⟩

theorem over : Rows.eventTellsRow.holds Try.pinned (OpenSpec.ofChange Rows.eventTellsSpec) :=
  OpenClaim.holds_of_wide 3 Try.f3 rfl rfl rfl rfl rfl rfl rfl ⟨rfl, rfl, rfl, rfl, rfl⟩ rfl rfl rfl rfl rfl (by kernel_rfl) Try.func3 (by kernel_rfl)
    (of_decide_eq_true (by kernel_rfl)) (by unfold Func.isWrapper; first | (rw [if_pos (by decide +kernel)]; kernel_rfl) | (rw [if_neg (by decide +kernel)]; exact ⟨rfl, rfl⟩))
    (fun os started H enc _ => lifted os started H enc)
end Go.Proofs.Ytniaffofeeieead.eventTells

namespace Go.Proofs.Ytniaffofeeieead
theorem eventTells_holds : Rows.EventTellsSaid := eventTells.over
#print axioms eventTells_holds
end Go.Proofs.Ytniaffofeeieead
