/-
  Whatever block and bytes there are: what block's Sum, Wrong, Bytes and Parse tell is what the document's own text tells. No condition.
-/
import Derived.Test.YtfddjmkbejjhdacRows
import Derived.Test.YtfddjmkbejjhdacBRef
import Derived.ProofKit
import Derived.OpenShut
import Derived.Carry
namespace Go.Proofs.Ytfddjmkbejjhdac.blockTells
open Go.ChangeShapes Go.WideShapes Go.ChangeAt Go.RowKit
set_option linter.unusedVariables false

theorem own : ownKnob Try.prog.godebug = none := by kernel_rfl

theorem keepV {w0 wX w3 : World} {p : Nat} {a b c d : Value} (b3 : Below wX.heap.size wX w3) (h : wX.cell? ⟨p, 0, none⟩ = some a ∧ wX.cell? ⟨p, 1, none⟩ = some b ∧ wX.cell? ⟨p, 2, none⟩ = some c ∧ wX.cell? ⟨p, 3, none⟩ = some d ∧ Below w0.heap.size w0 wX) :
    w3.cell? ⟨p, 0, none⟩ = some a ∧ w3.cell? ⟨p, 1, none⟩ = some b ∧ w3.cell? ⟨p, 2, none⟩ = some c ∧ w3.cell? ⟨p, 3, none⟩ = some d ∧ Below w0.heap.size w0 w3 := by
  have hp : p < wX.heap.size := World.block_lt_of_cell? _ _ h.1
  exact ⟨(b3.cell (p := ⟨p, 0, none⟩) hp).trans h.1, (b3.cell (p := ⟨p, 1, none⟩) hp).trans h.2.1, (b3.cell (p := ⟨p, 2, none⟩) hp).trans h.2.2.1, (b3.cell (p := ⟨p, 3, none⟩) hp).trans h.2.2.2.1, bt h.2.2.2.2 b3⟩

set_option maxHeartbeats 1000000 in
theorem walk (w : World) (v : Value) (s h z : Int) (n : Nat) (f : Nat → Nat) (hx : Blk w v s h z n f) (v1 : Value) (N : Nat) (g : Nat → Nat) (hy : Byts w v1 N g) :
    Calls Try.prog 5 #[v, v1] w fun e w' => e = .returned (.bool true) ∧ Below w.heap.size w w' := by
  have HB := fun w' (hb' : Below w.heap.size w w') => bytes_any v s h z n f w' (hx.below hb')
  have HRB := fun w' (hb' : Below w.heap.size w w') => refBytes_any v s h z n f w' (hx.below hb')
  have HP := fun w' (hb' : Below w.heap.size w w') => parse_any v1 N g w' (hy.below hb')
  have HRP := fun w' (hb' : Below w.heap.size w w') => refParse_any v1 N g w' (hy.below hb')
  have HS1 := fun w' (hb' : Below w.heap.size w w') => sum_any v1 N g w' (hy.below hb')
  have HS2 := fun w' (hb' : Below w.heap.size w w') => refSum_any v1 N g w' (hy.below hb')
  obtain ⟨d, rfl, hd⟩ := hx
  have hfd := hd.bd
  have HEB : Hid (Crc.wrongB s h z n = 0 → Bd (encI s h z n f)) := fun e => encI_bd hfd e
  obtain ⟨A0, C0, rfl⟩ := hd.shape
  obtain ⟨A1, C1, rfl⟩ := hy.shape
  have HW1 := fun w' => wrong_blk s h z A0 n C0 w'
  have HW2 := fun w' => refWrong_blk s h z A0 n C0 w'
  generalize Crc.sum g N = S at HS1 HS2
  generalize Crc.wrongB s h z n = E at HB HRB HW1 HW2 HEB
  generalize encI s h z n f = F at HB HRB HEB
  generalize Crc.parseE g N = E2 at HP HRP
  generalize pk E2 (g 1) = p1 at HP HRP
  generalize pk E2 (g 2) = p2 at HP HRP
  generalize pk E2 (g 3 * 256 + g 4) = p3 at HP HRP
  generalize pk E2 (N - 11) = p4 at HP HRP
  have hb0 : Below w.heap.size w (w.alloc (.cells #[.int .i64 s, .int .i64 h, .int .i64 z, .slice A0 n C0] 39)) := (Below.refl _ _).alloc (Nat.le_refl _) _
  have V0 := varB_new w (.int .i64 s) (.int .i64 h) (.int .i64 z) (.slice A0 n C0)
  clear hd hy
  go_enter Try.func5, Try.ntmps5
  go_wp2_with fail
  generalize w.alloc (.cells #[.int .i64 s, .int .i64 h, .int .i64 z, .slice A0 n C0] 39) = w0 at hb0 V0 ⊢
  have TD : w0.drew.cell? ⟨w.heap.size, 0, none⟩ = some (.int .i64 s) ∧ w0.drew.cell? ⟨w.heap.size, 1, none⟩ = some (.int .i64 h) ∧ w0.drew.cell? ⟨w.heap.size, 2, none⟩ = some (.int .i64 z) ∧ w0.drew.cell? ⟨w.heap.size, 3, none⟩ = some (.slice A0 n C0) ∧ Below w0.heap.size w0 w0.drew := ⟨V0.c0, V0.c1, V0.c2, V0.c3, (Below.refl _ _).drew⟩
  have HS1 := fun w' (hS : w'.cell? ⟨w.heap.size, 0, none⟩ = some (.int .i64 s) ∧ w'.cell? ⟨w.heap.size, 1, none⟩ = some (.int .i64 h) ∧ w'.cell? ⟨w.heap.size, 2, none⟩ = some (.int .i64 z) ∧ w'.cell? ⟨w.heap.size, 3, none⟩ = some (.slice A0 n C0) ∧ Below w0.heap.size w0 w') => HS1 w' (bt hb0 hS.2.2.2.2)
  have HS2 := fun w' (hS : w'.cell? ⟨w.heap.size, 0, none⟩ = some (.int .i64 s) ∧ w'.cell? ⟨w.heap.size, 1, none⟩ = some (.int .i64 h) ∧ w'.cell? ⟨w.heap.size, 2, none⟩ = some (.int .i64 z) ∧ w'.cell? ⟨w.heap.size, 3, none⟩ = some (.slice A0 n C0) ∧ Below w0.heap.size w0 w') => HS2 w' (bt hb0 hS.2.2.2.2)
  go_region_held3 (fun w' => w'.cell? ⟨w.heap.size, 0, none⟩ = some (.int .i64 s) ∧ w'.cell? ⟨w.heap.size, 1, none⟩ = some (.int .i64 h) ∧ w'.cell? ⟨w.heap.size, 2, none⟩ = some (.int .i64 z) ∧ w'.cell? ⟨w.heap.size, 3, none⟩ = some (.slice A0 n C0) ∧ Below w0.heap.size w0 w')
    (first | with_reducible exact TD | with_reducible assumption | with_reducible exact keepV (by assumption) (by assumption))
    (first | (go_at_call 15; refine (HS1 _ (by assumption)).mono ?_; rintro e1 w1 ⟨rfl, rfl⟩) | (go_at_call 16; refine (HS2 _ (by assumption)).mono ?_; rintro e2 w2 ⟨rfl, rfl⟩) | (go_at_call 17; refine (HW1 _).mono ?_; rintro e3 w3 ⟨rfl, b3⟩; have S3 := keepV b3 (by assumption)) | (go_at_call 18; refine (HW2 _).mono ?_; rintro e4 w4 ⟨rfl, b4⟩; have S4 := keepV b4 (by assumption)))
  have S4h : Hid (w4.cell? ⟨w.heap.size, 0, none⟩ = some (.int .i64 s) ∧ w4.cell? ⟨w.heap.size, 1, none⟩ = some (.int .i64 h) ∧ w4.cell? ⟨w.heap.size, 2, none⟩ = some (.int .i64 z) ∧ w4.cell? ⟨w.heap.size, 3, none⟩ = some (.slice A0 n C0) ∧ Below w0.heap.size w0 w4) := S4
  obtain ⟨k0, k1, k2, k3, bX⟩ := S4
  have bz := bt hb0 bX
  clear TD HS1 HS2 HW1 HW2 V0 S3 b3 b4 bX
  go_wp2_with fail
  refine (HB _ bz).mono ?_
  rintro e5 w5 ⟨v5, rfl, O5, b5⟩
  obtain ⟨l0, l1, l2, l3, _⟩ := keepV b5 S4h.out
  have b5z := bt bz b5
  clear HB k0 k1 k2 k3
  go_wp2_with fail
  refine (HRB _ b5z).mono ?_
  rintro e6 w6 ⟨v6, rfl, O6, b6⟩
  have q5 := conv_any ((O5.below b6).byts HEB.out)
  have q6 := conv_any (O6.byts HEB.out)
  have b6z := bt b5z b6
  generalize strB (fun k => pk E (F k)) (pk E (n + 11)) = T at q5 q6
  have hst : (T.toList == T.toList) = true := by simp
  have hsn : (T.toList != T.toList) = false := by simp
  clear HRB l0 l1 l2 l3 O5 O6 S4h
  go_wp2_with fail
  refine (HP _ b6z).mono ?_
  rintro e7 w7 ⟨v7, rfl, B7, b7⟩
  obtain ⟨A7, C7, rfl, Y7⟩ := parse_shape B7
  have b7z := bt b6z b7
  have V7 := varB_new w7 (.int .i64 (p1 : Nat)) (.int .i64 (p2 : Nat)) (.int .i64 (p3 : Nat)) (.slice A7 p4 C7)
  have bA : Below w7.heap.size w7 (w7.alloc (.cells #[.int .i64 (p1 : Nat), .int .i64 (p2 : Nat), .int .i64 (p3 : Nat), .slice A7 p4 C7] 39)) := (Below.refl _ _).alloc (Nat.le_refl _) _
  have Y7 := Y7.below bA
  have b8z := bt b7z bA
  clear HP B7 q5 q6
  go_wp2_with fail
  refine (HRP _ b8z).mono ?_
  rintro e8 w8 ⟨v8, rfl, B8, b8⟩
  obtain ⟨A8, C8, rfl, Y8⟩ := parse_shape B8
  have bB : Below w8.heap.size w8 (w8.alloc (.cells #[.int .i64 (p1 : Nat), .int .i64 (p2 : Nat), .int .i64 (p3 : Nat), .slice A8 p4 C8] 39)) := (Below.refl _ _).alloc (Nat.le_refl _) _
  have Y7 := (Y7.below b8).below bB
  have Y8 := Y8.below bB
  obtain ⟨k0, k1, k2, k3, _⟩ := (V7.below b8).below bB
  have b9z := bt (bt b8z b8) bB
  have HSM := same_blk _ _ _ _ _ _ _ _ _ _ _ _ _ (⟨_, rfl, Y7⟩ : Blk _ (.agg #[.int .i64 (p1 : Nat), .int .i64 (p2 : Nat), .int .i64 (p3 : Nat), .slice A7 p4 C7]) (p1 : Nat) (p2 : Nat) (p3 : Nat) p4 (fun k => g (k + 7))) (⟨_, rfl, Y8⟩ : Blk _ (.agg #[.int .i64 (p1 : Nat), .int .i64 (p2 : Nat), .int .i64 (p3 : Nat), .slice A8 p4 C8]) (p1 : Nat) (p2 : Nat) (p3 : Nat) p4 (fun k => g (k + 7)))
  have HSP : Hid (SameP (p1 : Nat) (p2 : Nat) (p3 : Nat) p4 (fun k => g (k + 7)) (p1 : Nat) (p2 : Nat) (p3 : Nat) p4 (fun k => g (k + 7))) := ⟨rfl, rfl, rfl, rfl, fun _ _ => rfl⟩
  clear HRP B8 V7 Y7 Y8 bA bB
  go_wp2_with fail
  refine HSM.mono ?_
  rintro e9 w9 ⟨⟨y, rfl, hy⟩, b9⟩
  have b9z := bt b9z b9
  obtain rfl : y = true := hy.2 HSP.out
  clear HSM hy HSP k0 k1 k2 k3
  go_wp2_with fail
  go_ret
  exact ⟨rfl, b9z⟩

set_option maxRecDepth 100000 in
theorem lifted (os : Os) (started : os.Started) (H : Type) (enc : TypeId × Value → H) :
    ReturnsInHanded {} Try.checked os 5 .any (Rows.blockTellsSpec.pre6 enc Try.prog Try.f5 Rows.blockTellsRow.domain false) (Rows.blockTellsSpec.post enc Try.prog Try.f5 false true false false) := by
  refine returnsInHanded_of_change (C := Try.checked) own started (by kernel_rfl) Try.func5
    (ChangeSpec.witness6 (enc := enc) (C := Try.checked) false ⟨#[], #[.agg #[.int .i64 0, .int .i64 0, .int .i64 0, .slice none 0 0], .slice none 0 0], []⟩ 8 (by kernel_rfl) (by kernel_rfl) (by kernel_rfl) (by kernel_rfl)) ?_
  intro W base args ds gs before hval0 hW hcnd _
  have hval : ∀ (j : Nat) t v, Try.f5.params[j]? = some t → args[j]? = some v → Value.okWide Try.prog W .any base t v := hval0
  have hW' := hW
  obtain ⟨p, q, hA0, hV, rfl, hfz, hnd⟩ := hW
  have hA : DataW.TrodAll enc Try.prog W 0 (fun _ => true) true Try.f5.params.toList args.toList ds p := hA0
  rw [Try.params5] at hA hval
  obtain ⟨v0, vs0, d0, ds0, p0, q0, hargs, rfl, rfl, h0, r0⟩ := trodAll_cons hA
  obtain ⟨v1, vs1, d1, ds1, p1, q1, rfl, rfl, rfl, h1, r1⟩ := trodAll_cons r0
  obtain ⟨rfl, rfl, rfl⟩ := trodAll_nil r1
  obtain rfl : args = #[v0, v1] := by cases args; simp_all
  obtain ⟨rfl, rfl⟩ := trodVars_none hV
  have k0 := h0
  have lt0 : ∀ x ∈ p0, x.block < W.heap.size := by obtain ⟨m, hm⟩ := k0; exact DataW.trod_lt m _ _ _ hm
  obtain ⟨s0, t0, z0, n0, f0, g0⟩ := blk_of (hval 0 39 v0 rfl rfl) h0
  obtain ⟨a1, l1, c1, rfl⟩ := okWide_slice Try.underlying24 (hval 1 24 v1 rfl rfl)
  have k1 := h1
  have lt1 : ∀ x ∈ p1, x.block < W.heap.size := by obtain ⟨m, hm⟩ := k1; exact DataW.trod_lt m _ _ _ hm
  obtain ⟨f1, g1⟩ := byt_of h1
  clear hA0 hval0
  refine (walk W _ _ _ _ _ _ g0 _ _ _ g1).mono fun e W' ⟨he, bel⟩ => ?_
  subst he
  exact ⟨_, rfl, _, _, _, [], _, [], hW', trodAll_mk1 (shut_bool Try.underlying4 _), (trodAll_cons_mk (Below.trod Try.laidOut (by kernel_rfl) (of_decide_eq_true (by kernel_rfl)) k0 bel lt0) (trodAll_cons_mk (Below.trod Try.laidOut (by kernel_rfl) (of_decide_eq_true (by kernel_rfl)) k1 bel lt1) trodAll_mk0)), rfl, bel.frame _, fun h => by cases h⟩

theorem over : Rows.blockTellsRow.holds Try.pinned (OpenSpec.ofChange Rows.blockTellsSpec) :=
  OpenClaim.holds_of_wide 5 Try.f5 rfl rfl rfl rfl rfl rfl rfl ⟨rfl, rfl, rfl, rfl, rfl⟩ rfl rfl rfl rfl rfl (by kernel_rfl) Try.func5 (by kernel_rfl)
    (of_decide_eq_true (by kernel_rfl)) (by unfold Func.isWrapper; first | (rw [if_pos (by decide +kernel)]; kernel_rfl) | (rw [if_neg (by decide +kernel)]; exact ⟨rfl, rfl⟩))
    (fun os started H enc _ => lifted os started H enc)
end Go.Proofs.Ytfddjmkbejjhdac.blockTells

namespace Go.Proofs.Ytfddjmkbejjhdac
theorem blockTells_holds : Rows.BlockTellsSaid := blockTells.over
#print axioms blockTells_holds
end Go.Proofs.Ytfddjmkbejjhdac
