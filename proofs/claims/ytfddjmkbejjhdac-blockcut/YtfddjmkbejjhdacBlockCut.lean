/-
  Whatever block there is that can be written: its bytes cut short, or made longer, are of no block, and that is told. No condition.
-/
import Derived.Test.YtfddjmkbejjhdacRows
import Derived.Test.YtfddjmkbejjhdacBCopy
import Derived.ProofKit
import Derived.OpenShut
import Derived.Carry
import Derived.Deep.Cut
namespace Go.Proofs.Ytfddjmkbejjhdac.blockCut
open Go.ChangeShapes Go.WideShapes Go.ChangeAt Go.RowKit
set_option linter.unusedVariables false

theorem own : ownKnob Try.prog.godebug = none := by kernel_rfl

set_option maxHeartbeats 400000 in
theorem early (w : World) (v : Value) (s h z : Int) (n : Nat) (f : Nat → Nat) (hx : Blk w v s h z n f) (p : Int) (hE : Crc.wrongB s h z n ≠ 0) :
    Calls Try.prog 8 #[v, .int .i64 p] w fun e w' => e = .returned (.bool true) ∧ Below w.heap.size w w' := by
  have HB := fun w' hb' => bytes_any v s h z n f w' (hx.below (w' := w') hb')
  have hx' : (((Crc.wrongB s h z n : Nat) : Int) == 0) = false := by rw [beq_eq_false_iff_ne]; omega
  have hxn : (((Crc.wrongB s h z n : Nat) : Int) != 0) = true := by rw [bne, hx']; rfl
  obtain ⟨d, rfl, hd⟩ := hx
  obtain ⟨A, C, rfl⟩ := hd.shape
  have hb0 : Below w.heap.size w (w.alloc (.cells #[.int .i64 s, .int .i64 h, .int .i64 z, .slice A n C] 39)) := (Below.refl _ _).alloc (Nat.le_refl _) _
  have V0 := varB_new w (.int .i64 s) (.int .i64 h) (.int .i64 z) (.slice A n C)
  clear hE hd
  go_enter Try.func8, Try.ntmps8
  go_wp2_with fail
  refine (alive4_any _).mono ?_
  rintro e u1 ⟨rfl, b1⟩
  obtain ⟨k0, k1, k2, k3, _⟩ := V0.below b1
  have b1 := bt hb0 b1
  clear V0 hb0
  go_wp2_with fail
  refine (HB _ b1).mono ?_
  rintro e u2 ⟨v2, rfl, HO, b2⟩
  have b2 := bt b1 b2
  clear HB HO
  go_wp2_with fail
  go_ret
  exact ⟨rfl, b2⟩

set_option maxHeartbeats 400000 in
theorem early1 (w : World) (d : Value) (s h z n : Nat) (f : Nat → Nat) (hd : Byts w d n f) (p : Int) (hE : Crc.wrongB s h z n = 0) (hp : p < 0) :
    Calls Try.prog 8 #[.agg #[.int .i64 (s : Int), .int .i64 (h : Int), .int .i64 (z : Int), d], .int .i64 p] w fun e w' => e = .returned (.bool true) ∧ Below w.heap.size w w' := by
  have HB := fun w' (hb' : Below w.heap.size w w') => bytes_ok s h z d n f w' (hd.below hb') hE
  obtain ⟨A, C, rfl⟩ := hd.shape
  have hb0 : Below w.heap.size w (w.alloc (.cells #[.int .i64 (s : Int), .int .i64 (h : Int), .int .i64 (z : Int), .slice A n C] 39)) := (Below.refl _ _).alloc (Nat.le_refl _) _
  have V0 := varB_new w (.int .i64 (s : Int)) (.int .i64 (h : Int)) (.int .i64 (z : Int)) (.slice A n C)
  have hn4 := (Crc.wrongB_inv hE).2.2
  clear hE
  go_enter Try.func8, Try.ntmps8
  go_wp2_with fail
  refine (alive4_any _).mono ?_
  rintro e u1 ⟨rfl, b1⟩
  obtain ⟨k0, k1, k2, k3, _⟩ := V0.below b1
  have b1 := bt hb0 b1
  clear V0 hb0
  go_wp2_with fail
  refine (HB _ b1).mono ?_
  rintro e u2 ⟨v2, rfl, HM, b2⟩
  obtain ⟨g, cap, rfl, hg, hc1, hc2, HR⟩ := HM
  have hc3 : cap ≤ 9223372036854775807 := hc2
  have bz := bt b1 b2
  clear HB k0 k1 k2 k3
  clear HR
  go_wp2_with fail
  go_ret
  exact ⟨rfl, bz⟩

set_option maxHeartbeats 400000 in
theorem early2 (w : World) (d : Value) (s h z n : Nat) (f : Nat → Nat) (hd : Byts w d n f) (p : Int) (hE : Crc.wrongB s h z n = 0) (hp : ¬ p < 0) (hq : (n : Int) + 11 + 20 < p) :
    Calls Try.prog 8 #[.agg #[.int .i64 (s : Int), .int .i64 (h : Int), .int .i64 (z : Int), d], .int .i64 p] w fun e w' => e = .returned (.bool true) ∧ Below w.heap.size w w' := by
  have HB := fun w' (hb' : Below w.heap.size w w') => bytes_ok s h z d n f w' (hd.below hb') hE
  obtain ⟨A, C, rfl⟩ := hd.shape
  have hb0 : Below w.heap.size w (w.alloc (.cells #[.int .i64 (s : Int), .int .i64 (h : Int), .int .i64 (z : Int), .slice A n C] 39)) := (Below.refl _ _).alloc (Nat.le_refl _) _
  have V0 := varB_new w (.int .i64 (s : Int)) (.int .i64 (h : Int)) (.int .i64 (z : Int)) (.slice A n C)
  have hn4 := (Crc.wrongB_inv hE).2.2
  clear hE
  go_enter Try.func8, Try.ntmps8
  go_wp2_with fail
  refine (alive4_any _).mono ?_
  rintro e u1 ⟨rfl, b1⟩
  obtain ⟨k0, k1, k2, k3, _⟩ := V0.below b1
  have b1 := bt hb0 b1
  clear V0 hb0
  go_wp2_with fail
  refine (HB _ b1).mono ?_
  rintro e u2 ⟨v2, rfl, HM, b2⟩
  obtain ⟨g, cap, rfl, hg, hc1, hc2, HR⟩ := HM
  have hc3 : cap ≤ 9223372036854775807 := hc2
  have bz := bt b1 b2
  clear HB k0 k1 k2 k3
  clear HR
  go_wp2_with fail
  go_ret
  exact ⟨rfl, bz⟩

set_option maxHeartbeats 400000 in
theorem early3 (w : World) (d : Value) (s h z n : Nat) (f : Nat → Nat) (hd : Byts w d n f) (p : Int) (hE : Crc.wrongB s h z n = 0) (hp : ¬ p < 0) (hq : p = (n : Int) + 11) :
    Calls Try.prog 8 #[.agg #[.int .i64 (s : Int), .int .i64 (h : Int), .int .i64 (z : Int), d], .int .i64 p] w fun e w' => e = .returned (.bool true) ∧ Below w.heap.size w w' := by
  have HB := fun w' (hb' : Below w.heap.size w w') => bytes_ok s h z d n f w' (hd.below hb') hE
  obtain ⟨A, C, rfl⟩ := hd.shape
  have hb0 : Below w.heap.size w (w.alloc (.cells #[.int .i64 (s : Int), .int .i64 (h : Int), .int .i64 (z : Int), .slice A n C] 39)) := (Below.refl _ _).alloc (Nat.le_refl _) _
  have V0 := varB_new w (.int .i64 (s : Int)) (.int .i64 (h : Int)) (.int .i64 (z : Int)) (.slice A n C)
  have hn4 := (Crc.wrongB_inv hE).2.2
  subst hq
  have hq2 : ¬ (n : Int) + 11 + 20 < (n : Int) + 11 := by omega
  clear hE
  go_enter Try.func8, Try.ntmps8
  go_wp2_with fail
  refine (alive4_any _).mono ?_
  rintro e u1 ⟨rfl, b1⟩
  obtain ⟨k0, k1, k2, k3, _⟩ := V0.below b1
  have b1 := bt hb0 b1
  clear V0 hb0
  go_wp2_with fail
  refine (HB _ b1).mono ?_
  rintro e u2 ⟨v2, rfl, HM, b2⟩
  obtain ⟨g, cap, rfl, hg, hc1, hc2, HR⟩ := HM
  have hc3 : cap ≤ 9223372036854775807 := hc2
  have bz := bt b1 b2
  clear HB k0 k1 k2 k3
  clear HR
  go_wp2_with fail
  go_ret
  exact ⟨rfl, bz⟩

set_option maxHeartbeats 1000000 in
theorem main (w : World) (d : Value) (s h z n : Nat) (f : Nat → Nat) (hd : Byts w d n f) (M : Nat) (hE : Crc.wrongB s h z n = 0) (hM : M ≤ n + 31) (hMn : M ≠ n + 11) :
    Calls Try.prog 8 #[.agg #[.int .i64 (s : Int), .int .i64 (h : Int), .int .i64 (z : Int), d], .int .i64 (M : Int)] w fun e w' => e = .returned (.bool true) ∧ Below w.heap.size w w' := by
  have HB := fun w' (hb' : Below w.heap.size w w') => bytes_ok s h z d n f w' (hd.below hb') hE
  obtain ⟨A, C, rfl⟩ := hd.shape
  have hb0 : Below w.heap.size w (w.alloc (.cells #[.int .i64 (s : Int), .int .i64 (h : Int), .int .i64 (z : Int), .slice A n C] 39)) := (Below.refl _ _).alloc (Nat.le_refl _) _
  have V0 := varB_new w (.int .i64 (s : Int)) (.int .i64 (h : Int)) (.int .i64 (z : Int)) (.slice A n C)
  have hn4 := (Crc.wrongB_inv hE).2.2
  have hbs := (Crc.wrongB_inv hE).1
  have hbe : Bd (Crc.enc s h z n f) := Crc.enc_bd (by omega) (by omega) (by omega) (by omega) hd.bd
  have HT : Hid (Crc.parseE (over (Crc.enc s h z n f) (n + 11) M) M = 2) := Crc.parse_cut hE hMn (fun k h1 h2 => by
    unfold over
    rw [if_pos (Nat.lt_min.2 ⟨h2, h1⟩)])
  have hbp := over_bd hbe (n + 11) M
  have HPA := fun v w' (hy : Byts w' v M (over (Crc.enc s h z n f) (n + 11) M)) => parse_any v M _ w' hy
  rw [HT.out] at HPA
  have hmk := run_make_row' (P := Try.prog) 24 5 (.int .u8 0) 1 Try.underlying24 Try.infoByte rfl .i64 .i64 M (by omega) (by omega)
  have h1c := cellsOf_one (Crc.enc s h z n f) (Nat.min (n + 11) M)
  generalize Crc.enc s h z n f = F at HB hbe hbp HPA h1c
  have hlc : (cellsOf F (Nat.min (n + 11) M)).length = Nat.min (n + 11) M := by simp [cellsOf]
  have hP1 : ¬ (n : Int) + 11 + 20 < (M : Int) := by omega
  have hP0 : ¬ (M : Int) < 0 := by omega
  have hP2 : ((M : Int) == (n : Int) + 11) = false := by rw [beq_eq_false_iff_ne]; omega
  have hsz : (Try.prog.info? 5).map (·.size) = some 1 := by
    obtain ⟨i1, hi1, hh1⟩ := Option.map_eq_some_iff.1 Try.infoByte
    simp only [Prod.mk.injEq] at hh1
    rw [hi1]
    simp [hh1.2.1]
  clear hE hbs hd HT
  go_enter Try.func8, Try.ntmps8
  go_wp2_with fail
  refine (alive4_any _).mono ?_
  rintro e u1 ⟨rfl, b1⟩
  obtain ⟨k0, k1, k2, k3, _⟩ := V0.below b1
  have b1 := bt hb0 b1
  clear V0 hb0
  go_wp2_with fail
  refine (HB _ b1).mono ?_
  rintro e u2 ⟨v2, rfl, HM, b2⟩
  obtain ⟨g, cap, rfl, hg, hc1, hc2, HR⟩ := HM
  have hc3 : cap ≤ 9223372036854775807 := hc2
  have bz := bt b1 b2
  clear HB k0 k1 k2 k3
  have hgl := HR.lt
  have hcs : ∀ j v, (cellsOf F (Nat.min (n + 11) M))[j]? = some v → (u2.alloc (.cells (madeCells #[.int .u8 0] M) 5)).cell? ((⟨g, 0, none⟩ : Addr).add j) = some v := fun j v hj => by
    rcases Nat.lt_or_ge j (Nat.min (n + 11) M) with h | h
    · simp [cellsOf, h] at hj
      rw [WideShapes.add_plain, Nat.zero_add, (HR.alloc _).cell (Nat.lt_of_lt_of_le h (Nat.min_le_left _ _)), ← hj]
    · simp [List.getElem?_eq_none (show (cellsOf F (Nat.min (n + 11) M)).length ≤ j by rw [hlc]; exact h)] at hj
  have hgn : (u2.alloc (.cells (madeCells #[.int .u8 0] M) 5)).heap[u2.heap.size]? = some (.cells (madeCells #[.int .u8 0] M).toList.toArray 5 (0, 0)) := by
    rw [Array.toArray_toList]
    exact Deep.blk_alloc_new _ _
  have hfit : 0 + (cellsOf F (Nat.min (n + 11) M)).length ≤ (madeCells #[Value.int .u8 0] M).toList.length := by
    have h6 : (madeCells #[Value.int .u8 0] M).toList.length = M := by simp [madeCells]
    rw [Nat.zero_add, hlc, h6]
    exact Nat.min_le_right _ _
  have by3 := bz.alloc bz.size (.cells (madeCells #[.int .u8 0] M) 5)
  clear HR
  go_upto_region 7 with fail
  go_wp2_with (refine wpList_copy_splice rfl (.tmp 36) (.tmp 37) 24 24 rfl 5 Try.underlying24 hsz _ _ _ _ _ _ rfl rfl u2.heap.size 0 _ _ hgn _ hlc (fun _ => ⟨rfl, _, rfl, hcs⟩) hfit h1c w.heap.size w by3 bz.size ?_; intro u3 HG b3)
  have HPA := HPA _ _ (byts_of_row hbp (row_over HG.out) (Nat.le_refl M) (by unfold maxLen; omega))
  clear HG hgn hfit hcs
  refine HPA.mono ?_
  rintro e u4 ⟨v4, rfl, HK, b4⟩
  have b4 := bt b3 b4
  clear HPA HK
  go_wp2_with fail
  go_ret
  exact ⟨rfl, b4⟩

theorem walk (w : World) (v : Value) (s h z : Int) (n : Nat) (f : Nat → Nat) (hx : Blk w v s h z n f) (p : Int) (gp : (Lit.int .i64 p).wf = true) :
    Calls Try.prog 8 #[v, .int .i64 p] w fun e w' => e = .returned (.bool true) ∧ Below w.heap.size w w' := by
  by_cases hE : Crc.wrongB s h z n = 0
  · obtain ⟨d, rfl, hd⟩ := hx
    have hi := Crc.wrongB_inv hE
    obtain ⟨S, rfl⟩ := Int.eq_ofNat_of_zero_le hi.1.1
    obtain ⟨H, rfl⟩ := Int.eq_ofNat_of_zero_le hi.1.2.2.1
    obtain ⟨Z, rfl⟩ := Int.eq_ofNat_of_zero_le hi.1.2.2.2.2.1
    by_cases h1 : p < 0
    · exact early1 w d S H Z n f hd p hE h1
    by_cases h2 : (n : Int) + 11 + 20 < p
    · exact early2 w d S H Z n f hd p hE h1 h2
    by_cases h3 : p = (n : Int) + 11
    · exact early3 w d S H Z n f hd p hE h1 h3
    obtain ⟨P, rfl⟩ := Int.eq_ofNat_of_zero_le (show 0 ≤ p by omega)
    exact main w d S H Z n f hd P hE (by omega) (by omega)
  · exact early w v s h z n f hx p hE

set_option maxRecDepth 100000 in
theorem lifted (os : Os) (started : os.Started) (H : Type) (enc : TypeId × Value → H) :
    ReturnsInHanded {} Try.checked os 8 .any (Rows.blockCutSpec.pre6 enc Try.prog Try.f8 Rows.blockCutRow.domain false) (Rows.blockCutSpec.post enc Try.prog Try.f8 false true false false) := by
  refine returnsInHanded_of_change (C := Try.checked) own started (by kernel_rfl) Try.func8
    (ChangeSpec.witness6 (enc := enc) (C := Try.checked) false ⟨#[], #[.agg #[.int .i64 0, .int .i64 0, .int .i64 0, .slice none 0 0], .int .i64 0], []⟩ 8 (by kernel_rfl) (by kernel_rfl) (by kernel_rfl) (by kernel_rfl)) ?_
  intro W base args ds gs before hval0 hW hcnd _
  have hval : ∀ (j : Nat) t v, Try.f8.params[j]? = some t → args[j]? = some v → Value.okWide Try.prog W .any base t v := hval0
  have hW' := hW
  obtain ⟨p, q, hA0, hV, rfl, hfz, hnd⟩ := hW
  have hA : DataW.TrodAll enc Try.prog W 0 (fun _ => true) true Try.f8.params.toList args.toList ds p := hA0
  rw [Try.params8] at hA hval
  obtain ⟨v0, vs0, d0, ds0, p0, q0, hargs, rfl, rfl, h0, r0⟩ := trodAll_cons hA
  obtain ⟨v1, vs1, d1, ds1, p1, q1, rfl, rfl, rfl, h1, r1⟩ := trodAll_cons r0
  obtain ⟨rfl, rfl, rfl⟩ := trodAll_nil r1
  obtain rfl : args = #[v0, v1] := by cases args; simp_all
  obtain ⟨rfl, rfl⟩ := trodVars_none hV
  have k0 := h0
  have lt0 : ∀ x ∈ p0, x.block < W.heap.size := by obtain ⟨m, hm⟩ := k0; exact DataW.trod_lt m _ _ _ hm
  obtain ⟨s0, t0, z0, n0, f0, g0⟩ := blk_of (hval 0 39 v0 rfl rfl) h0
  obtain ⟨a1, rfl, rfl, rfl, g1⟩ := open_int Try.underlying3 (hval 1 3 v1 rfl rfl) h1
  clear hA0 hval0
  refine (walk W _ _ _ _ _ _ g0 a1 g1).mono fun e W' ⟨he, bel⟩ => ?_
  subst he
  exact ⟨_, rfl, _, _, _, [], _, [], hW', trodAll_mk1 (shut_bool Try.underlying4 _), (trodAll_cons_mk (Below.trod Try.laidOut (by kernel_rfl) (of_decide_eq_true (by kernel_rfl)) k0 bel lt0) (trodAll_cons_mk (shut_int Try.underlying3 g1) trodAll_mk0)), rfl, bel.frame _, fun h => by cases h⟩

theorem over : Rows.blockCutRow.holds Try.pinned (OpenSpec.ofChange Rows.blockCutSpec) :=
  OpenClaim.holds_of_wide 8 Try.f8 rfl rfl rfl rfl rfl rfl rfl ⟨rfl, rfl, rfl, rfl, rfl⟩ rfl rfl rfl rfl rfl (by kernel_rfl) Try.func8 (by kernel_rfl)
    (of_decide_eq_true (by kernel_rfl)) (by unfold Func.isWrapper; first | (rw [if_pos (by decide +kernel)]; kernel_rfl) | (rw [if_neg (by decide +kernel)]; exact ⟨rfl, rfl⟩))
    (fun os started H enc _ => lifted os started H enc)
end Go.Proofs.Ytfddjmkbejjhdac.blockCut

namespace Go.Proofs.Ytfddjmkbejjhdac
theorem blockCut_holds : Rows.BlockCutSaid := blockCut.over
#print axioms blockCut_holds
end Go.Proofs.Ytfddjmkbejjhdac
