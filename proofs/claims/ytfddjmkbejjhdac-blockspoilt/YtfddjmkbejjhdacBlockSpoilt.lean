/-
  Whatever block there is that can be written: of its bytes, one of which was turned, no block is told, but that the form or the sum is wrong. No condition.
-/
import Derived.Test.YtfddjmkbejjhdacRows
import Derived.Test.YtfddjmkbejjhdacOpenB
import Derived.ProofKit
import Derived.OpenShut
import Derived.Carry
namespace Go.Proofs.Ytfddjmkbejjhdac.blockSpoilt
open Go.ChangeShapes Go.WideShapes Go.ChangeAt Go.RowKit
set_option linter.unusedVariables false

theorem own : ownKnob Try.prog.godebug = none := by kernel_rfl

set_option maxHeartbeats 400000 in
theorem early (w : World) (v : Value) (s h z : Int) (n : Nat) (f : Nat → Nat) (hx : Blk w v s h z n f) (p y : Int) (hE : Crc.wrongB s h z n ≠ 0) :
    Calls Try.prog 7 #[v, .int .i64 p, .int .u8 y] w fun e w' => e = .returned (.bool true) ∧ Below w.heap.size w w' := by
  have HB := fun w' hb' => bytes_any v s h z n f w' (hx.below (w' := w') hb')
  have hx' : (((Crc.wrongB s h z n : Nat) : Int) == 0) = false := by rw [beq_eq_false_iff_ne]; omega
  have hxn : (((Crc.wrongB s h z n : Nat) : Int) != 0) = true := by rw [bne, hx']; rfl
  obtain ⟨d, rfl, hd⟩ := hx
  obtain ⟨A, C, rfl⟩ := hd.shape
  have hb0 : Below w.heap.size w (w.alloc (.cells #[.int .i64 s, .int .i64 h, .int .i64 z, .slice A n C] 39)) := (Below.refl _ _).alloc (Nat.le_refl _) _
  have V0 := varB_new w (.int .i64 s) (.int .i64 h) (.int .i64 z) (.slice A n C)
  clear hE hd
  go_enter Try.func7, Try.ntmps7
  go_wp2_with fail
  refine (alive4_any _).mono ?_
  rintro e u1 ⟨rfl, b1⟩
  obtain ⟨k0, k1, k2, k3, _⟩ := V0.below b1
  have b1 := bt hb0 b1
  clear V0 hb0
  go_wp2_with fail
  refine (HB _ b1).mono ?_
  rintro e u2 ⟨v2, rfl, HO, b2⟩
  have b2 := bt b1 b2
  clear HB HO
  go_wp2_with fail
  go_ret
  exact ⟨rfl, b2⟩

set_option maxHeartbeats 400000 in
theorem early1 (w : World) (d : Value) (s h z n : Nat) (f : Nat → Nat) (hd : Byts w d n f) (p y : Int) (hE : Crc.wrongB s h z n = 0) (hp : p < 0) :
    Calls Try.prog 7 #[.agg #[.int .i64 (s : Int), .int .i64 (h : Int), .int .i64 (z : Int), d], .int .i64 p, .int .u8 y] w fun e w' => e = .returned (.bool true) ∧ Below w.heap.size w w' := by
  have HB := fun w' (hb' : Below w.heap.size w w') => bytes_ok s h z d n f w' (hd.below hb') hE
  obtain ⟨A, C, rfl⟩ := hd.shape
  have hb0 : Below w.heap.size w (w.alloc (.cells #[.int .i64 (s : Int), .int .i64 (h : Int), .int .i64 (z : Int), .slice A n C] 39)) := (Below.refl _ _).alloc (Nat.le_refl _) _
  have V0 := varB_new w (.int .i64 (s : Int)) (.int .i64 (h : Int)) (.int .i64 (z : Int)) (.slice A n C)
  have hn4 := (Crc.wrongB_inv hE).2.2
  clear hE
  go_enter Try.func7, Try.ntmps7
  go_wp2_with fail
  refine (alive4_any _).mono ?_
  rintro e u1 ⟨rfl, b1⟩
  obtain ⟨k0, k1, k2, k3, _⟩ := V0.below b1
  have b1 := bt hb0 b1
  clear V0 hb0
  go_wp2_with fail
  refine (HB _ b1).mono ?_
  rintro e u2 ⟨v2, rfl, HM, b2⟩
  obtain ⟨g, cap, rfl, hg, hc1, hc2, HR⟩ := HM
  have hc3 : cap ≤ 9223372036854775807 := hc2
  have bz := bt b1 b2
  clear HB k0 k1 k2 k3
  clear HR
  go_wp2_with fail
  go_ret
  exact ⟨rfl, bz⟩

set_option maxHeartbeats 400000 in
theorem early2 (w : World) (d : Value) (s h z n : Nat) (f : Nat → Nat) (hd : Byts w d n f) (p y : Int) (hE : Crc.wrongB s h z n = 0) (hp : ¬ p < 0) (hq : (n : Int) + 11 ≤ p) :
    Calls Try.prog 7 #[.agg #[.int .i64 (s : Int), .int .i64 (h : Int), .int .i64 (z : Int), d], .int .i64 p, .int .u8 y] w fun e w' => e = .returned (.bool true) ∧ Below w.heap.size w w' := by
  have HB := fun w' (hb' : Below w.heap.size w w') => bytes_ok s h z d n f w' (hd.below hb') hE
  obtain ⟨A, C, rfl⟩ := hd.shape
  have hb0 : Below w.heap.size w (w.alloc (.cells #[.int .i64 (s : Int), .int .i64 (h : Int), .int .i64 (z : Int), .slice A n C] 39)) := (Below.refl _ _).alloc (Nat.le_refl _) _
  have V0 := varB_new w (.int .i64 (s : Int)) (.int .i64 (h : Int)) (.int .i64 (z : Int)) (.slice A n C)
  have hn4 := (Crc.wrongB_inv hE).2.2
  clear hE
  go_enter Try.func7, Try.ntmps7
  go_wp2_with fail
  refine (alive4_any _).mono ?_
  rintro e u1 ⟨rfl, b1⟩
  obtain ⟨k0, k1, k2, k3, _⟩ := V0.below b1
  have b1 := bt hb0 b1
  clear V0 hb0
  go_wp2_with fail
  refine (HB _ b1).mono ?_
  rintro e u2 ⟨v2, rfl, HM, b2⟩
  obtain ⟨g, cap, rfl, hg, hc1, hc2, HR⟩ := HM
  have hc3 : cap ≤ 9223372036854775807 := hc2
  have bz := bt b1 b2
  clear HB k0 k1 k2 k3
  clear HR
  go_wp2_with fail
  go_ret
  exact ⟨rfl, bz⟩

set_option maxHeartbeats 400000 in
theorem early3 (w : World) (d : Value) (s h z n : Nat) (f : Nat → Nat) (hd : Byts w d n f) (p y : Int) (hE : Crc.wrongB s h z n = 0) (hp : ¬ p < 0) (hq : p < (n : Int) + 11) (hy : y = 0) :
    Calls Try.prog 7 #[.agg #[.int .i64 (s : Int), .int .i64 (h : Int), .int .i64 (z : Int), d], .int .i64 p, .int .u8 y] w fun e w' => e = .returned (.bool true) ∧ Below w.heap.size w w' := by
  have HB := fun w' (hb' : Below w.heap.size w w') => bytes_ok s h z d n f w' (hd.below hb') hE
  obtain ⟨A, C, rfl⟩ := hd.shape
  have hb0 : Below w.heap.size w (w.alloc (.cells #[.int .i64 (s : Int), .int .i64 (h : Int), .int .i64 (z : Int), .slice A n C] 39)) := (Below.refl _ _).alloc (Nat.le_refl _) _
  have V0 := varB_new w (.int .i64 (s : Int)) (.int .i64 (h : Int)) (.int .i64 (z : Int)) (.slice A n C)
  have hn4 := (Crc.wrongB_inv hE).2.2
  subst hy
  have hq2 : ¬ (n : Int) + 11 ≤ p := by omega
  clear hE
  go_enter Try.func7, Try.ntmps7
  go_wp2_with fail
  refine (alive4_any _).mono ?_
  rintro e u1 ⟨rfl, b1⟩
  obtain ⟨k0, k1, k2, k3, _⟩ := V0.below b1
  have b1 := bt hb0 b1
  clear V0 hb0
  go_wp2_with fail
  refine (HB _ b1).mono ?_
  rintro e u2 ⟨v2, rfl, HM, b2⟩
  obtain ⟨g, cap, rfl, hg, hc1, hc2, HR⟩ := HM
  have hc3 : cap ≤ 9223372036854775807 := hc2
  have bz := bt b1 b2
  clear HB k0 k1 k2 k3
  clear HR
  go_wp2_with fail
  go_ret
  exact ⟨rfl, bz⟩

set_option maxHeartbeats 1000000 in
theorem main (w : World) (d : Value) (s h z n : Nat) (f : Nat → Nat) (hd : Byts w d n f) (P Y : Nat) (hE : Crc.wrongB s h z n = 0) (hP : P < n + 11) (hY1 : 1 ≤ Y) (hY2 : Y < 256) :
    Calls Try.prog 7 #[.agg #[.int .i64 (s : Int), .int .i64 (h : Int), .int .i64 (z : Int), d], .int .i64 (P : Int), .int .u8 (Y : Int)] w fun e w' => e = .returned (.bool true) ∧ Below w.heap.size w w' := by
  have HB := fun w' (hb' : Below w.heap.size w w') => bytes_ok s h z d n f w' (hd.below hb') hE
  obtain ⟨A, C, rfl⟩ := hd.shape
  have hb0 : Below w.heap.size w (w.alloc (.cells #[.int .i64 (s : Int), .int .i64 (h : Int), .int .i64 (z : Int), .slice A n C] 39)) := (Below.refl _ _).alloc (Nat.le_refl _) _
  have V0 := varB_new w (.int .i64 (s : Int)) (.int .i64 (h : Int)) (.int .i64 (z : Int)) (.slice A n C)
  have hn4 := (Crc.wrongB_inv hE).2.2
  have hbs := (Crc.wrongB_inv hE).1
  have hbe : Bd (Crc.enc s h z n f) := Crc.enc_bd (by omega) (by omega) (by omega) (by omega) hd.bd
  have hbp : Bd (put (Crc.enc s h z n f) P (Crc.enc s h z n f P ^^^ Y)) := fun k => by
    unfold put
    split
    · exact Nat.xor_lt_two_pow (n := 8) (hbe P) hY2
    · exact hbe k
  have HT : Hid (Crc.parseE (put (Crc.enc s h z n f) P (Crc.enc s h z n f P ^^^ Y)) (n + 11) = 2 ∨ Crc.parseE (put (Crc.enc s h z n f) P (Crc.enc s h z n f P ^^^ Y)) (n + 11) = 9) :=
    Crc.parse_turned hd.bd hbp hE hP (by
      unfold put
      rw [if_pos rfl]
      intro e
      have := Crc.xor_left_inj (e.trans (Nat.xor_zero _).symm)
      omega) (fun k hk => by unfold put; rw [if_neg hk])
  have hxb := u8_xor_nat (Crc.enc s h z n f P) Y (hbe P) hY2
  have HF : Hid (∀ j, (if j = P then Value.int .u8 ((Crc.enc s h z n f P ^^^ Y : Nat) : Int) else Value.int .u8 ((Crc.enc s h z n f j : Nat) : Int)) = Value.int .u8 ((put (Crc.enc s h z n f) P (Crc.enc s h z n f P ^^^ Y) j : Nat) : Int)) := fun j => by
    unfold put
    split <;> rfl
  have HPA := fun v w' (hy : Byts w' v (n + 11) (put (Crc.enc s h z n f) P (Crc.enc s h z n f P ^^^ Y))) => parse_any v (n + 11) _ w' hy
  generalize put (Crc.enc s h z n f) P (Crc.enc s h z n f P ^^^ Y) = G at hbp HT HF HPA
  generalize Crc.parseE G (n + 11) = E at HT HPA
  generalize Crc.enc s h z n f = F at HB hbe hxb HF
  generalize F P ^^^ Y = X at hxb HF
  have hP1 : (P : Int) < (n : Int) + 11 := by omega
  have hP2 : ¬ (n : Int) + 11 ≤ (P : Int) := by omega
  have hY3 : ((Y : Int) == 0) = false := by rw [beq_eq_false_iff_ne]; omega
  clear hE hbs hd hY1
  go_enter Try.func7, Try.ntmps7
  go_wp2_with fail
  refine (alive4_any _).mono ?_
  rintro e u1 ⟨rfl, b1⟩
  obtain ⟨k0, k1, k2, k3, _⟩ := V0.below b1
  have b1 := bt hb0 b1
  clear V0 hb0
  go_wp2_with fail
  refine (HB _ b1).mono ?_
  rintro e u2 ⟨v2, rfl, HM, b2⟩
  obtain ⟨g, cap, rfl, hg, hc1, hc2, HR⟩ := HM
  have hc3 : cap ≤ 9223372036854775807 := hc2
  have bz := bt b1 b2
  clear HB k0 k1 k2 k3
  have cP := HR.cell (j := P) hP
  have fP := HR.frozen P
  have HY : Hid (Byts (u2.setCell ⟨g, P, none⟩ (.int .u8 (X : Nat))) (.slice (some ⟨g, 0, none⟩) (n + 11) cap) (n + 11) G) := byts_of_row hbp ((HR.set P (.int .u8 (X : Nat))).congr (fun j _ => HF.out j)) hc1 hc2
  have hgw : w.heap.size ≤ g := Nat.le_trans b1.size hg
  have by3 := bz.setCell (p := ⟨g, P, none⟩) hgw (.int .u8 (X : Nat))
  have HPA := HPA _ _ HY.out
  clear HR HF HY
  go_wp2_with fail
  refine HPA.mono ?_
  rintro e u3 ⟨v3, rfl, HK, b3⟩
  have b3 := bt by3 b3
  clear HPA HK
  rcases HT.out with rfl | rfl
  · go_wp2_with fail
    go_ret
    exact ⟨rfl, b3⟩
  · go_wp2_with fail
    go_ret
    exact ⟨rfl, b3⟩

theorem walk (w : World) (v : Value) (s h z : Int) (n : Nat) (f : Nat → Nat) (hx : Blk w v s h z n f) (p : Int) (gp : (Lit.int .i64 p).wf = true) (y : Int) (gy : (Lit.int .u8 y).wf = true) :
    Calls Try.prog 7 #[v, .int .i64 p, .int .u8 y] w fun e w' => e = .returned (.bool true) ∧ Below w.heap.size w w' := by
  by_cases hE : Crc.wrongB s h z n = 0
  · obtain ⟨d, rfl, hd⟩ := hx
    have hi := Crc.wrongB_inv hE
    obtain ⟨S, rfl⟩ := Int.eq_ofNat_of_zero_le hi.1.1
    obtain ⟨H, rfl⟩ := Int.eq_ofNat_of_zero_le hi.1.2.2.1
    obtain ⟨Z, rfl⟩ := Int.eq_ofNat_of_zero_le hi.1.2.2.2.2.1
    have hb := bounds_u8 gy
    by_cases h1 : p < 0
    · exact early1 w d S H Z n f hd p y hE h1
    by_cases h2 : (n : Int) + 11 ≤ p
    · exact early2 w d S H Z n f hd p y hE h1 h2
    by_cases h3 : y = 0
    · exact early3 w d S H Z n f hd p y hE h1 (by omega) h3
    obtain ⟨P, rfl⟩ := Int.eq_ofNat_of_zero_le (show 0 ≤ p by omega)
    obtain ⟨Y, rfl⟩ := Int.eq_ofNat_of_zero_le hb.1
    exact main w d S H Z n f hd P Y hE (by omega) (by omega) (by omega)
  · exact early w v s h z n f hx p y hE

set_option maxRecDepth 100000 in
theorem lifted (os : Os) (started : os.Started) (H : Type) (enc : TypeId × Value → H) :
    ReturnsInHanded {} Try.checked os 7 .any (Rows.blockSpoiltSpec.pre6 enc Try.prog Try.f7 Rows.blockSpoiltRow.domain false) (Rows.blockSpoiltSpec.post enc Try.prog Try.f7 false true false false) := by
  refine returnsInHanded_of_change (C := Try.checked) own started (by kernel_rfl) Try.func7
    (ChangeSpec.witness6 (enc := enc) (C := Try.checked) false ⟨#[], #[.agg #[.int .i64 0, .int .i64 0, .int .i64 0, .slice none 0 0], .int .i64 0, .int .u8 0], []⟩ 8 (by kernel_rfl) (by kernel_rfl) (by kernel_rfl) (by kernel_rfl)) ?_
  intro W base args ds gs before hval0 hW hcnd _
  have hval : ∀ (j : Nat) t v, Try.f7.params[j]? = some t → args[j]? = some v → Value.okWide Try.prog W .any base t v := hval0
  have hW' := hW
  obtain ⟨p, q, hA0, hV, rfl, hfz, hnd⟩ := hW
  have hA : DataW.TrodAll enc Try.prog W 0 (fun _ => true) true Try.f7.params.toList args.toList ds p := hA0
  rw [Try.params7] at hA hval
  obtain ⟨v0, vs0, d0, ds0, p0, q0, hargs, rfl, rfl, h0, r0⟩ := trodAll_cons hA
  obtain ⟨v1, vs1, d1, ds1, p1, q1, rfl, rfl, rfl, h1, r1⟩ := trodAll_cons r0
  obtain ⟨v2, vs2, d2, ds2, p2, q2, rfl, rfl, rfl, h2, r2⟩ := trodAll_cons r1
  obtain ⟨rfl, rfl, rfl⟩ := trodAll_nil r2
  obtain rfl : args = #[v0, v1, v2] := by cases args; simp_all
  obtain ⟨rfl, rfl⟩ := trodVars_none hV
  have k0 := h0
  have lt0 : ∀ x ∈ p0, x.block < W.heap.size := by obtain ⟨m, hm⟩ := k0; exact DataW.trod_lt m _ _ _ hm
  obtain ⟨s0, t0, z0, n0, f0, g0⟩ := blk_of (hval 0 39 v0 rfl rfl) h0
  obtain ⟨a1, rfl, rfl, rfl, g1⟩ := open_int Try.underlying3 (hval 1 3 v1 rfl rfl) h1
  obtain ⟨a2, rfl, rfl, rfl, g2⟩ := open_int Try.underlying5 (hval 2 5 v2 rfl rfl) h2
  clear hA0 hval0
  refine (walk W _ _ _ _ _ _ g0 a1 g1 a2 g2).mono fun e W' ⟨he, bel⟩ => ?_
  subst he
  exact ⟨_, rfl, _, _, _, [], _, [], hW', trodAll_mk1 (shut_bool Try.underlying4 _), (trodAll_cons_mk (Below.trod Try.laidOut (by kernel_rfl) (of_decide_eq_true (by kernel_rfl)) k0 bel lt0) (trodAll_cons_mk (shut_int Try.underlying3 g1) (trodAll_cons_mk (shut_int Try.underlying5 g2) trodAll_mk0))), rfl, bel.frame _, fun h => by cases h⟩

theorem over : Rows.blockSpoiltRow.holds Try.pinned (OpenSpec.ofChange Rows.blockSpoiltSpec) :=
  OpenClaim.holds_of_wide 7 Try.f7 rfl rfl rfl rfl rfl rfl rfl ⟨rfl, rfl, rfl, rfl, rfl⟩ rfl rfl rfl rfl rfl (by kernel_rfl) Try.func7 (by kernel_rfl)
    (of_decide_eq_true (by kernel_rfl)) (by unfold Func.isWrapper; first | (rw [if_pos (by decide +kernel)]; kernel_rfl) | (rw [if_neg (by decide +kernel)]; exact ⟨rfl, rfl⟩))
    (fun os started H enc _ => lifted os started H enc)
end Go.Proofs.Ytfddjmkbejjhdac.blockSpoilt

namespace Go.Proofs.Ytfddjmkbejjhdac
theorem blockSpoilt_holds : Rows.BlockSpoiltSaid := blockSpoilt.over
#print axioms blockSpoilt_holds
end Go.Proofs.Ytfddjmkbejjhdac
