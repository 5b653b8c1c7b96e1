/-
  Whatever block there is that can be written: it comes back; whatever bytes are read as a block are those that the block is written as. No condition.
-/
import Derived.Test.YtfddjmkbejjhdacRows
import Derived.Test.YtfddjmkbejjhdacBTurn
import Derived.ProofKit
import Derived.OpenShut
import Derived.Carry
namespace Go.Proofs.Ytfddjmkbejjhdac.blockTurns
open Go.ChangeShapes Go.WideShapes Go.ChangeAt Go.RowKit
set_option linter.unusedVariables false

theorem own : ownKnob Try.prog.godebug = none := by kernel_rfl

set_option maxHeartbeats 1000000 in
theorem w00 (w : World) (d : Value) (s h z : Nat) (n : Nat) (f : Nat → Nat) (hd : Byts w d n f) (v1 : Value) (N : Nat) (g : Nat → Nat) (hy : Byts w v1 N g) (hE : Crc.wrongB s h z n = 0) (hE2 : Crc.parseE g N = 0) :
    Calls Try.prog 6 #[.agg #[.int .i64 (s : Int), .int .i64 (h : Int), .int .i64 (z : Int), d], v1] w fun e w' => e = .returned (.bool true) ∧ Below w.heap.size w w' := by
  have HB := fun w' (hb' : Below w.heap.size w w') => bytes_ok s h z d n f w' (hd.below hb') hE
  have hin := Crc.wrongB_inv hE
  have hf := hd.bd
  have HW := fun v w' (q : Byts w' v (n + 11) (Crc.enc s h z n f)) => parse_written s h z n f v w' hf hE q
  have HBE : Hid (Bd (Crc.enc s h z n f)) := Crc.enc_bd (by omega) (by omega) (by omega) (by omega) hf
  have HD0 : Hid (∀ w', Below w.heap.size w w' → Byts w' d n f) := fun w' hb' => hd.below hb'
  have HY : Hid (∀ w', Below w.heap.size w w' → Byts w' v1 N g) := fun w' hb' => hy.below hb'
  have hg := hy.bd
  have HP := fun w' (hb' : Below w.heap.size w w') => parse_good v1 N g w' (hy.below hb') hE2
  have HR := fun A C w' (q : Byts w' (.slice A (N - 11) C) (N - 11) (fun k => g (k + 7))) => bytes_read N g hg hE2 A C w' q
  obtain ⟨A0, C0, rfl⟩ := hd.shape
  obtain ⟨A1, C1, rfl⟩ := hy.shape
  have hb0 : Below w.heap.size w (w.alloc (.cells #[.int .i64 (s : Int), .int .i64 (h : Int), .int .i64 (z : Int), .slice A0 n C0] 39)) := (Below.refl _ _).alloc (Nat.le_refl _) _
  have V0 := varB_new w (.int .i64 (s : Int)) (.int .i64 (h : Int)) (.int .i64 (z : Int)) (.slice A0 n C0)
  clear hE hE2 hd hy
  go_enter Try.func6, Try.ntmps6
  go_wp2_with fail
  refine (alive4_any _).mono ?_
  rintro e u1 ⟨rfl, b1⟩
  have V1 := V0.below b1
  have b1 := bt hb0 b1
  have V1h : Hid (VarB u1 w.heap.size (.int .i64 (s : Int)) (.int .i64 (h : Int)) (.int .i64 (z : Int)) (.slice A0 n C0)) := V1
  obtain ⟨k0, k1, k2, k3, _⟩ := V1
  clear V0 hb0
  go_wp2_with fail
  refine (HB _ b1).mono ?_
  rintro e u2 ⟨v2, rfl, HM, b2⟩
  have V2 := V1h.out.below b2
  have HW := HW _ _ (HM.byts HBE.out)
  obtain ⟨g2, cap2, rfl, _⟩ := HM
  have b2 := bt b1 b2
  clear HB k0 k1 k2 k3 V1h
  go_wp2_with fail
  refine HW.mono ?_
  rintro e u3 ⟨A3, C3, f3, rfl, Y3, he3, b3⟩
  have V3 := V2.below b3
  have b3 := bt b2 b3
  have b4 : Below w.heap.size w (u3.alloc (.cells #[.int .i64 (s : Int), .int .i64 (h : Int), .int .i64 (z : Int), .slice A3 n C3] 39)) := b3.alloc b3.size _
  have V4 := V3.below ((Below.refl u3.heap.size u3).alloc (Nat.le_refl _) (.cells #[.int .i64 (s : Int), .int .i64 (h : Int), .int .i64 (z : Int), .slice A3 n C3] 39))
  have HS := same_blk _ _ _ _ _ _ _ _ _ _ _ _ _ (⟨_, rfl, HD0.out _ b4⟩ : Blk _ (.agg #[.int .i64 (s : Int), .int .i64 (h : Int), .int .i64 (z : Int), .slice A0 n C0]) (s : Int) (h : Int) (z : Int) n f) (⟨_, rfl, Y3.below ((Below.refl u3.heap.size u3).alloc (Nat.le_refl _) (.cells #[.int .i64 (s : Int), .int .i64 (h : Int), .int .i64 (z : Int), .slice A3 n C3] 39))⟩ : Blk _ (.agg #[.int .i64 (s : Int), .int .i64 (h : Int), .int .i64 (z : Int), .slice A3 n C3]) (s : Int) (h : Int) (z : Int) n f3)
  have HSP : Hid (SameP (s : Int) (h : Int) (z : Int) n f (s : Int) (h : Int) (z : Int) n f3) := ⟨rfl, rfl, rfl, rfl, he3⟩
  obtain ⟨k0, k1, k2, k3, _⟩ := V4
  clear HW V2 V3 Y3 he3
  go_wp2_with fail
  refine HS.mono ?_
  rintro e u4 ⟨⟨y, rfl, hy⟩, b5⟩
  have b5 := bt b4 b5
  obtain rfl : y = true := hy.2 HSP.out
  clear HS hy k0 k1 k2 k3 HSP
  go_wp2_with fail
  refine (HP _ b5).mono ?_
  rintro e u5 ⟨A5, C5, rfl, Y5, b6⟩
  have b6 := bt b5 b6
  clear HP
  have HR := HR A5 C5 _ (Y5.below ((Below.refl u5.heap.size u5).alloc (Nat.le_refl _) (.cells #[.int .i64 (g 1 : Nat), .int .i64 (g 2 : Nat), .int .i64 (g 3 * 256 + g 4 : Nat), .slice A5 (N - 11) C5] 39)))
  have b7 : Below w.heap.size w (u5.alloc (.cells #[.int .i64 (g 1 : Nat), .int .i64 (g 2 : Nat), .int .i64 (g 3 * 256 + g 4 : Nat), .slice A5 (N - 11) C5] 39)) := b6.alloc b6.size _
  generalize g 3 * 256 + g 4 = q at HR b7
  clear Y5
  go_wp2_with fail
  refine HR.mono ?_
  rintro e u6 ⟨b8, cap8, rfl, Y8, b9⟩
  have b9 := bt b7 b9
  have q1 := conv_any Y8
  have q2 := conv_any (HY.out _ b9)
  have hst : ((strB g N).toList == (strB g N).toList) = true := by simp
  generalize strB g N = S at q1 q2 hst
  clear HR Y8
  go_wp2_with fail
  go_ret
  exact ⟨rfl, b9⟩

set_option maxHeartbeats 1000000 in
theorem w01 (w : World) (d : Value) (s h z : Nat) (n : Nat) (f : Nat → Nat) (hd : Byts w d n f) (v1 : Value) (N : Nat) (g : Nat → Nat) (hy : Byts w v1 N g) (hE : Crc.wrongB s h z n = 0) (hE2 : Crc.parseE g N ≠ 0) :
    Calls Try.prog 6 #[.agg #[.int .i64 (s : Int), .int .i64 (h : Int), .int .i64 (z : Int), d], v1] w fun e w' => e = .returned (.bool true) ∧ Below w.heap.size w w' := by
  have HB := fun w' (hb' : Below w.heap.size w w') => bytes_ok s h z d n f w' (hd.below hb') hE
  have hin := Crc.wrongB_inv hE
  have hf := hd.bd
  have HW := fun v w' (q : Byts w' v (n + 11) (Crc.enc s h z n f)) => parse_written s h z n f v w' hf hE q
  have HBE : Hid (Bd (Crc.enc s h z n f)) := Crc.enc_bd (by omega) (by omega) (by omega) (by omega) hf
  have HD0 : Hid (∀ w', Below w.heap.size w w' → Byts w' d n f) := fun w' hb' => hd.below hb'
  have HY : Hid (∀ w', Below w.heap.size w w' → Byts w' v1 N g) := fun w' hb' => hy.below hb'
  have hg := hy.bd
  have HP := fun w' (hb' : Below w.heap.size w w') => parse_none v1 N g w' (hy.below hb') hE2
  have hz' : (((Crc.parseE g N : Nat) : Int) == 0) = false := by rw [beq_eq_false_iff_ne]; omega
  have hzn : (((Crc.parseE g N : Nat) : Int) != 0) = true := by rw [bne, hz']; rfl
  have hbd7 : Bd (fun k => g (k + 7)) := fun k => hg _
  obtain ⟨A0, C0, rfl⟩ := hd.shape
  obtain ⟨A1, C1, rfl⟩ := hy.shape
  have hb0 : Below w.heap.size w (w.alloc (.cells #[.int .i64 (s : Int), .int .i64 (h : Int), .int .i64 (z : Int), .slice A0 n C0] 39)) := (Below.refl _ _).alloc (Nat.le_refl _) _
  have V0 := varB_new w (.int .i64 (s : Int)) (.int .i64 (h : Int)) (.int .i64 (z : Int)) (.slice A0 n C0)
  clear hE hE2 hd hy
  go_enter Try.func6, Try.ntmps6
  go_wp2_with fail
  refine (alive4_any _).mono ?_
  rintro e u1 ⟨rfl, b1⟩
  have V1 := V0.below b1
  have b1 := bt hb0 b1
  have V1h : Hid (VarB u1 w.heap.size (.int .i64 (s : Int)) (.int .i64 (h : Int)) (.int .i64 (z : Int)) (.slice A0 n C0)) := V1
  obtain ⟨k0, k1, k2, k3, _⟩ := V1
  clear V0 hb0
  go_wp2_with fail
  refine (HB _ b1).mono ?_
  rintro e u2 ⟨v2, rfl, HM, b2⟩
  have V2 := V1h.out.below b2
  have HW := HW _ _ (HM.byts HBE.out)
  obtain ⟨g2, cap2, rfl, _⟩ := HM
  have b2 := bt b1 b2
  clear HB k0 k1 k2 k3 V1h
  go_wp2_with fail
  refine HW.mono ?_
  rintro e u3 ⟨A3, C3, f3, rfl, Y3, he3, b3⟩
  have V3 := V2.below b3
  have b3 := bt b2 b3
  have b4 : Below w.heap.size w (u3.alloc (.cells #[.int .i64 (s : Int), .int .i64 (h : Int), .int .i64 (z : Int), .slice A3 n C3] 39)) := b3.alloc b3.size _
  have V4 := V3.below ((Below.refl u3.heap.size u3).alloc (Nat.le_refl _) (.cells #[.int .i64 (s : Int), .int .i64 (h : Int), .int .i64 (z : Int), .slice A3 n C3] 39))
  have HS := same_blk _ _ _ _ _ _ _ _ _ _ _ _ _ (⟨_, rfl, HD0.out _ b4⟩ : Blk _ (.agg #[.int .i64 (s : Int), .int .i64 (h : Int), .int .i64 (z : Int), .slice A0 n C0]) (s : Int) (h : Int) (z : Int) n f) (⟨_, rfl, Y3.below ((Below.refl u3.heap.size u3).alloc (Nat.le_refl _) (.cells #[.int .i64 (s : Int), .int .i64 (h : Int), .int .i64 (z : Int), .slice A3 n C3] 39))⟩ : Blk _ (.agg #[.int .i64 (s : Int), .int .i64 (h : Int), .int .i64 (z : Int), .slice A3 n C3]) (s : Int) (h : Int) (z : Int) n f3)
  have HSP : Hid (SameP (s : Int) (h : Int) (z : Int) n f (s : Int) (h : Int) (z : Int) n f3) := ⟨rfl, rfl, rfl, rfl, he3⟩
  obtain ⟨k0, k1, k2, k3, _⟩ := V4
  clear HW V2 V3 Y3 he3
  go_wp2_with fail
  refine HS.mono ?_
  rintro e u4 ⟨⟨y, rfl, hy⟩, b5⟩
  have b5 := bt b4 b5
  obtain rfl : y = true := hy.2 HSP.out
  clear HS hy k0 k1 k2 k3 HSP
  go_wp2_with fail
  refine (HP _ b5).mono ?_
  rintro e u5 ⟨A5, C5, rfl, Y5, b6⟩
  have b6 := bt b5 b6
  clear HP
  have b7 : Below w.heap.size w (u5.alloc (.cells #[.int .i64 0, .int .i64 0, .int .i64 0, .slice A5 0 C5] 39)) := b6.alloc b6.size _
  have HS2 := same_blk _ _ _ _ _ _ _ _ _ _ _ _ _ (⟨_, rfl, Y5.below ((Below.refl u5.heap.size u5).alloc (Nat.le_refl _) (.cells #[.int .i64 0, .int .i64 0, .int .i64 0, .slice A5 0 C5] 39))⟩ : Blk _ (.agg #[.int .i64 0, .int .i64 0, .int .i64 0, .slice A5 0 C5]) 0 0 0 0 (fun k => g (k + 7))) (⟨_, rfl, Byts.nil _⟩ : Blk _ (.agg #[.int .i64 0, .int .i64 0, .int .i64 0, .slice none 0 0]) 0 0 0 0 (fun _ => 0))
  have HSP2 : Hid (SameP 0 0 0 0 (fun k => g (k + 7)) 0 0 0 0 (fun _ => 0)) := ⟨rfl, rfl, rfl, rfl, fun k hk => absurd hk (Nat.not_lt_zero k)⟩
  clear Y5
  go_wp2_with fail
  refine HS2.mono ?_
  rintro e u6 ⟨⟨y, rfl, hy⟩, b9⟩
  have b9 := bt b7 b9
  obtain rfl : y = true := hy.2 HSP2.out
  clear HS2 hy HSP2
  go_wp2_with fail
  go_ret
  exact ⟨rfl, b9⟩

set_option maxHeartbeats 1000000 in
theorem w10 (w : World) (d : Value) (s h z : Int) (n : Nat) (f : Nat → Nat) (hd : Byts w d n f) (v1 : Value) (N : Nat) (g : Nat → Nat) (hy : Byts w v1 N g) (hE : Crc.wrongB s h z n ≠ 0) (hE2 : Crc.parseE g N = 0) :
    Calls Try.prog 6 #[.agg #[.int .i64 s, .int .i64 h, .int .i64 z, d], v1] w fun e w' => e = .returned (.bool true) ∧ Below w.heap.size w w' := by
  have HB := fun w' (hb' : Below w.heap.size w w') => bytes_any _ s h z n f w' ⟨d, rfl, hd.below hb'⟩
  have hx' : (((Crc.wrongB s h z n : Nat) : Int) == 0) = false := by rw [beq_eq_false_iff_ne]; omega
  have hxn : (((Crc.wrongB s h z n : Nat) : Int) != 0) = true := by rw [bne, hx']; rfl
  have HD0 : Hid (∀ w', Below w.heap.size w w' → Byts w' d n f) := fun w' hb' => hd.below hb'
  have HY : Hid (∀ w', Below w.heap.size w w' → Byts w' v1 N g) := fun w' hb' => hy.below hb'
  have hg := hy.bd
  have HP := fun w' (hb' : Below w.heap.size w w') => parse_good v1 N g w' (hy.below hb') hE2
  have HR := fun A C w' (q : Byts w' (.slice A (N - 11) C) (N - 11) (fun k => g (k + 7))) => bytes_read N g hg hE2 A C w' q
  obtain ⟨A0, C0, rfl⟩ := hd.shape
  obtain ⟨A1, C1, rfl⟩ := hy.shape
  have hb0 : Below w.heap.size w (w.alloc (.cells #[.int .i64 s, .int .i64 h, .int .i64 z, .slice A0 n C0] 39)) := (Below.refl _ _).alloc (Nat.le_refl _) _
  have V0 := varB_new w (.int .i64 s) (.int .i64 h) (.int .i64 z) (.slice A0 n C0)
  clear hE hE2 hd hy
  go_enter Try.func6, Try.ntmps6
  go_wp2_with fail
  refine (alive4_any _).mono ?_
  rintro e u1 ⟨rfl, b1⟩
  have V1 := V0.below b1
  have b1 := bt hb0 b1
  obtain ⟨k0, k1, k2, k3, _⟩ := V1
  clear V0 hb0
  go_wp2_with fail
  refine (HB _ b1).mono ?_
  rintro e u4 ⟨v2, rfl, HO, b5⟩
  have b5 := bt b1 b5
  clear HB HO k0 k1 k2 k3
  go_wp2_with fail
  refine (HP _ b5).mono ?_
  rintro e u5 ⟨A5, C5, rfl, Y5, b6⟩
  have b6 := bt b5 b6
  clear HP
  have HR := HR A5 C5 _ (Y5.below ((Below.refl u5.heap.size u5).alloc (Nat.le_refl _) (.cells #[.int .i64 (g 1 : Nat), .int .i64 (g 2 : Nat), .int .i64 (g 3 * 256 + g 4 : Nat), .slice A5 (N - 11) C5] 39)))
  have b7 : Below w.heap.size w (u5.alloc (.cells #[.int .i64 (g 1 : Nat), .int .i64 (g 2 : Nat), .int .i64 (g 3 * 256 + g 4 : Nat), .slice A5 (N - 11) C5] 39)) := b6.alloc b6.size _
  generalize g 3 * 256 + g 4 = q at HR b7
  clear Y5
  go_wp2_with fail
  refine HR.mono ?_
  rintro e u6 ⟨b8, cap8, rfl, Y8, b9⟩
  have b9 := bt b7 b9
  have q1 := conv_any Y8
  have q2 := conv_any (HY.out _ b9)
  have hst : ((strB g N).toList == (strB g N).toList) = true := by simp
  generalize strB g N = S at q1 q2 hst
  clear HR Y8
  go_wp2_with fail
  go_ret
  exact ⟨rfl, b9⟩

set_option maxHeartbeats 1000000 in
theorem w11 (w : World) (d : Value) (s h z : Int) (n : Nat) (f : Nat → Nat) (hd : Byts w d n f) (v1 : Value) (N : Nat) (g : Nat → Nat) (hy : Byts w v1 N g) (hE : Crc.wrongB s h z n ≠ 0) (hE2 : Crc.parseE g N ≠ 0) :
    Calls Try.prog 6 #[.agg #[.int .i64 s, .int .i64 h, .int .i64 z, d], v1] w fun e w' => e = .returned (.bool true) ∧ Below w.heap.size w w' := by
  have HB := fun w' (hb' : Below w.heap.size w w') => bytes_any _ s h z n f w' ⟨d, rfl, hd.below hb'⟩
  have hx' : (((Crc.wrongB s h z n : Nat) : Int) == 0) = false := by rw [beq_eq_false_iff_ne]; omega
  have hxn : (((Crc.wrongB s h z n : Nat) : Int) != 0) = true := by rw [bne, hx']; rfl
  have HD0 : Hid (∀ w', Below w.heap.size w w' → Byts w' d n f) := fun w' hb' => hd.below hb'
  have HY : Hid (∀ w', Below w.heap.size w w' → Byts w' v1 N g) := fun w' hb' => hy.below hb'
  have hg := hy.bd
  have HP := fun w' (hb' : Below w.heap.size w w') => parse_none v1 N g w' (hy.below hb') hE2
  have hz' : (((Crc.parseE g N : Nat) : Int) == 0) = false := by rw [beq_eq_false_iff_ne]; omega
  have hzn : (((Crc.parseE g N : Nat) : Int) != 0) = true := by rw [bne, hz']; rfl
  have hbd7 : Bd (fun k => g (k + 7)) := fun k => hg _
  obtain ⟨A0, C0, rfl⟩ := hd.shape
  obtain ⟨A1, C1, rfl⟩ := hy.shape
  have hb0 : Below w.heap.size w (w.alloc (.cells #[.int .i64 s, .int .i64 h, .int .i64 z, .slice A0 n C0] 39)) := (Below.refl _ _).alloc (Nat.le_refl _) _
  have V0 := varB_new w (.int .i64 s) (.int .i64 h) (.int .i64 z) (.slice A0 n C0)
  clear hE hE2 hd hy
  go_enter Try.func6, Try.ntmps6
  go_wp2_with fail
  refine (alive4_any _).mono ?_
  rintro e u1 ⟨rfl, b1⟩
  have V1 := V0.below b1
  have b1 := bt hb0 b1
  obtain ⟨k0, k1, k2, k3, _⟩ := V1
  clear V0 hb0
  go_wp2_with fail
  refine (HB _ b1).mono ?_
  rintro e u4 ⟨v2, rfl, HO, b5⟩
  have b5 := bt b1 b5
  clear HB HO k0 k1 k2 k3
  go_wp2_with fail
  refine (HP _ b5).mono ?_
  rintro e u5 ⟨A5, C5, rfl, Y5, b6⟩
  have b6 := bt b5 b6
  clear HP
  have b7 : Below w.heap.size w (u5.alloc (.cells #[.int .i64 0, .int .i64 0, .int .i64 0, .slice A5 0 C5] 39)) := b6.alloc b6.size _
  have HS2 := same_blk _ _ _ _ _ _ _ _ _ _ _ _ _ (⟨_, rfl, Y5.below ((Below.refl u5.heap.size u5).alloc (Nat.le_refl _) (.cells #[.int .i64 0, .int .i64 0, .int .i64 0, .slice A5 0 C5] 39))⟩ : Blk _ (.agg #[.int .i64 0, .int .i64 0, .int .i64 0, .slice A5 0 C5]) 0 0 0 0 (fun k => g (k + 7))) (⟨_, rfl, Byts.nil _⟩ : Blk _ (.agg #[.int .i64 0, .int .i64 0, .int .i64 0, .slice none 0 0]) 0 0 0 0 (fun _ => 0))
  have HSP2 : Hid (SameP 0 0 0 0 (fun k => g (k + 7)) 0 0 0 0 (fun _ => 0)) := ⟨rfl, rfl, rfl, rfl, fun k hk => absurd hk (Nat.not_lt_zero k)⟩
  clear Y5
  go_wp2_with fail
  refine HS2.mono ?_
  rintro e u6 ⟨⟨y, rfl, hy⟩, b9⟩
  have b9 := bt b7 b9
  obtain rfl : y = true := hy.2 HSP2.out
  clear HS2 hy HSP2
  go_wp2_with fail
  go_ret
  exact ⟨rfl, b9⟩

theorem walk (w : World) (v : Value) (s h z : Int) (n : Nat) (f : Nat → Nat) (hx : Blk w v s h z n f) (v1 : Value) (N : Nat) (g : Nat → Nat) (hy : Byts w v1 N g) :
    Calls Try.prog 6 #[v, v1] w fun e w' => e = .returned (.bool true) ∧ Below w.heap.size w w' := by
  obtain ⟨d, rfl, hd⟩ := hx
  by_cases hE : Crc.wrongB s h z n = 0
  · have hi := Crc.wrongB_inv hE
    obtain ⟨S, rfl⟩ := Int.eq_ofNat_of_zero_le hi.1.1
    obtain ⟨H, rfl⟩ := Int.eq_ofNat_of_zero_le hi.1.2.2.1
    obtain ⟨Z, rfl⟩ := Int.eq_ofNat_of_zero_le hi.1.2.2.2.2.1
    by_cases hE2 : Crc.parseE g N = 0
    · exact w00 w d S H Z n f hd v1 N g hy hE hE2
    · exact w01 w d S H Z n f hd v1 N g hy hE hE2
  · by_cases hE2 : Crc.parseE g N = 0
    · exact w10 w d s h z n f hd v1 N g hy hE hE2
    · exact w11 w d s h z n f hd v1 N g hy hE hE2

set_option maxRecDepth 100000 in
theorem lifted (os : Os) (started : os.Started) (H : Type) (enc : TypeId × Value → H) :
    ReturnsInHanded {} Try.checked os 6 .any (Rows.blockTurnsSpec.pre6 enc Try.prog Try.f6 Rows.blockTurnsRow.domain false) (Rows.blockTurnsSpec.post enc Try.prog Try.f6 false true false false) := by
  refine returnsInHanded_of_change (C := Try.checked) own started (by kernel_rfl) Try.func6
    (ChangeSpec.witness6 (enc := enc) (C := Try.checked) false ⟨#[], #[.agg #[.int .i64 0, .int .i64 0, .int .i64 0, .slice none 0 0], .slice none 0 0], []⟩ 8 (by kernel_rfl) (by kernel_rfl) (by kernel_rfl) (by kernel_rfl)) ?_
  intro W base args ds gs before hval0 hW hcnd _
  have hval : ∀ (j : Nat) t v, Try.f6.params[j]? = some t → args[j]? = some v → Value.okWide Try.prog W .any base t v := hval0
  have hW' := hW
  obtain ⟨p, q, hA0, hV, rfl, hfz, hnd⟩ := hW
  have hA : DataW.TrodAll enc Try.prog W 0 (fun _ => true) true Try.f6.params.toList args.toList ds p := hA0
  rw [Try.params6] at hA hval
  obtain ⟨v0, vs0, d0, ds0, p0, q0, hargs, rfl, rfl, h0, r0⟩ := trodAll_cons hA
  obtain ⟨v1, vs1, d1, ds1, p1, q1, rfl, rfl, rfl, h1, r1⟩ := trodAll_cons r0
  obtain ⟨rfl, rfl, rfl⟩ := trodAll_nil r1
  obtain rfl : args = #[v0, v1] := by cases args; simp_all
  obtain ⟨rfl, rfl⟩ := trodVars_none hV
  have k0 := h0
  have lt0 : ∀ x ∈ p0, x.block < W.heap.size := by obtain ⟨m, hm⟩ := k0; exact DataW.trod_lt m _ _ _ hm
  obtain ⟨s0, t0, z0, n0, f0, g0⟩ := blk_of (hval 0 39 v0 rfl rfl) h0
  obtain ⟨a1, l1, c1, rfl⟩ := okWide_slice Try.underlying24 (hval 1 24 v1 rfl rfl)
  have k1 := h1
  have lt1 : ∀ x ∈ p1, x.block < W.heap.size := by obtain ⟨m, hm⟩ := k1; exact DataW.trod_lt m _ _ _ hm
  obtain ⟨f1, g1⟩ := byt_of h1
  clear hA0 hval0
  refine (walk W _ _ _ _ _ _ g0 _ _ _ g1).mono fun e W' ⟨he, bel⟩ => ?_
  subst he
  exact ⟨_, rfl, _, _, _, [], _, [], hW', trodAll_mk1 (shut_bool Try.underlying4 _), (trodAll_cons_mk (Below.trod Try.laidOut (by kernel_rfl) (of_decide_eq_true (by kernel_rfl)) k0 bel lt0) (trodAll_cons_mk (Below.trod Try.laidOut (by kernel_rfl) (of_decide_eq_true (by kernel_rfl)) k1 bel lt1) trodAll_mk0)), rfl, bel.frame _, fun h => by cases h⟩

theorem over : Rows.blockTurnsRow.holds Try.pinned (OpenSpec.ofChange Rows.blockTurnsSpec) :=
  OpenClaim.holds_of_wide 6 Try.f6 rfl rfl rfl rfl rfl rfl rfl ⟨rfl, rfl, rfl, rfl, rfl⟩ rfl rfl rfl rfl rfl (by kernel_rfl) Try.func6 (by kernel_rfl)
    (of_decide_eq_true (by kernel_rfl)) (by unfold Func.isWrapper; first | (rw [if_pos (by decide +kernel)]; kernel_rfl) | (rw [if_neg (by decide +kernel)]; exact ⟨rfl, rfl⟩))
    (fun os started H enc _ => lifted os started H enc)
end Go.Proofs.Ytfddjmkbejjhdac.blockTurns

namespace Go.Proofs.Ytfddjmkbejjhdac
theorem blockTurns_holds : Rows.BlockTurnsSaid := blockTurns.over
#print axioms blockTurns_holds
end Go.Proofs.Ytfddjmkbejjhdac
