/-
  Texts of the proof, joined: JPlayA.
-/
import Derived.Test.YtmcaejooaaahdaaGreatZ49
import Derived.Test.YtmcaejooaaahdaaGreatZ52
namespace Go.Proofs.YtmcaejooaaahdaaGreat
open Go.RowKit

set_option maxHeartbeats 400000 in
theorem refWrongS_any (d s b : Int) (w : World) :
    Calls Tryz.prog 7 #[.agg #[.int .i64 d, .int .i64 s, .int .i64 b]] w fun e w' => e = .returned (.int .i64 (wrongS d s b : Nat)) ∧ Below w.heap.size w w' := by
  have bA : Below w.heap.size w (w.alloc (.cells #[.int .i64 d, .int .i64 s, .int .i64 b] 23)) := (Below.refl _ _).alloc (Nat.le_refl _) _
  have VB := varN_new w #[.int .i64 d, .int .i64 s, .int .i64 b] 23
  have c0 := VB.cell (i := 0) rfl
  have c1 := VB.cell (i := 1) rfl
  have HC := refWrongC_any d s (w.alloc (.cells #[.int .i64 d, .int .i64 s, .int .i64 b] 23))
  have HWS : Hid (wrongS d s b = if wrongC d s ≠ 0 then wrongC d s else if b < 1 ∨ 10 < b then 3 else 0) := rfl
  generalize wrongC d s = x at HC HWS
  have HVB : Hid (VarN (w.alloc (.cells #[.int .i64 d, .int .i64 s, .int .i64 b] 23)) w.heap.size 23 #[.int .i64 d, .int .i64 s, .int .i64 b].toList) := VB
  clear VB
  go_enter Tryz.func7, Tryz.ntmps7
  go_wp2_with fail
  refine HC.mono ?_
  rintro e w2 ⟨rfl, b2⟩
  have c22 := (HVB.out.below b2).cell (i := 2) rfl
  have b02 := bt bA b2
  clear HC
  by_cases hx : x = 0
  · have hxe : ((x : Int) != 0) = false := by rw [bne_eq_false_iff_eq]; omega
    by_cases h1 : b < 1
    · have HR : Hid (wrongS d s b = 3) := by
        show wrongS d s b = 3
        rw [HWS.out, if_neg (fun z => z hx), if_pos (Or.inl h1)]
      clear hx
      go_wp2_with fail
      go_ret
      exact ⟨by rw [HR.out]; rfl, b02⟩
    · by_cases h2 : 10 < b
      · have HR : Hid (wrongS d s b = 3) := by
          show wrongS d s b = 3
          rw [HWS.out, if_neg (fun z => z hx), if_pos (Or.inr h2)]
        clear hx
        go_wp2_with fail
        go_ret
        exact ⟨by rw [HR.out]; rfl, b02⟩
      · have HR : Hid (wrongS d s b = 0) := by
          show wrongS d s b = 0
          rw [HWS.out, if_neg (fun z => z hx), if_neg (by omega)]
        clear hx
        go_wp2_with fail
        go_ret
        exact ⟨by rw [HR.out]; rfl, b02⟩
  · have hxe : ((x : Int) != 0) = true := by rw [bne_iff_ne]; omega
    have HR : Hid (wrongS d s b = x) := by
      show wrongS d s b = x
      rw [HWS.out, if_pos hx]
    clear hx
    go_wp2_with fail
    go_ret
    exact ⟨by rw [HR.out]; rfl, b02⟩

set_option maxHeartbeats 1000000 in
set_option maxRecDepth 100000 in
theorem refPlay_bad (d s b : Int) (A : Option Addr) (n C : Nat) (w : World) (x : Nat) (hx : x = wrongS d s b) (h0 : x ≠ 0) :
    Calls Tryz.prog 5 #[.agg #[.int .i64 d, .int .i64 s, .int .i64 b], .slice A n C] w fun e w' => NoPlay e w w' x := by
  have b2 : Below w.heap.size w ((w.alloc (.cells #[.int .i64 d, .int .i64 s, .int .i64 b] 23)).alloc (.cells #[.int .i64 0, .int .i64 0, .int .i64 0, .slice none 0 0, .int .i64 0, .slice none 0 0, .slice none 0 0, .int .i64 0, .slice none 0 0] 32)) := ((Below.refl _ _).alloc (Nat.le_refl _) _).alloc ((Below.refl _ _).alloc (Nat.le_refl _) _).size _
  have bB : Below (w.alloc (.cells #[.int .i64 d, .int .i64 s, .int .i64 b] 23)).heap.size (w.alloc (.cells #[.int .i64 d, .int .i64 s, .int .i64 b] 23)) ((w.alloc (.cells #[.int .i64 d, .int .i64 s, .int .i64 b] 23)).alloc (.cells #[.int .i64 0, .int .i64 0, .int .i64 0, .slice none 0 0, .int .i64 0, .slice none 0 0, .slice none 0 0, .int .i64 0, .slice none 0 0] 32)) := (Below.refl _ _).alloc (Nat.le_refl _) _
  have VS := (varN_new w #[.int .i64 d, .int .i64 s, .int .i64 b] 23).below bB
  have VT := varN_new (w.alloc (.cells #[.int .i64 d, .int .i64 s, .int .i64 b] 23)) #[.int .i64 0, .int .i64 0, .int .i64 0, .slice none 0 0, .int .i64 0, .slice none 0 0, .slice none 0 0, .int .i64 0, .slice none 0 0] 32
  rw [show (w.alloc (.cells #[.int .i64 d, .int .i64 s, .int .i64 b] 23)).heap.size = w.heap.size + 1 by simp] at VT
  have HW := refWrongS_any d s b ((w.alloc (.cells #[.int .i64 d, .int .i64 s, .int .i64 b] 23)).alloc (.cells #[.int .i64 0, .int .i64 0, .int .i64 0, .slice none 0 0, .int .i64 0, .slice none 0 0, .slice none 0 0, .int .i64 0, .slice none 0 0] 32))
  rw [← hx] at HW
  have hxn : ((x : Int) != 0) = true := by rw [bne_iff_ne]; omega
  clear hx h0
  clear bB
  go_enter Tryz.func5, Tryz.ntmps5
  go_upto_region 1 with fail
  generalize (w.alloc (.cells #[.int .i64 d, .int .i64 s, .int .i64 b] 23)).alloc (.cells #[.int .i64 0, .int .i64 0, .int .i64 0, .slice none 0 0, .int .i64 0, .slice none 0 0, .slice none 0 0, .int .i64 0, .slice none 0 0] 32) = w2 at *
  have s0 := VS.cell (i := 0) rfl
  have s1 := VS.cell (i := 1) rfl
  have s2 := VS.cell (i := 2) rfl
  have HVT : Hid (VarN w2 (w.heap.size + 1) 32 #[.int .i64 0, .int .i64 0, .int .i64 0, .slice none 0 0, .int .i64 0, .slice none 0 0, .slice none 0 0, .int .i64 0, .slice none 0 0].toList) := VT
  have HB2 : Hid (Below w.heap.size w w2) := b2
  clear VS VT b2
  go_wp2_with fail
  refine HW.mono ?_
  rintro e w3 ⟨rfl, hb3⟩
  have VT3 := HVT.out.below hb3
  have HFI : Hid (∀ w', Off (fun k => k = w.heap.size + 1) w3 w' → Below w.heap.size w w') := fun w' ho => (bt HB2.out hb3).trans (ho.below (bt HB2.out hb3).size fun k e => by omega)
  have b0 := VT3.cell (i := 0) rfl
  have b1 := VT3.cell (i := 1) rfl
  have b2 := VT3.cell (i := 2) rfl
  have b3 := VT3.cell (i := 3) rfl
  have b4 := VT3.cell (i := 4) rfl
  have b5 := VT3.cell (i := 5) rfl
  have b6 := VT3.cell (i := 6) rfl
  have b7 := VT3.cell (i := 7) rfl
  have b8 := VT3.cell (i := 8) rfl
  have f0 := VT3.frozen 0
  have f1 := VT3.frozen 1
  have f2 := VT3.frozen 2
  have f3 := VT3.frozen 3
  have f4 := VT3.frozen 4
  have f5 := VT3.frozen 5
  have f6 := VT3.frozen 6
  have f7 := VT3.frozen 7
  have f8 := VT3.frozen 8
  clear VT3 hb3 s0 s1 s2 HW
  go_wp2_with fail
  refine bodyPost_ret (v := .tuple #[.agg #[.int .i64 0, .int .i64 0, .int .i64 0, .slice none 0 0, .int .i64 0, .slice none 0 0, .slice none 0 0, .int .i64 0, .slice none 0 0], .slice none 0 0, .int .i64 (x : Nat)]) (by simp [results, Tryz.results5, go_sem, b0, b1, b2, b3, b4, b5, b6, b7, b8]) rfl ⟨rfl, ?_⟩
  exact HFI.out _ (off_nine _ _ _ _ _ _ _ _ _ _ _)
set_option maxHeartbeats 1000000 in
set_option maxRecDepth 100000 in
theorem refPlay_many (d s b : Int) (A : Option Addr) (n C : Nat) (w : World) (hx : wrongS d s b = 0) (h80 : 80 < n) :
    Calls Tryz.prog 5 #[.agg #[.int .i64 d, .int .i64 s, .int .i64 b], .slice A n C] w fun e w' => NoPlay e w w' 5 := by
  have b2 : Below w.heap.size w ((w.alloc (.cells #[.int .i64 d, .int .i64 s, .int .i64 b] 23)).alloc (.cells #[.int .i64 0, .int .i64 0, .int .i64 0, .slice none 0 0, .int .i64 0, .slice none 0 0, .slice none 0 0, .int .i64 0, .slice none 0 0] 32)) := ((Below.refl _ _).alloc (Nat.le_refl _) _).alloc ((Below.refl _ _).alloc (Nat.le_refl _) _).size _
  have bB : Below (w.alloc (.cells #[.int .i64 d, .int .i64 s, .int .i64 b] 23)).heap.size (w.alloc (.cells #[.int .i64 d, .int .i64 s, .int .i64 b] 23)) ((w.alloc (.cells #[.int .i64 d, .int .i64 s, .int .i64 b] 23)).alloc (.cells #[.int .i64 0, .int .i64 0, .int .i64 0, .slice none 0 0, .int .i64 0, .slice none 0 0, .slice none 0 0, .int .i64 0, .slice none 0 0] 32)) := (Below.refl _ _).alloc (Nat.le_refl _) _
  have VS := (varN_new w #[.int .i64 d, .int .i64 s, .int .i64 b] 23).below bB
  have VT := varN_new (w.alloc (.cells #[.int .i64 d, .int .i64 s, .int .i64 b] 23)) #[.int .i64 0, .int .i64 0, .int .i64 0, .slice none 0 0, .int .i64 0, .slice none 0 0, .slice none 0 0, .int .i64 0, .slice none 0 0] 32
  rw [show (w.alloc (.cells #[.int .i64 d, .int .i64 s, .int .i64 b] 23)).heap.size = w.heap.size + 1 by simp] at VT
  have HW := refWrongS_any d s b ((w.alloc (.cells #[.int .i64 d, .int .i64 s, .int .i64 b] 23)).alloc (.cells #[.int .i64 0, .int .i64 0, .int .i64 0, .slice none 0 0, .int .i64 0, .slice none 0 0, .slice none 0 0, .int .i64 0, .slice none 0 0] 32))
  rw [hx] at HW
  have hn : (80 : Int) < (n : Int) := by omega
  have hnd : decide ((80 : Int) < (n : Int)) = true := decide_eq_true hn
  clear hx h80
  clear bB
  go_enter Tryz.func5, Tryz.ntmps5
  go_upto_region 1 with fail
  generalize (w.alloc (.cells #[.int .i64 d, .int .i64 s, .int .i64 b] 23)).alloc (.cells #[.int .i64 0, .int .i64 0, .int .i64 0, .slice none 0 0, .int .i64 0, .slice none 0 0, .slice none 0 0, .int .i64 0, .slice none 0 0] 32) = w2 at *
  have s0 := VS.cell (i := 0) rfl
  have s1 := VS.cell (i := 1) rfl
  have s2 := VS.cell (i := 2) rfl
  have HVT : Hid (VarN w2 (w.heap.size + 1) 32 #[.int .i64 0, .int .i64 0, .int .i64 0, .slice none 0 0, .int .i64 0, .slice none 0 0, .slice none 0 0, .int .i64 0, .slice none 0 0].toList) := VT
  have HB2 : Hid (Below w.heap.size w w2) := b2
  clear VS VT b2
  go_wp2_with fail
  refine HW.mono ?_
  rintro e w3 ⟨rfl, hb3⟩
  have VT3 := HVT.out.below hb3
  have HFI : Hid (∀ w', Off (fun k => k = w.heap.size + 1) w3 w' → Below w.heap.size w w') := fun w' ho => (bt HB2.out hb3).trans (ho.below (bt HB2.out hb3).size fun k e => by omega)
  have b0 := VT3.cell (i := 0) rfl
  have b1 := VT3.cell (i := 1) rfl
  have b2 := VT3.cell (i := 2) rfl
  have b3 := VT3.cell (i := 3) rfl
  have b4 := VT3.cell (i := 4) rfl
  have b5 := VT3.cell (i := 5) rfl
  have b6 := VT3.cell (i := 6) rfl
  have b7 := VT3.cell (i := 7) rfl
  have b8 := VT3.cell (i := 8) rfl
  have f0 := VT3.frozen 0
  have f1 := VT3.frozen 1
  have f2 := VT3.frozen 2
  have f3 := VT3.frozen 3
  have f4 := VT3.frozen 4
  have f5 := VT3.frozen 5
  have f6 := VT3.frozen 6
  have f7 := VT3.frozen 7
  have f8 := VT3.frozen 8
  clear VT3 hb3 s0 s1 s2 HW
  go_wp2_with fail
  refine bodyPost_ret (v := .tuple #[.agg #[.int .i64 0, .int .i64 0, .int .i64 0, .slice none 0 0, .int .i64 0, .slice none 0 0, .slice none 0 0, .int .i64 0, .slice none 0 0], .slice none 0 0, .int .i64 (5 : Nat)]) (by simp [results, Tryz.results5, go_sem, b0, b1, b2, b3, b4, b5, b6, b7, b8]) rfl ⟨rfl, ?_⟩
  exact HFI.out _ (off_nine _ _ _ _ _ _ _ _ _ _ _)

end Go.Proofs.YtmcaejooaaahdaaGreat
