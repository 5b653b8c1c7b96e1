/-
  Whatever data and number of spare shards there are: all shards of them are good ones, and are none any more once a byte of one is another one. No condition.
-/
import Derived.Test.YtbidimaljeblgabRows
import Derived.Test.YtbidimaljeblgabOpenS
import Derived.Test.YtbidimaljeblgabCTurn
import Derived.ProofKit
import Derived.OpenShut
import Derived.Carry
namespace Go.Proofs.Ytbidimaljeblgab.codeGood
open Go.ChangeShapes Go.WideShapes Go.ChangeAt Go.RowKit
set_option linter.unusedVariables false

theorem own : ownKnob Try.prog.godebug = none := by kernel_rfl

theorem cell_other {w : World} {a p : Addr} {v : Value} (h : a.block ≠ p.block) : (w.setCell p v).cell? a = w.cell? a := World.cell?_of_block (Deep.blk_setCell_other _ _ _ _ h)
theorem good_all {n s c : Nat} {f : Nat → Nat → Nat} (hf : Gf.Bd2 f) (h1 : 1 ≤ n) (h2 : n ≤ 8) (h4 : s ≤ 4) (d3 : 1 ≤ c) (d4 : c ≤ 400) : GoodP n (n + s) (fun _ => c) (Gf.mm n (Gf.rowF n) f) :=
  good_of_all hf (wrongC_ok (by omega)) (wrongE_ok (by omega) (by omega) d3 d4 (fun _ _ => rfl)) (fun _ _ _ _ => rfl) (by omega)

set_option maxHeartbeats 400000 in
theorem bad (w : World) (v : Value) (n0 : Nat) (L0 : Nat → Nat) (f0 : Nat → Nat → Nat) (g0 : Arg w v n0 L0 f0) (s k a : Int) (x : Int) (hx : spareE n0 L0 s ≠ 0) :
    Calls Try.prog 8 #[v, .int .i64 s, .int .i64 k, .int .i64 a, .int .u8 x] w fun e w' => e = .returned (.bool true) ∧ Below w.heap.size w w' := by
  have hA := fun w' hb' => all_bad _ n0 L0 f0 s w' (g0.below (w' := w') hb') hx
  obtain ⟨A, cap, R, C, rfl, _⟩ := g0.lies
  clear g0 hx
  go_enter Try.func8, Try.ntmps8
  go_wp2_with fail
  refine (alive3_any _).mono ?_
  rintro e u1 ⟨rfl, b1⟩
  go_wp2_with fail
  refine (hA _ b1).mono ?_
  rintro e u2 ⟨rfl, b2⟩
  have b2 := bt b1 b2
  clear hA
  go_wp2_with fail
  go_ret
  exact ⟨rfl, b2⟩

set_option maxHeartbeats 1000000 in
theorem early0 (w : World) (v : Value) (n s c : Nat) (f : Nat → Nat → Nat) (mx : Mx w v n c f) (h2 : n ≤ 8) (h4 : s ≤ 4) (k a x : Int) (q0 : k < 0) :
    Calls Try.prog 8 #[v, .int .i64 (s : Int), .int .i64 k, .int .i64 a, .int .u8 x] w fun e w' => e = .returned (.bool true) ∧ Below w.heap.size w w' := by
  have hbf := mx.bd
  obtain ⟨d1, d2, d3, d4⟩ := mx.dim
  have hAll := fun w' hb' => all_any _ n s c f w' (mx.below (w' := w') hb') h2 h4
  have hbdA : Gf.Bd2 (Gf.mm n (Gf.rowF n) f) := Gf.mm_bd (Gf.rowF_bd n) n f
  have hGP : Hid (GoodP n (n + s) (fun _ => c) (Gf.mm n (Gf.rowF n) f)) := good_all hbf d1 h2 h4 d3 d4
  obtain ⟨bl, ol, pl, Gl, Ol, Kl, rfl, _⟩ := mx.lies
  have h00 : ((n : Int) + (s : Int) == 0) = false := by rw [beq_eq_false_iff_ne]; omega
  have h01 : (0 : Int) < (n : Int) + (s : Int) := by omega
  go_enter Try.func8, Try.ntmps8
  go_wp2_with fail
  refine (alive3_any _).mono ?_
  rintro e u1 ⟨rfl, b1⟩
  go_wp2_with fail
  refine (hAll _ b1).mono ?_
  rintro e u2 ⟨g, cp, rfl, hcp, ⟨G, O, K, hL⟩, b2⟩
  have hlow : w.heap.size ≤ g := Nat.le_trans b1.size hL.low
  have b2 := bt b1 b2
  have hgo := goodO _ (n + s) (fun _ => c) _ n u2 (hL.mx (cap := cp) hbdA ⟨by omega, by omega, d3, d4⟩).arg ⟨_, _, _, rfl, hcp⟩ (by unfold maxLen; omega)
  clear hAll mx
  go_wp2_with fail
  refine hgo.mono ?_
  rintro e u3 ⟨⟨y, rfl, hy⟩, b3⟩
  have hy' : y = true := hy.2 hGP.out
  subst hy'
  have hL := hL.below b3
  have t0 := hL.top.cell (show 0 < n + s by omega)
  have b3 := bt b2 b3
  clear hgo hy hGP b1 b2
  go_wp2_with fail
  go_ret
  exact ⟨rfl, b3⟩

set_option maxHeartbeats 1000000 in
theorem early1 (w : World) (v : Value) (n s c : Nat) (f : Nat → Nat → Nat) (mx : Mx w v n c f) (h2 : n ≤ 8) (h4 : s ≤ 4) (k a x : Int) (q0 : ¬ k < 0) (q1 : (n : Int) + (s : Int) ≤ k) :
    Calls Try.prog 8 #[v, .int .i64 (s : Int), .int .i64 k, .int .i64 a, .int .u8 x] w fun e w' => e = .returned (.bool true) ∧ Below w.heap.size w w' := by
  have hbf := mx.bd
  obtain ⟨d1, d2, d3, d4⟩ := mx.dim
  have hAll := fun w' hb' => all_any _ n s c f w' (mx.below (w' := w') hb') h2 h4
  have hbdA : Gf.Bd2 (Gf.mm n (Gf.rowF n) f) := Gf.mm_bd (Gf.rowF_bd n) n f
  have hGP : Hid (GoodP n (n + s) (fun _ => c) (Gf.mm n (Gf.rowF n) f)) := good_all hbf d1 h2 h4 d3 d4
  obtain ⟨bl, ol, pl, Gl, Ol, Kl, rfl, _⟩ := mx.lies
  have h00 : ((n : Int) + (s : Int) == 0) = false := by rw [beq_eq_false_iff_ne]; omega
  have h01 : (0 : Int) < (n : Int) + (s : Int) := by omega
  go_enter Try.func8, Try.ntmps8
  go_wp2_with fail
  refine (alive3_any _).mono ?_
  rintro e u1 ⟨rfl, b1⟩
  go_wp2_with fail
  refine (hAll _ b1).mono ?_
  rintro e u2 ⟨g, cp, rfl, hcp, ⟨G, O, K, hL⟩, b2⟩
  have hlow : w.heap.size ≤ g := Nat.le_trans b1.size hL.low
  have b2 := bt b1 b2
  have hgo := goodO _ (n + s) (fun _ => c) _ n u2 (hL.mx (cap := cp) hbdA ⟨by omega, by omega, d3, d4⟩).arg ⟨_, _, _, rfl, hcp⟩ (by unfold maxLen; omega)
  clear hAll mx
  go_wp2_with fail
  refine hgo.mono ?_
  rintro e u3 ⟨⟨y, rfl, hy⟩, b3⟩
  have hy' : y = true := hy.2 hGP.out
  subst hy'
  have hL := hL.below b3
  have t0 := hL.top.cell (show 0 < n + s by omega)
  have b3 := bt b2 b3
  clear hgo hy hGP b1 b2
  go_wp2_with fail
  go_ret
  exact ⟨rfl, b3⟩

set_option maxHeartbeats 1000000 in
theorem early2 (w : World) (v : Value) (n s c : Nat) (f : Nat → Nat → Nat) (mx : Mx w v n c f) (h2 : n ≤ 8) (h4 : s ≤ 4) (k a x : Int) (q0 : ¬ k < 0) (q1 : ¬ (n : Int) + (s : Int) ≤ k) (q2 : a < 0) :
    Calls Try.prog 8 #[v, .int .i64 (s : Int), .int .i64 k, .int .i64 a, .int .u8 x] w fun e w' => e = .returned (.bool true) ∧ Below w.heap.size w w' := by
  have hbf := mx.bd
  obtain ⟨d1, d2, d3, d4⟩ := mx.dim
  have hAll := fun w' hb' => all_any _ n s c f w' (mx.below (w' := w') hb') h2 h4
  have hbdA : Gf.Bd2 (Gf.mm n (Gf.rowF n) f) := Gf.mm_bd (Gf.rowF_bd n) n f
  have hGP : Hid (GoodP n (n + s) (fun _ => c) (Gf.mm n (Gf.rowF n) f)) := good_all hbf d1 h2 h4 d3 d4
  obtain ⟨bl, ol, pl, Gl, Ol, Kl, rfl, _⟩ := mx.lies
  have h00 : ((n : Int) + (s : Int) == 0) = false := by rw [beq_eq_false_iff_ne]; omega
  have h01 : (0 : Int) < (n : Int) + (s : Int) := by omega
  go_enter Try.func8, Try.ntmps8
  go_wp2_with fail
  refine (alive3_any _).mono ?_
  rintro e u1 ⟨rfl, b1⟩
  go_wp2_with fail
  refine (hAll _ b1).mono ?_
  rintro e u2 ⟨g, cp, rfl, hcp, ⟨G, O, K, hL⟩, b2⟩
  have hlow : w.heap.size ≤ g := Nat.le_trans b1.size hL.low
  have b2 := bt b1 b2
  have hgo := goodO _ (n + s) (fun _ => c) _ n u2 (hL.mx (cap := cp) hbdA ⟨by omega, by omega, d3, d4⟩).arg ⟨_, _, _, rfl, hcp⟩ (by unfold maxLen; omega)
  clear hAll mx
  go_wp2_with fail
  refine hgo.mono ?_
  rintro e u3 ⟨⟨y, rfl, hy⟩, b3⟩
  have hy' : y = true := hy.2 hGP.out
  subst hy'
  have hL := hL.below b3
  have t0 := hL.top.cell (show 0 < n + s by omega)
  have b3 := bt b2 b3
  clear hgo hy hGP b1 b2
  go_wp2_with fail
  go_ret
  exact ⟨rfl, b3⟩

set_option maxHeartbeats 1000000 in
theorem early3 (w : World) (v : Value) (n s c : Nat) (f : Nat → Nat → Nat) (mx : Mx w v n c f) (h2 : n ≤ 8) (h4 : s ≤ 4) (k a x : Int) (q0 : ¬ k < 0) (q1 : ¬ (n : Int) + (s : Int) ≤ k) (q2 : ¬ a < 0) (q3 : (c : Int) ≤ a) :
    Calls Try.prog 8 #[v, .int .i64 (s : Int), .int .i64 k, .int .i64 a, .int .u8 x] w fun e w' => e = .returned (.bool true) ∧ Below w.heap.size w w' := by
  have hbf := mx.bd
  obtain ⟨d1, d2, d3, d4⟩ := mx.dim
  have hAll := fun w' hb' => all_any _ n s c f w' (mx.below (w' := w') hb') h2 h4
  have hbdA : Gf.Bd2 (Gf.mm n (Gf.rowF n) f) := Gf.mm_bd (Gf.rowF_bd n) n f
  have hGP : Hid (GoodP n (n + s) (fun _ => c) (Gf.mm n (Gf.rowF n) f)) := good_all hbf d1 h2 h4 d3 d4
  obtain ⟨bl, ol, pl, Gl, Ol, Kl, rfl, _⟩ := mx.lies
  have h00 : ((n : Int) + (s : Int) == 0) = false := by rw [beq_eq_false_iff_ne]; omega
  have h01 : (0 : Int) < (n : Int) + (s : Int) := by omega
  go_enter Try.func8, Try.ntmps8
  go_wp2_with fail
  refine (alive3_any _).mono ?_
  rintro e u1 ⟨rfl, b1⟩
  go_wp2_with fail
  refine (hAll _ b1).mono ?_
  rintro e u2 ⟨g, cp, rfl, hcp, ⟨G, O, K, hL⟩, b2⟩
  have hlow : w.heap.size ≤ g := Nat.le_trans b1.size hL.low
  have b2 := bt b1 b2
  have hgo := goodO _ (n + s) (fun _ => c) _ n u2 (hL.mx (cap := cp) hbdA ⟨by omega, by omega, d3, d4⟩).arg ⟨_, _, _, rfl, hcp⟩ (by unfold maxLen; omega)
  clear hAll mx
  go_wp2_with fail
  refine hgo.mono ?_
  rintro e u3 ⟨⟨y, rfl, hy⟩, b3⟩
  have hy' : y = true := hy.2 hGP.out
  subst hy'
  have hL := hL.below b3
  have t0 := hL.top.cell (show 0 < n + s by omega)
  have b3 := bt b2 b3
  clear hgo hy hGP b1 b2
  go_wp2_with fail
  go_ret
  exact ⟨rfl, b3⟩

set_option maxHeartbeats 1000000 in
theorem early4 (w : World) (v : Value) (n s c : Nat) (f : Nat → Nat → Nat) (mx : Mx w v n c f) (h2 : n ≤ 8) (h4 : s ≤ 4) (k a x : Int) (q0 : ¬ k < 0) (q1 : ¬ (n : Int) + (s : Int) ≤ k) (q2 : ¬ a < 0) (q3 : ¬ (c : Int) ≤ a) (q4 : (x == 0) = true) :
    Calls Try.prog 8 #[v, .int .i64 (s : Int), .int .i64 k, .int .i64 a, .int .u8 x] w fun e w' => e = .returned (.bool true) ∧ Below w.heap.size w w' := by
  have hbf := mx.bd
  obtain ⟨d1, d2, d3, d4⟩ := mx.dim
  have hAll := fun w' hb' => all_any _ n s c f w' (mx.below (w' := w') hb') h2 h4
  have hbdA : Gf.Bd2 (Gf.mm n (Gf.rowF n) f) := Gf.mm_bd (Gf.rowF_bd n) n f
  have hGP : Hid (GoodP n (n + s) (fun _ => c) (Gf.mm n (Gf.rowF n) f)) := good_all hbf d1 h2 h4 d3 d4
  obtain ⟨bl, ol, pl, Gl, Ol, Kl, rfl, _⟩ := mx.lies
  have h00 : ((n : Int) + (s : Int) == 0) = false := by rw [beq_eq_false_iff_ne]; omega
  have h01 : (0 : Int) < (n : Int) + (s : Int) := by omega
  go_enter Try.func8, Try.ntmps8
  go_wp2_with fail
  refine (alive3_any _).mono ?_
  rintro e u1 ⟨rfl, b1⟩
  go_wp2_with fail
  refine (hAll _ b1).mono ?_
  rintro e u2 ⟨g, cp, rfl, hcp, ⟨G, O, K, hL⟩, b2⟩
  have hlow : w.heap.size ≤ g := Nat.le_trans b1.size hL.low
  have b2 := bt b1 b2
  have hgo := goodO _ (n + s) (fun _ => c) _ n u2 (hL.mx (cap := cp) hbdA ⟨by omega, by omega, d3, d4⟩).arg ⟨_, _, _, rfl, hcp⟩ (by unfold maxLen; omega)
  clear hAll mx
  go_wp2_with fail
  refine hgo.mono ?_
  rintro e u3 ⟨⟨y, rfl, hy⟩, b3⟩
  have hy' : y = true := hy.2 hGP.out
  subst hy'
  have hL := hL.below b3
  have t0 := hL.top.cell (show 0 < n + s by omega)
  have b3 := bt b2 b3
  clear hgo hy hGP b1 b2
  go_wp2_with fail
  go_ret
  exact ⟨rfl, b3⟩

set_option maxHeartbeats 1000000 in
theorem early5 (w : World) (v : Value) (n s c : Nat) (f : Nat → Nat → Nat) (mx : Mx w v n c f) (h2 : n ≤ 8) (h4 : s ≤ 4) (k a x : Int) (q0 : ¬ k < 0) (q1 : ¬ (n : Int) + (s : Int) ≤ k) (q2 : ¬ a < 0) (q3 : ¬ (c : Int) ≤ a) (q4 : (x == 0) = false) (q5 : ((s : Int) == 0) = true) :
    Calls Try.prog 8 #[v, .int .i64 (s : Int), .int .i64 k, .int .i64 a, .int .u8 x] w fun e w' => e = .returned (.bool true) ∧ Below w.heap.size w w' := by
  have hbf := mx.bd
  obtain ⟨d1, d2, d3, d4⟩ := mx.dim
  have hAll := fun w' hb' => all_any _ n s c f w' (mx.below (w' := w') hb') h2 h4
  have hbdA : Gf.Bd2 (Gf.mm n (Gf.rowF n) f) := Gf.mm_bd (Gf.rowF_bd n) n f
  have hGP : Hid (GoodP n (n + s) (fun _ => c) (Gf.mm n (Gf.rowF n) f)) := good_all hbf d1 h2 h4 d3 d4
  obtain ⟨bl, ol, pl, Gl, Ol, Kl, rfl, _⟩ := mx.lies
  have h00 : ((n : Int) + (s : Int) == 0) = false := by rw [beq_eq_false_iff_ne]; omega
  have h01 : (0 : Int) < (n : Int) + (s : Int) := by omega
  go_enter Try.func8, Try.ntmps8
  go_wp2_with fail
  refine (alive3_any _).mono ?_
  rintro e u1 ⟨rfl, b1⟩
  go_wp2_with fail
  refine (hAll _ b1).mono ?_
  rintro e u2 ⟨g, cp, rfl, hcp, ⟨G, O, K, hL⟩, b2⟩
  have hlow : w.heap.size ≤ g := Nat.le_trans b1.size hL.low
  have b2 := bt b1 b2
  have hgo := goodO _ (n + s) (fun _ => c) _ n u2 (hL.mx (cap := cp) hbdA ⟨by omega, by omega, d3, d4⟩).arg ⟨_, _, _, rfl, hcp⟩ (by unfold maxLen; omega)
  clear hAll mx
  go_wp2_with fail
  refine hgo.mono ?_
  rintro e u3 ⟨⟨y, rfl, hy⟩, b3⟩
  have hy' : y = true := hy.2 hGP.out
  subst hy'
  have hL := hL.below b3
  have t0 := hL.top.cell (show 0 < n + s by omega)
  have b3 := bt b2 b3
  clear hgo hy hGP b1 b2
  go_wp2_with fail
  go_ret
  exact ⟨rfl, b3⟩

set_option maxHeartbeats 2000000 in
theorem late (w : World) (v : Value) (n s c : Nat) (f : Nat → Nat → Nat) (mx : Mx w v n c f) (h2 : n ≤ 8) (h3 : 1 ≤ s) (h4 : s ≤ 4) (k a x : Nat) (hk : k < n + s) (ha : a < c) (hx : x < 256) (hx0 : x ≠ 0) :
    Calls Try.prog 8 #[v, .int .i64 (s : Int), .int .i64 (k : Int), .int .i64 (a : Int), .int .u8 (x : Int)] w fun e w' => e = .returned (.bool true) ∧ Below w.heap.size w w' := by
  have q0 : ¬ (k : Int) < 0 := by omega
  have q1 : ¬ (n : Int) + (s : Int) ≤ (k : Int) := by omega
  have q2 : ¬ (a : Int) < 0 := by omega
  have q3 : ¬ (c : Int) ≤ (a : Int) := by omega
  have q4 : ((x : Int) == 0) = false := by rw [beq_eq_false_iff_ne]; omega
  have q5 : ((s : Int) == 0) = false := by rw [beq_eq_false_iff_ne]; omega
  have q6 : (k : Int) < (n : Int) + (s : Int) := by omega
  have q7 : (a : Int) < (c : Int) := by omega
  obtain ⟨i1, hi1, hh1⟩ := Option.map_eq_some_iff.1 Try.infoByte
  simp only [Prod.mk.injEq] at hh1
  obtain ⟨hy0, hy1, hy2⟩ := hh1
  have hbf := mx.bd
  obtain ⟨d1, d2, d3, d4⟩ := mx.dim
  have hAll := fun w' hb' => all_any _ n s c f w' (mx.below (w' := w') hb') h2 h4
  have hbdA : Gf.Bd2 (Gf.mm n (Gf.rowF n) f) := Gf.mm_bd (Gf.rowF_bd n) n f
  have hGP : Hid (GoodP n (n + s) (fun _ => c) (Gf.mm n (Gf.rowF n) f)) := good_all hbf d1 h2 h4 d3 d4
  obtain ⟨bl, ol, pl, Gl, Ol, Kl, rfl, _⟩ := mx.lies
  have h00 : ((n : Int) + (s : Int) == 0) = false := by rw [beq_eq_false_iff_ne]; omega
  have h01 : (0 : Int) < (n : Int) + (s : Int) := by omega
  go_enter Try.func8, Try.ntmps8
  go_wp2_with fail
  refine (alive3_any _).mono ?_
  rintro e u1 ⟨rfl, b1⟩
  go_wp2_with fail
  refine (hAll _ b1).mono ?_
  rintro e u2 ⟨g, cp, rfl, hcp, ⟨G, O, K, hL⟩, b2⟩
  have hlow : w.heap.size ≤ g := Nat.le_trans b1.size hL.low
  have b2 := bt b1 b2
  have hgo := goodO _ (n + s) (fun _ => c) _ n u2 (hL.mx (cap := cp) hbdA ⟨by omega, by omega, d3, d4⟩).arg ⟨_, _, _, rfl, hcp⟩ (by unfold maxLen; omega)
  clear hAll mx
  go_wp2_with fail
  refine hgo.mono ?_
  rintro e u3 ⟨⟨y, rfl, hy⟩, b3⟩
  have hy' : y = true := hy.2 hGP.out
  subst hy'
  have hL := hL.below b3
  have t0 := hL.top.cell (show 0 < n + s by omega)
  have b3 := bt b2 b3
  clear hgo hy hGP b1 b2
  have hNG : Hid (¬ GoodP n (n + s) (fun _ => c) (turn k a x (Gf.mm n (Gf.rowF n) f))) := turned_bad hbf (by omega) h3 hk ha hx hx0
  generalize Gf.mm n (Gf.rowF n) f = F at hL hbdA hNG
  have hbT : Gf.Bd2 (turn k a x F) := turn_bd hbdA hx
  have tk := hL.top.cell hk
  have lg := hL.top.lt
  have hbX := (Below.refl u3.heap.size u3).alloc (Nat.le_refl _) (.cells #[] 5)
  have hown0 : (u3.alloc (.cells #[] 5)).ownsRow u3.heap.size 5 1 (.slice (some ⟨u3.heap.size, 0, none⟩) 0 0) 0 [] := World.ownsRow_made u3 #[] 0 (Nat.le_refl _) (by unfold maxLen; omega) rfl
  have hn := list_cells (fun j hj => (hL.below hbX).row k hk j hj)
  have hxor := xor_nat (hbdA k a) hx
  go_wp2_with (at_builtin; refine wpList_append_own _ rfl (.tmp 63) (.tmp 67) 34 rfl u3.heap.size 5 i1 (.int .u8 0) 1 1 Try.underlying34 hi1 hy0 hy1 hy2 rfl (by decide) _ _ _ rfl hown0 ⟨G k, O k, none⟩ c (K k) ((List.range c).map fun j => .int .u8 (F k j : Nat)) rfl (by simp) hn (by intro u hu; obtain ⟨_, _, rfl⟩ := List.mem_map.1 hu; rfl) (by unfold maxLen; omega) (by omega) hbX.size ?_; intro v1 w2 hown1 hgrow1 _; rw [Nat.zero_add, List.nil_append] at hown1; have b4 : Below u3.heap.size u3 w2 := hbX.grown hgrow1 hbX.size (fun x hx => (hown0.lt x hx).1); obtain ⟨g1, cap1, rfl, hg1, hcap1, hrow1⟩ := rowC_owns hown1 d3; have hL2 := hL.below b4; have hne : g ≠ g1 := (by omega); have c1 := hrow1.cell ha; have z1 := hrow1.frozen a; have hT := hL2.top.setOther (a := ⟨g1, a, none⟩) hne (.int .u8 ((F k a ^^^ x : Nat) : Int)); have t2 := hT.cell hk; have z2 := hT.frozen k; rw [show (((List.range c).map fun j => Value.int .u8 (F k j : Nat)).getD a (.slice none 0 0)) = Value.int .u8 (F k a : Nat) from by simp [List.getD, ha]] at c1)
  have hL4 : Lst ((w2.setCell ⟨g1, a, none⟩ (.int .u8 ((F k a ^^^ x : Nat) : Int))).setCell ⟨g, k, none⟩ (.slice (some ⟨g1, 0, none⟩) c cap1)) w.heap.size g (n + s) c (fun i => if i = k then g1 else G i) (fun i => if i = k then 0 else O i) (fun i => if i = k then cap1 else K i) (turn k a x F) := by
    refine ⟨hlow, (hT.set k _).congr (fun i hi => ?_), fun i hi j hj => ?_, fun i hi => ?_⟩
    · by_cases e : i = k
      · simp only [if_pos e]
      · simp only [if_neg e]
    · by_cases e : i = k
      · subst e
        rw [if_pos rfl, if_pos rfl, Nat.zero_add, (((hrow1.set a _).setOther (fun h => hne h.symm) _).cell hj)]
        unfold turn
        by_cases ej : j = a
        · rw [if_pos ej, if_pos ⟨rfl, ej⟩, ej]
        · rw [if_neg ej, if_neg (fun h => ej h.2)]
          simp [List.getD, hj]
      · rw [if_neg e, if_neg e, cell_other (fun h => hL.apart i hi h), cell_other (fun h => ?_), hL2.row i hi j hj]
        · unfold turn
          rw [if_neg (fun h => e h.1)]
        · have h5 := World.block_lt_of_cell? _ _ (hL.row i hi j hj)
          have h6 : G i < u3.heap.size := h5
          have h7 : G i = g1 := h
          omega
    · by_cases e : i = k
      · rw [if_pos e]
        exact fun h => hne h.symm
      · rw [if_neg e]
        exact hL.apart i hi
  have b5 : Below w.heap.size w ((w2.setCell ⟨g1, a, none⟩ (.int .u8 ((F k a ^^^ x : Nat) : Int))).setCell ⟨g, k, none⟩ (.slice (some ⟨g1, 0, none⟩) c cap1)) := ((bt b3 b4).setCell (p := ⟨g1, a, none⟩) (Nat.le_trans b3.size hg1) _).setCell (p := ⟨g, k, none⟩) hlow _
  have hgo := goodO _ (n + s) (fun _ => c) _ n _ (hL4.mx (cap := cp) hbT ⟨by omega, by omega, d3, d4⟩).arg ⟨_, _, _, rfl, hcp⟩ (by unfold maxLen; omega)
  clear hL4 hT hL hL2 hrow1 c1 z1 t2 z2 hown1 hgrow1 hown0 hn
  refine hgo.mono ?_
  rintro e u6 ⟨⟨y, rfl, hy⟩, b6⟩
  have hy' : y = false := by
    cases y with
    | false => rfl
    | true => exact absurd (hy.1 rfl) hNG.out
  subst hy'
  have b6 := bt b5 b6
  clear hgo hy
  go_wp2_with fail
  go_ret
  exact ⟨rfl, b6⟩

theorem walk (w : World) (A : Option Addr) (n0 cap0 : Nat) (L0 : Nat → Nat) (f0 : Nat → Nat → Nat) (g0 : Arg w (.slice A n0 cap0) n0 L0 f0) (z0 : n0 ≤ cap0 ∧ cap0 ≤ maxLen ∧ ∀ r, r < n0 → L0 r ≤ maxLen) (s : Int) (w1 : (Lit.int .i64 s).wf = true) (k : Int) (w2 : (Lit.int .i64 k).wf = true) (a : Int) (w3 : (Lit.int .i64 a).wf = true) (x : Int) (w4 : (Lit.int .u8 x).wf = true) :
    Calls Try.prog 8 #[.slice A n0 cap0, .int .i64 s, .int .i64 k, .int .i64 a, .int .u8 x] w fun e w' => e = .returned (.bool true) ∧ Below w.heap.size w w' := by
  by_cases hx : spareE n0 L0 s ≠ 0
  · exact bad w _ n0 L0 f0 g0 s k a x hx
  · have hx' : spareE n0 L0 s = 0 := by omega
    unfold spareE at hx'
    split at hx'
    · cases hx'
    · rename_i hw
      have hw' : ¬ ((n0 : Int) < 1 ∨ 8 < (n0 : Int) ∨ s < 0 ∨ 4 < s) := fun h => hw (by rw [wrongC_bad h]; decide)
      have mx := g0.mx hx'
      obtain ⟨m, rfl⟩ := Int.eq_ofNat_of_zero_le (show 0 ≤ s by omega)
      by_cases p0 : k < 0
      · exact early0 w _ n0 m (L0 0) f0 mx (by omega) (by omega) k a x p0
      by_cases p1 : (n0 : Int) + (m : Int) ≤ k
      · exact early1 w _ n0 m (L0 0) f0 mx (by omega) (by omega) k a x p0 p1
      by_cases p2 : a < 0
      · exact early2 w _ n0 m (L0 0) f0 mx (by omega) (by omega) k a x p0 p1 p2
      by_cases p3 : (L0 0 : Int) ≤ a
      · exact early3 w _ n0 m (L0 0) f0 mx (by omega) (by omega) k a x p0 p1 p2 p3
      obtain ⟨x0, x1⟩ := bounds_u8 w4
      by_cases p4 : x = 0
      · exact early4 w _ n0 m (L0 0) f0 mx (by omega) (by omega) k a x p0 p1 p2 p3 (by rw [p4]; rfl)
      have p4' : (x == 0) = false := by rw [beq_eq_false_iff_ne]; exact p4
      by_cases p5 : m = 0
      · exact early5 w _ n0 m (L0 0) f0 mx (by omega) (by omega) k a x p0 p1 p2 p3 p4' (by rw [p5]; rfl)
      obtain ⟨k', rfl⟩ := Int.eq_ofNat_of_zero_le (show 0 ≤ k by omega)
      obtain ⟨a', rfl⟩ := Int.eq_ofNat_of_zero_le (show 0 ≤ a by omega)
      obtain ⟨x', rfl⟩ := Int.eq_ofNat_of_zero_le x0
      exact late w _ n0 m (L0 0) f0 mx (by omega) (by omega) (by omega) k' a' x' (by omega) (by omega) (by omega) (by omega)

set_option maxRecDepth 100000 in
theorem lifted (os : Os) (started : os.Started) (H : Type) (enc : TypeId × Value → H) :
    ReturnsInHanded {} Try.checked os 8 .any (Rows.codeGoodSpec.pre6 enc Try.prog Try.f8 Rows.codeGoodRow.domain false) (Rows.codeGoodSpec.post enc Try.prog Try.f8 false true false false) := by
  refine returnsInHanded_of_change (C := Try.checked) own started (by kernel_rfl) Try.func8
    (ChangeSpec.witness6 (enc := enc) (C := Try.checked) false ⟨#[], #[.slice none 0 0, .int .i64 0, .int .i64 0, .int .i64 0, .int .u8 0], []⟩ 8 (by kernel_rfl) (by kernel_rfl) (by kernel_rfl) (by kernel_rfl)) ?_
  intro W base args ds gs before hval0 hW hcnd _
  have hval : ∀ (j : Nat) t v, Try.f8.params[j]? = some t → args[j]? = some v → Value.okWide Try.prog W .any base t v := hval0
  have hW' := hW
  obtain ⟨p, q, hA0, hV, rfl, hfz, hnd⟩ := hW
  have hA : DataW.TrodAll enc Try.prog W 0 (fun _ => true) true Try.f8.params.toList args.toList ds p := hA0
  rw [Try.params8] at hA hval
  obtain ⟨v0, vs0, d0, ds0, p0, q0, hargs, rfl, rfl, h0, r0⟩ := trodAll_cons hA
  obtain ⟨v1, vs1, d1, ds1, p1, q1, rfl, rfl, rfl, h1, r1⟩ := trodAll_cons r0
  obtain ⟨v2, vs2, d2, ds2, p2, q2, rfl, rfl, rfl, h2, r2⟩ := trodAll_cons r1
  obtain ⟨v3, vs3, d3, ds3, p3, q3, rfl, rfl, rfl, h3, r3⟩ := trodAll_cons r2
  obtain ⟨v4, vs4, d4, ds4, p4, q4, rfl, rfl, rfl, h4, r4⟩ := trodAll_cons r3
  obtain ⟨rfl, rfl, rfl⟩ := trodAll_nil r4
  obtain rfl : args = #[v0, v1, v2, v3, v4] := by cases args; simp_all
  obtain ⟨rfl, rfl⟩ := trodVars_none hV
  obtain ⟨a0, l0, c0, rfl⟩ := okWide_slice Try.underlying22 (hval 0 22 v0 rfl rfl)
  have k0 := h0
  have lt0 : ∀ x ∈ p0, x.block < W.heap.size := by obtain ⟨m, hm⟩ := k0; exact DataW.trod_lt m _ _ _ hm
  obtain ⟨L0, f0, g0, z0⟩ := argS_of h0
  obtain ⟨a1, rfl, rfl, rfl, g1⟩ := open_int Try.underlying3 (hval 1 3 v1 rfl rfl) h1
  obtain ⟨a2, rfl, rfl, rfl, g2⟩ := open_int Try.underlying3 (hval 2 3 v2 rfl rfl) h2
  obtain ⟨a3, rfl, rfl, rfl, g3⟩ := open_int Try.underlying3 (hval 3 3 v3 rfl rfl) h3
  obtain ⟨a4, rfl, rfl, rfl, g4⟩ := open_int Try.underlying5 (hval 4 5 v4 rfl rfl) h4
  clear hA0 hval0
  refine (walk W _ _ _ L0 f0 g0 z0 a1 g1 a2 g2 a3 g3 a4 g4).mono fun e W' ⟨he, bel⟩ => ?_
  subst he
  exact ⟨_, rfl, _, _, _, [], _, [], hW', trodAll_mk1 (shut_bool Try.underlying4 _), (trodAll_cons_mk (Below.trod Try.laidOut (by kernel_rfl) (of_decide_eq_true (by kernel_rfl)) k0 bel lt0) (trodAll_cons_mk (shut_int Try.underlying3 g1) (trodAll_cons_mk (shut_int Try.underlying3 g2) (trodAll_cons_mk (shut_int Try.underlying3 g3) (trodAll_cons_mk (shut_int Try.underlying5 g4) trodAll_mk0))))), rfl, bel.frame _, fun h => by cases h⟩

theorem over : Rows.codeGoodRow.holds Try.pinned (OpenSpec.ofChange Rows.codeGoodSpec) :=
  OpenClaim.holds_of_wide 8 Try.f8 rfl rfl rfl rfl rfl rfl rfl ⟨rfl, rfl, rfl, rfl, rfl⟩ rfl rfl rfl rfl rfl (by kernel_rfl) Try.func8 (by kernel_rfl)
    (of_decide_eq_true (by kernel_rfl)) (by unfold Func.isWrapper; first | (rw [if_pos (by decide +kernel)]; kernel_rfl) | (rw [if_neg (by decide +kernel)]; exact ⟨rfl, rfl⟩))
    (fun os started H enc _ => lifted os started H enc)
end Go.Proofs.Ytbidimaljeblgab.codeGood

namespace Go.Proofs.Ytbidimaljeblgab
theorem codeGood_holds : Rows.CodeGoodSaid := codeGood.over
#print axioms codeGood_holds
end Go.Proofs.Ytbidimaljeblgab
