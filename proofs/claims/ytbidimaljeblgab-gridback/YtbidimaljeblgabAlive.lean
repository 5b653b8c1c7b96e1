/-
  What the statements' own alive does: it answers true.
-/
import Derived.Test.YtbidimaljeblgabSame
namespace Go.Proofs.Ytbidimaljeblgab
open Go.RowKit

/-- A matrix of two rows, two bytes each. -/
def f2 (a b c d i j : Nat) : Nat := if i = 0 then (if j = 0 then a else b) else (if j = 0 then c else d)
theorem f2_bd {a b c d : Nat} (ha : a < 256) (hb : b < 256) (hc : c < 256) (hd : d < 256) : Gf.Bd2 (f2 a b c d) := fun i j => by
  unfold f2
  split <;> split <;> assumption

theorem lit_mx (w : World) (a b c d : Nat) (ha : a < 256) (hb : b < 256) (hc : c < 256) (hd : d < 256) :
    Mx (((w.alloc (.cells #[.int .u8 (a : Int), .int .u8 (b : Int)] 5)).alloc (.cells #[.int .u8 (c : Int), .int .u8 (d : Int)] 5)).alloc (.cells #[.slice (some ⟨w.heap.size, 0, none⟩) 2 2, .slice (some ⟨w.heap.size + 1, 0, none⟩) 2 2] 34))
      (.slice (some ⟨w.heap.size + 2, 0, none⟩) 2 2) 2 2 (f2 a b c d) := by
  refine ⟨f2_bd ha hb hc hd, by decide, w.heap.size + 2, 0, 2, fun r => w.heap.size + r, fun _ => 0, fun _ => 2, rfl, fun r hr => ?_, fun r hr k hk => ?_⟩
  · match r, hr with
    | 0, _ => go_simp
    | 1, _ => go_simp
  · match r, hr, k, hk with
    | 0, _, 0, _ => go_simp; rfl
    | 0, _, 1, _ => go_simp; rfl
    | 1, _, 0, _ => go_simp; rfl
    | 1, _, 1, _ => go_simp; rfl

theorem swap_und : Gf.Und 2 (f2 0 1 1 0) (f2 0 1 1 0) := fun i j hi hj => by
  match i, hi, j, hj with
  | 0, _, 0, _ => decide +kernel
  | 0, _, 1, _ => decide +kernel
  | 1, _, 0, _ => decide +kernel
  | 1, _, 1, _ => decide +kernel

theorem one_two (r : Nat) (hr : r < 2) (k : Nat) (hk : k < 2) : Gf.one r k = f2 1 0 0 1 r k := by
  match r, hr, k, hk with
  | 0, _, 0, _ => rfl
  | 0, _, 1, _ => rfl
  | 1, _, 0, _ => rfl
  | 1, _, 1, _ => rfl

set_option maxHeartbeats 1000000 in
theorem alive2_any (w : World) : Calls Try.prog 9 #[] w fun e w' => e = .returned (.bool true) ∧ Below w.heap.size w w' := by
  have bd := f2_bd (a := 0) (b := 1) (c := 1) (d := 0) (by decide) (by decide) (by decide) (by decide)
  go_enter Try.func9, Try.ntmps9
  go_wp2_with fail
  refine (undo_any _ 2 (f2 0 1 1 0) _ (lit_mx w 0 1 1 0 (by decide) (by decide) (by decide) (by decide))).mono ?_
  rintro e w1 ⟨h1 | h1, hb1⟩
  · obtain ⟨v1, r1, rfl, hm1, hu1⟩ := h1
    have e1 := fun r hr k hk => Gf.Und.uniq bd hm1.bd bd hu1 swap_und r k hr hk
    have hbw1 := (lit_below w _ _ _).trans (hb1.mono (lit_below w _ _ _).size)
    clear hu1 hb1
    go_wp2_with fail
    refine (one_any 2 _ (by decide) (by decide)).mono ?_
    rintro e w2 ⟨v2, rfl, hm2, hb2⟩
    have hm1 := hm1.below hb2
    have hbw2 := hbw1.trans (hb2.mono hbw1.size)
    clear hb2 hbw1
    go_wp2_with fail
    refine (same_any v1 _ 2 2 r1 (f2 0 1 1 0) _ (hm1.below (lit_below w2 _ _ _)) (lit_mx w2 0 1 1 0 (by decide) (by decide) (by decide) (by decide)) e1).mono ?_
    rintro e w3 ⟨rfl, hb3⟩
    have hb23 := (lit_below w2 _ _ _).trans (hb3.mono (lit_below w2 _ _ _).size)
    have hm2 := hm2.below hb23
    have hbw3 := hbw2.trans (hb23.mono hbw2.size)
    clear hb3 hb23 hm1 hbw2
    go_wp2_with fail
    refine (same_any v2 _ 2 2 Gf.one (f2 1 0 0 1) _ (hm2.below (lit_below w3 _ _ _)) (lit_mx w3 1 0 0 1 (by decide) (by decide) (by decide) (by decide)) one_two).mono ?_
    rintro e w4 ⟨rfl, hb4⟩
    have hb34 := (lit_below w3 _ _ _).trans (hb4.mono (lit_below w3 _ _ _).size)
    have hbw4 := hbw3.trans (hb34.mono hbw3.size)
    clear hb4 hb34 hm2 hbw3
    go_wp2_with fail
    go_ret
    exact ⟨rfl, hbw4⟩
  · exact (Gf.Und.not_sing bd bd swap_und h1.2).elim

end Go.Proofs.Ytbidimaljeblgab
