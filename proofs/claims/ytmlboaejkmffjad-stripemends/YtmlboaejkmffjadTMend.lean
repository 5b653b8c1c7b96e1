/-
  What stripe.Mend does with whatever it is handed.
-/
import Derived.Test.YtmlboaejkmffjadTRead
namespace Go.Proofs.Ytmlboaejkmffjad
open Go.RowKit

set_option maxHeartbeats 400000 in
set_option maxRecDepth 100000 in
theorem smend_any (v : Value) (N : Nat) (L : Nat → Nat) (g : Nat → Nat → Nat) (seg d : Int) (w : World) (h : Lls w v N L g) :
    Calls Try.prog 28 #[v, .int .i64 seg, .int .i64 d] w fun e w' => SMendP seg d N L g e w' ∧ Below w.heap.size w w' := by
  have HR := read_any v N L g seg d w h
  have hN := h.len
  obtain ⟨A, C, rfl⟩ := h.shape
  by_cases hE : readE seg d N L g = 0
  case neg =>
    have HE : Hid (readE seg d N L g ≠ 0) := hE
    have HP : Hid (∀ w', SMendP seg d N L g (.returned (.tuple #[.slice none 0 0, .int .i64 (readE seg d N L g : Nat)])) w') := fun w' => Or.inl ⟨hE, rfl⟩
    have hx' : (((readE seg d N L g : Nat) : Int) == 0) = false := by rw [beq_eq_false_iff_ne]; omega
    have hxn : (((readE seg d N L g : Nat) : Int) != 0) = true := by rw [bne, hx']; rfl
    clear hE h
    go_enter Try.func28, Try.ntmps28
    go_wp2_with fail
    refine HR.mono ?_
    rintro e w1 ⟨v1, rfl, _, b1⟩
    clear HR
    go_wp2_with fail
    go_ret2
    exact ⟨HP.out _, b1⟩
  case pos =>
    have hw : wrongC d ((N : Int) - d) = 0 := by
      refine Classical.byContradiction fun q => ?_
      rw [show readE seg d N L g = 5 from if_pos q] at hE
      cases hE
    have hb : ¬ (d < 1 ∨ 8 < d ∨ (N : Int) - d < 0 ∨ 4 < (N : Int) - d) := fun q => by rw [wrongC_bad q] at hw; cases hw
    have p1 : 1 ≤ d := by omega
    have p2 : d ≤ 8 := by omega
    have p3 : (0 : Int) ≤ (N : Int) - d := by omega
    have p4 : (N : Int) - d ≤ 4 := by omega
    have HE : Hid (readE seg d N L g = 0) := hE
    rw [hE] at HR
    clear hE hw hb h
    go_enter Try.func28, Try.ntmps28
    go_wp2_with fail
    refine HR.mono ?_
    rintro e w1 ⟨v1, rfl, hO, b1⟩
    obtain ⟨r, hr1, hr2, hy⟩ : ∃ r, Gf.Bd2 r ∧ Gf.Und d.toNat (fun p => Gf.rowF d.toNat (thr (Seg.rl seg L g) N p)) r ∧ Byts w1 v1 (Seg.rz g (thr (Seg.rl seg L g) N 0)) (readF d.toNat N (Seg.rl seg L g) (Seg.rf g) r) := by
      rcases hO with ⟨_, q⟩ | ⟨q, _⟩
      · exact q
      · exact absurd rfl q
    have HL := lay_any v1 _ _ seg d ((N : Int) - d) w1 hy
    have HP : Hid (∀ e w', (∃ v', e = .returned (.tuple #[v', .int .i64 (Seg.layE (Seg.rz g (thr (Seg.rl seg L g) N 0)) seg d ((N : Int) - d) : Nat)]) ∧ LayO w' (Seg.layE (Seg.rz g (thr (Seg.rl seg L g) N 0)) seg d ((N : Int) - d)) v' (d.toNat + ((N : Int) - d).toNat) (Seg.layN (Seg.rz g (thr (Seg.rl seg L g) N 0)) d.toNat + 11) (Seg.blk (readF d.toNat N (Seg.rl seg L g) (Seg.rf g) r) (Seg.rz g (thr (Seg.rl seg L g) N 0)) seg.toNat d.toNat)) → SMendP seg d N L g e w') := fun e w' ⟨v', q1, q2⟩ => Or.inr ⟨HE.out, v', r, hr1, hr2, q1, q2⟩
    obtain ⟨A1, C1, rfl⟩ := hy.shape
    clear HR hO hy
    go_wp2_with fail
    refine HL.mono ?_
    rintro e w2 ⟨v2, rfl, O2, b2⟩
    have HP := HP.out _ w2 ⟨v2, rfl, O2⟩
    have HPH : Hid (SMendP seg d N L g (.returned (.tuple #[v2, .int .i64 (Seg.layE (Seg.rz g (thr (Seg.rl seg L g) N 0)) seg d ((N : Int) - d) : Nat)])) w2) := HP
    have b2 := bt b1 b2
    clear HL O2 HP
    go_wp2_with fail
    go_ret2
    exact ⟨HPH.out, b2⟩

end Go.Proofs.Ytmlboaejkmffjad
