/-
  What the document's own ParseBlock does, call by call.
-/
import Derived.Test.YtmlboaejkmffjadBRefB
namespace Go.Proofs.Ytmlboaejkmffjad
open Go.RowKit


set_option maxHeartbeats 400000 in
theorem refParse_bad (v : Value) (n : Nat) (g : Nat → Nat) (w : World) (h : Byts w v n g) (hx : BadForm g n) :
    Calls Try.prog 55 #[v] w fun e w' => e = .returned (.tuple #[.agg #[.int .i64 0, .int .i64 0, .int .i64 0, .slice none 0 0], .int .i64 2]) ∧ Below w.heap.size w w' := by
  have hl := h.len
  have hbd := h.bd
  have hb0 : Below w.heap.size w (w.alloc (.cells #[.int .i64 0, .int .i64 0, .int .i64 0, .slice none 0 0] 75)) := (Below.refl _ _).alloc (Nat.le_refl _) _
  by_cases hn : n < 12
  · obtain ⟨A, C, rfl⟩ := h.shape
    have hn' : (n : Int) < 12 := by omega
    clear hx h
    go_enter Try.func55, Try.ntmps55
    go_wp2_with fail
    go_quiet (fail)
    go_wp2_with fail
    refine bodyPost_ret (v := .tuple #[.agg #[.int .i64 0, .int .i64 0, .int .i64 0, .slice none 0 0], .int .i64 2]) (by simp [results, Try.results55, go_sem]) rfl ⟨rfl, ?_⟩
    exact set4_below (bdn hb0 _) (Nat.le_refl _)
  have hn' : ¬ (n : Int) < 12 := by omega
  have hnd : decide ((n : Int) < 12) = false := by simp; omega
  obtain ⟨b, o, cap, rfl, _, _, hc⟩ := h.some (by omega)
  have hc := fun i hi => (hb0.cell (p := ⟨b, o + i, none⟩) (World.block_lt_of_cell? _ _ (hc i hi))).trans (hc i hi)
  have t0 := hc 0 (by omega)
  rw [Nat.add_zero] at t0
  have hnz : (0 : Int) < (n : Int) := by omega
  by_cases h0 : g 0 = 83
  · have e0 : (((g 0 : Nat) : Int) != 83) = false := by rw [h0]; rfl
    have t5 := hc 5 (by omega)
    have t6 := hc 6 (by omega)
    have b5 := hbd 5
    have b6 := hbd 6
    have hn5 : (5 : Int) < (n : Int) := by omega
    have hn6 : (6 : Int) < (n : Int) := by omega
    have hne : ((256 * ((g 5 : Nat) : Int) + ((g 6 : Nat) : Int)) != (n : Int) - 11) = true := by
      rw [bne_iff_ne]
      unfold BadForm at hx
      omega
    clear hx h hc
    go_enter Try.func55, Try.ntmps55
    go_wp2_with fail
    go_quiet (fail)
    go_wp2_with fail
    refine bodyPost_ret (v := .tuple #[.agg #[.int .i64 0, .int .i64 0, .int .i64 0, .slice none 0 0], .int .i64 2]) (by simp [results, Try.results55, go_sem]) rfl ⟨rfl, ?_⟩
    exact set4_below (bdn hb0 _) (Nat.le_refl _)
  · have e0 : (((g 0 : Nat) : Int) != 83) = true := by rw [bne_iff_ne]; omega
    clear hx h hc
    go_enter Try.func55, Try.ntmps55
    go_wp2_with fail
    go_quiet (fail)
    go_wp2_with fail
    refine bodyPost_ret (v := .tuple #[.agg #[.int .i64 0, .int .i64 0, .int .i64 0, .slice none 0 0], .int .i64 2]) (by simp [results, Try.results55, go_sem]) rfl ⟨rfl, ?_⟩
    exact set4_below (bdn hb0 _) (Nat.le_refl _)

end Go.Proofs.Ytmlboaejkmffjad
