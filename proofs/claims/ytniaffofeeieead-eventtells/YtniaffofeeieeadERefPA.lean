/-
  What the document's own Parse does with whatever bytes it is handed.
-/
import Derived.Test.YtniaffofeeieeadERefP
namespace Go.Proofs.Ytniaffofeeieead
open Go.RowKit

set_option maxHeartbeats 400000 in
theorem num_none (X : Option Addr) (C : Nat) (W0 w : World) (h : PS W0 w (.slice X 0 C) 0 0 true) :
    Calls Try.prog 25 #[.int .i64 1, .pointer (some ⟨W0.heap.size + 1, 0, none⟩), .pointer (some ⟨W0.heap.size, 0, none⟩), .pointer (some ⟨W0.heap.size + 1 + 1, 0, none⟩)] w fun e w' => e = .returned (.int .i64 0) ∧ PS W0 w' (.slice X 0 C) 0 0 false := by
  have HP : Hid (PS W0 (w.setCell ⟨W0.heap.size + 1 + 1, 0, none⟩ (.bool false)) (.slice X 0 C) 0 0 false) := h.setNo
  have c0 : w.cell? ⟨W0.heap.size + 1, 0, none⟩ = some (.int .i64 0) := h.at_
  have c1 := h.b_
  have c2 := h.ok_
  have f1 := h.fo
  clear h
  go_enter Try.func25, Try.ntmps25
  go_wp2_with fail
  refine wp_loop_rounds 1 ?_
  rw [rounds_succ]
  go_wp2_with fail
  go_ret
  exact ⟨rfl, HP.out⟩

theorem parse_empty (g : Nat → Nat) : Evt.parseE (bl g 0) = 2 ∧ Evt.parse (bl g 0) = [] := ⟨rfl, rfl⟩

set_option maxHeartbeats 400000 in
theorem refParseL_none (X : Option Addr) (C : Nat) (g : Nat → Nat) (w : World) :
    Calls Try.prog 15 #[.slice X 0 C] w fun e w' => ∃ v', e = .returned (.tuple #[v', .int .i64 (Evt.parseE (bl g 0) : Nat)]) ∧ Bats w' v' (Evt.parse (bl g 0)) ∧ Below w.heap.size w w' := by
  rw [(parse_empty g).1, (parse_empty g).2]
  have eg := Try.enters_num
  have P0 : PS w (((w.alloc (.cells #[.slice X 0 C] 25)).alloc (.cells #[.int .i64 0] 3)).alloc (.cells #[.bool true] 4)) (.slice X 0 C) 0 0 true := by
    refine ⟨by go_simp, by go_simp, by go_simp, by go_simp, by go_simp, ?_, Nat.zero_le _⟩
    have h1 : Below w.heap.size w (w.alloc (.cells #[.slice X 0 C] 25)) := (Below.refl _ _).alloc (Nat.le_refl _) _
    have h2 := h1.alloc h1.size (.cells #[.int .i64 0] 3)
    exact h2.alloc h2.size _
  have HN := num_none X C w _ P0
  clear P0
  go_enter Try.func15, Try.ntmps15
  go_wp2_with fail
  refine HN.mono ?_
  rintro e w1 ⟨rfl, P1⟩
  have c0 := P1.at_
  have c1 := P1.b_
  have c2 := P1.ok_
  have bz := P1.bel
  clear HN P1
  go_wp2_with fail
  refine wp_loop_rounds 1 ?_
  rw [rounds_succ]
  go_wp2_with fail
  go_ret2
  exact ⟨_, rfl, bats_nil _, bz⟩

theorem refParseL_any (v : Value) (N : Nat) (g : Nat → Nat) (w : World) (h : Byts w v N g) :
    Calls Try.prog 15 #[v] w fun e w' => ∃ v', e = .returned (.tuple #[v', .int .i64 (Evt.parseE (bl g N) : Nat)]) ∧ Bats w' v' (Evt.parse (bl g N)) ∧ Below w.heap.size w w' := by
  by_cases hN : 1 ≤ N
  · obtain ⟨b, o, cap, rfl, _⟩ := h.some hN
    exact refParseL_some b o cap N g w h hN
  · obtain rfl : N = 0 := by omega
    obtain ⟨X, C, rfl⟩ := h.zero
    exact refParseL_none X C g w

end Go.Proofs.Ytniaffofeeieead
