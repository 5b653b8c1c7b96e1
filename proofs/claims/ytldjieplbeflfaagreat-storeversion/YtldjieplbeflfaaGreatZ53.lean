/-
  Texts of the proof, joined: HAlvW.
-/
import Derived.Test.YtldjieplbeflfaaGreatZ52
namespace Go.Proofs.YtldjieplbeflfaaGreat
open Go.RowKit

set_option maxHeartbeats 2000000 in
set_option maxRecDepth 100000 in
theorem alive_any (w : World) : Calls Tryz.prog 9 #[] w fun e w' => e = .returned (.bool true) ∧ Below w.heap.size w w' := by
  obtain ⟨X, hX⟩ := Sto.six
  have b1 : Below w.heap.size w (w.alloc (.cells #[.string ⟨#[97]⟩, .int .i64 1, .int .i64 0] 59)) := (Below.refl _ _).alloc (Nat.le_refl _) _
  have VE := varN_new w #[.string ⟨#[97]⟩, .int .i64 1, .int .i64 0] 59
  have HP1 := putL_any 1 (some ⟨w.heap.size, 0, none⟩) 1 1 (w.alloc (.cells #[.string ⟨#[97]⟩, .int .i64 1, .int .i64 0] 59))
  go_enter Tryz.func9, Tryz.ntmps9
  go_wp2_with fail
  refine HP1.mono ?_
  rintro e w2 ⟨rfl, b2⟩
  have b3 : Below w2.heap.size w2 (w2.alloc (.cells #[.int .i64 1, .int .i64 0, .int .i64 0, .int .i64 0, .int .u8 0, .int .i64 1, .slice (some ⟨w.heap.size, 0, none⟩) 1 1, .string ByteArray.empty, .int .i64 (-1), .int .i64 5, .int .i64 0, .int .i64 0, .int .i64 0, .int .u8 0, .int .i64 0, .slice none 0 0, .string ByteArray.empty, .int .i64 0, .int .i64 3, .int .i64 0, .int .i64 0, .int .i64 0, .int .u8 0, .int .i64 0, .slice none 0 0, .string ByteArray.empty, .int .i64 0] 43)) := (Below.refl _ _).alloc (Nat.le_refl _) _
  have hdo := dos_A ((VE.below b2).below b3) (varN_new w2 #[.int .i64 1, .int .i64 0, .int .i64 0, .int .i64 0, .int .u8 0, .int .i64 1, .slice (some ⟨w.heap.size, 0, none⟩) 1 1, .string ByteArray.empty, .int .i64 (-1), .int .i64 5, .int .i64 0, .int .i64 0, .int .i64 0, .int .u8 0, .int .i64 0, .slice none 0 0, .string ByteArray.empty, .int .i64 0, .int .i64 3, .int .i64 0, .int .i64 0, .int .i64 0, .int .u8 0, .int .i64 0, .slice none 0 0, .string ByteArray.empty, .int .i64 0] 43)
  have HPL : Calls Tryz.prog 10 #[.agg #[.int .i64 2, .int .i64 1, .int .i64 1], .slice (some ⟨w2.heap.size, 0, none⟩) 3 3] (w2.alloc (.cells #[.int .i64 1, .int .i64 0, .int .i64 0, .int .i64 0, .int .u8 0, .int .i64 1, .slice (some ⟨w.heap.size, 0, none⟩) 1 1, .string ByteArray.empty, .int .i64 (-1), .int .i64 5, .int .i64 0, .int .i64 0, .int .i64 0, .int .u8 0, .int .i64 0, .slice none 0 0, .string ByteArray.empty, .int .i64 0, .int .i64 3, .int .i64 0, .int .i64 0, .int .i64 0, .int .u8 0, .int .i64 0, .slice none 0 0, .string ByteArray.empty, .int .i64 0] 43)) fun e w' => PlayO e (w2.alloc (.cells #[.int .i64 1, .int .i64 0, .int .i64 0, .int .i64 0, .int .u8 0, .int .i64 1, .slice (some ⟨w.heap.size, 0, none⟩) 1 1, .string ByteArray.empty, .int .i64 (-1), .int .i64 5, .int .i64 0, .int .i64 0, .int .i64 0, .int .u8 0, .int .i64 0, .slice none 0 0, .string ByteArray.empty, .int .i64 0, .int .i64 3, .int .i64 0, .int .i64 0, .int .i64 0, .int .u8 0, .int .i64 0, .slice none 0 0, .string ByteArray.empty, .int .i64 0] 43)) w' X cA [dA1, dA2, dA3] := play_ok hX cA (by decide) (by decide) (by decide) (by decide) (by decide) _ _ _ hdo (by decide)
  have b03 := bt (bt b1 b2) b3
  clear HP1 VE b1 b2 b3 hdo
  go_wp2_with fail
  refine HPL.mono ?_
  rintro e w4 ⟨N, R, F, E, D, V, U, vt, vs, va, tc, vr, qs, rfl, hS, hA, hb4, _⟩
  obtain ⟨hseg, a1, a2, hans⟩ := aliveA hX
  rw [hans] at hA
  have b04 := bt b03 hb4
  have hq3 : qs.length = 3 := hA.len
  obtain ⟨q, hq⟩ : ∃ q, qs[2]? = some q := ⟨qs[2], List.getElem?_eq_getElem (by omega)⟩
  obtain ⟨ve, va', hag, hev, _⟩ := hA.ans 2 q _ hq rfl
  obtain ⟨Ae, Ce, hve⟩ := hev.1.shape
  have hcell : ∀ j u, j < 5 → (anCells q)[j]? = some u → ∀ g, vr.ownBlock = some g → w4.cell? ⟨g, 10 + j, none⟩ = some u := fun j u hj hu g hg => by
    have hf := flat_get anCells 5 qs (fun _ _ => rfl) 2 j hj q hq
    have := hA.own.cells (g := g) hg (2 * 5 + j) u (hf.trans hu)
    rw [WideShapes.add_plain, Nat.zero_add] at this
    exact this
  obtain ⟨g, cap, rfl, hc1, hc2⟩ : ∃ g cap, vr = .slice (some ⟨g, 0, none⟩) 3 cap ∧ 3 ≤ cap ∧ cap ≤ 9223372036854775807 := by
    rcases hA.own.2 with ⟨rfl, h0⟩ | ⟨g, cap, cur, rfl, _, _, h1, h2, _⟩
    · omega
    · rw [hq3] at h1
      exact ⟨g, cap, by rw [hq3], h1, by unfold maxLen at h2; exact h2⟩
  have hcs : (anCells q).toArray = #[.int .i64 ((0 : Nat) : Int), .int .i64 1, ve, .int .i64 0, va'] := Value.agg.inj hag
  have hcl : anCells q = [.int .i64 ((0 : Nat) : Int), .int .i64 1, ve, .int .i64 0, va'] := by
    have := congrArg Array.toList hcs
    exact this
  have k0 : w4.cell? ⟨g, 10, none⟩ = some (.int .i64 0) := hcell 0 _ (by decide) (by rw [hcl]; rfl) g rfl
  have k2 : w4.cell? ⟨g, 12, none⟩ = some (.slice Ae 1 Ce) := hcell 2 _ (by decide) (by rw [hcl, hve]; rfl) g rfl
  obtain ⟨At, n5, Ct, rfl⟩ : ∃ At n Ct, vt = .slice At n Ct := by
    rcases hS.tail.own.2 with ⟨rfl, _⟩ | ⟨g, cap, cur, rfl, _⟩
    · exact ⟨_, _, _, rfl⟩
    · exact ⟨_, _, _, rfl⟩
  obtain ⟨As, n6, Cs, rfl⟩ : ∃ At n Ct, vs = .slice At n Ct := by
    rcases hS.seen.2 with ⟨rfl, _⟩ | ⟨g, cap, cur, rfl, _⟩
    · exact ⟨_, _, _, rfl⟩
    · exact ⟨_, _, _, rfl⟩
  obtain ⟨Aa, n8, Ca, rfl⟩ : ∃ At n Ct, va = .slice At n Ct := by
    obtain ⟨A, C, h⟩ := hS.acc.1.shape
    exact ⟨_, _, _, h⟩
  have hgl : g < w4.heap.size := World.block_lt_of_cell? _ _ k0
  have hgn : g ≠ w4.heap.size := Nat.ne_of_lt hgl
  rw [hseg]
  obtain ⟨sd, hsd⟩ : ∃ x, x = (Sto.steps X cA (Sto.start cA) [dA1, dA2, dA3]).1.disks.length := ⟨_, rfl⟩
  obtain ⟨su, hsu⟩ : ∃ x, x = (Sto.steps X cA (Sto.start cA) [dA1, dA2, dA3]).1.u := ⟨_, rfl⟩
  rw [← hsd, ← hsu]
  have b5 : ∀ o, Below w.heap.size w (w4.alloc o) := fun o => b04.alloc b04.size _
  simp only [stCells]
  clear HPL hS hA hcell hcs hcl hag hev hve hans hseg hsd hsu hX
  go_wp2_with fail
  go_ret
  exact ⟨rfl, b5 _⟩

end Go.Proofs.YtldjieplbeflfaaGreat
