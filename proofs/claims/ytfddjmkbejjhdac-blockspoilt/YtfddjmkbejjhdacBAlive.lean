/-
  The statements' own closed fact: a block is written and read, and a known sum is told.
-/
import Derived.Test.YtfddjmkbejjhdacBAny
import Derived.Lib.SlBytesConst
namespace Go.Proofs.Ytfddjmkbejjhdac
open Go.RowKit

def data56 (k : Nat) : Nat := if k = 0 then 5 else 6
theorem data56_bd : Bd data56 := fun k => by
  unfold data56
  split <;> decide
def digits9 (k : Nat) : Nat := if k < 9 then 49 + k else 0
theorem digits9_bd : Bd digits9 := fun k => by
  unfold digits9
  split <;> omega
theorem sum9 : Crc.sum digits9 9 = 3808858755 := by decide +kernel

theorem bytes56 (w : World) : Calls Try.prog 19 #[.agg #[.int .i64 3, .int .i64 1, .int .i64 2, .slice (some ⟨w.heap.size, 0, none⟩) 2 2]] (w.alloc (.cells #[.int .u8 5, .int .u8 6] 5)) fun e w' =>
    ∃ g cap, e = .returned (.tuple #[.slice (some ⟨g, 0, none⟩) 13 cap, .int .i64 0]) ∧ Byts w' (.slice (some ⟨g, 0, none⟩) 13 cap) 13 (Crc.enc 3 1 2 2 data56) ∧ Below w.heap.size w w' := by
  have hb : Below w.heap.size w (w.alloc (.cells #[.int .u8 5, .int .u8 6] 5)) := (Below.refl _ _).alloc (Nat.le_refl _) _
  have hr : RowC (w.alloc (.cells #[.int .u8 5, .int .u8 6] 5)) w.heap.size 5 2 (fun j => .int .u8 (data56 j : Nat)) := rowC_of (World.rowIs_alloc w #[.int .u8 5, .int .u8 6] 5 _ (fun i hi => by
    have : i = 0 ∨ i = 1 := by simp at hi; omega
    rcases this with rfl | rfl <;> rfl))
  have hd := byts_of_row data56_bd hr (cap := 2) (Nat.le_refl _) (by unfold maxLen; omega)
  refine (bytes_ok 3 1 2 _ 2 data56 _ hd (by decide)).mono ?_
  rintro e w' ⟨v', rfl, hm, hb'⟩
  have hy := hm.byts (Crc.enc_bd (by decide) (by decide) (by decide) (by decide) data56_bd)
  obtain ⟨g, cap, rfl, _⟩ := hm
  exact ⟨g, cap, rfl, hy, bt hb hb'⟩

theorem parse56 (v : Value) (w : World) (h : Byts w v 13 (Crc.enc 3 1 2 2 data56)) : Calls Try.prog 21 #[v] w fun e w' =>
    ∃ a b A C, e = .returned (.tuple #[.agg #[.int .i64 3, .int .i64 a, .int .i64 b, .slice A 2 C], .int .i64 0]) ∧ Below w.heap.size w w' := by
  have hE : Crc.parseE (Crc.enc 3 1 2 2 data56) 13 = 0 := Crc.parse_enc data56_bd (by decide)
  have h1 : Crc.enc 3 1 2 2 data56 1 = 3 := rfl
  refine (parse_any v 13 _ w h).mono ?_
  rintro e w' ⟨v', rfl, hv, hb⟩
  rw [hE, h1] at hv
  rw [hE]
  obtain ⟨d, rfl, hd⟩ := hv
  obtain ⟨A, C, rfl⟩ := hd.shape
  exact ⟨_, _, A, C, rfl, hb⟩

theorem sum9_any (w : World) (g : Nat) (h : ∀ i, i < 9 → w.cell? ⟨g, 0 + i, none⟩ = some (.int .u8 (digits9 i : Nat))) : Calls Try.prog 15 #[.slice (some ⟨g, 0, none⟩) 9 9] w fun e w' => e = .returned (.int .u32 3808858755) ∧ w' = w := by
  refine (sum_some g 0 9 9 digits9 w digits9_bd (by decide) h).mono ?_
  rintro e w' ⟨rfl, rfl⟩
  rw [sum9]
  exact ⟨rfl, rfl⟩

theorem digits_cells (w : World) (i : Nat) (hi : i < 9) : (w.alloc (.cells #[.int .u8 49, .int .u8 50, .int .u8 51, .int .u8 52, .int .u8 53, .int .u8 54, .int .u8 55, .int .u8 56, .int .u8 57] 5 (9, 10))).cell? ⟨w.heap.size, 0 + i, none⟩ = some (.int .u8 (digits9 i : Nat)) := by
  have hb : (w.alloc (.cells #[.int .u8 49, .int .u8 50, .int .u8 51, .int .u8 52, .int .u8 53, .int .u8 54, .int .u8 55, .int .u8 56, .int .u8 57] 5 (9, 10))).heap[w.heap.size]? = some (.cells #[.int .u8 49, .int .u8 50, .int .u8 51, .int .u8 52, .int .u8 53, .int .u8 54, .int .u8 55, .int .u8 56, .int .u8 57] 5 (9, 10)) := Deep.blk_alloc_new _ _
  simp only [World.cell?, hb]
  rcases (show i = 0 ∨ i = 1 ∨ i = 2 ∨ i = 3 ∨ i = 4 ∨ i = 5 ∨ i = 6 ∨ i = 7 ∨ i = 8 by omega) with rfl | rfl | rfl | rfl | rfl | rfl | rfl | rfl | rfl <;> rfl

set_option maxHeartbeats 1000000 in
theorem alive4_any (w : World) : Calls Try.prog 24 #[] w fun e w' => e = .returned (.bool true) ∧ Below w.heap.size w w' := by
  have H1 := bytes56 w
  go_enter Try.func24, Try.ntmps24
  go_wp2_with fail
  refine H1.mono ?_
  rintro e w1 ⟨g, cap, rfl, hy, b1⟩
  have H2 := parse56 _ w1 hy
  clear H1 hy
  go_wp2_with fail
  refine H2.mono ?_
  rintro e w2 ⟨a, b, A, C, rfl, b2⟩
  have b2 := bt b1 b2
  clear H2 b1
  have kc := Lib.run_convert_bytes_const (P := Try.prog) (w2.alloc (.cells #[.int .i64 3, .int .i64 a, .int .i64 b, .slice A 2 C] 39)) 24 5 #[.int .u8 49, .int .u8 50, .int .u8 51, .int .u8 52, .int .u8 53, .int .u8 54, .int .u8 55, .int .u8 56, .int .u8 57] 9 9 Try.underlying24 Try.underlying5
  have sz : (w2.alloc (.cells #[.int .i64 3, .int .i64 a, .int .i64 b, .slice A 2 C] 39)).heap.size = w2.heap.size + 1 := by simp
  have H3 := sum9_any _ _ (digits_cells (w2.alloc (.cells #[.int .i64 3, .int .i64 a, .int .i64 b, .slice A 2 C] 39)))
  have b3 : Below w.heap.size w (w2.alloc (.cells #[.int .i64 3, .int .i64 a, .int .i64 b, .slice A 2 C] 39)) := b2.alloc b2.size _
  have b4 := b3.alloc b3.size (.cells #[.int .u8 49, .int .u8 50, .int .u8 51, .int .u8 52, .int .u8 53, .int .u8 54, .int .u8 55, .int .u8 56, .int .u8 57] 5 (9, 10))
  rw [sz] at kc H3
  clear sz b3
  go_wp2_with fail
  refine H3.mono ?_
  rintro e w3 ⟨rfl, rfl⟩
  clear H3 kc
  go_wp2_with fail
  go_ret
  exact ⟨rfl, b4⟩

end Go.Proofs.Ytfddjmkbejjhdac
