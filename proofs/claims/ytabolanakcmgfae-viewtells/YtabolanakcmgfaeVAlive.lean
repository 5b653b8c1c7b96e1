/-
  What sparelaw7.alive does: it tells true.
-/
import Derived.Test.YtabolanakcmgfaeVFold
namespace Go.Proofs.Ytabolanakcmgfae
open Go.RowKit

theorem accs_at {w : World} {A : Option Addr} {n C : Nat} {l : List Vw.Acc} (h : Accs w (.slice A n C) l) : ∀ i a, l[i]? = some a → ∃ b o, A = some ⟨b, o, none⟩ ∧ AcIn w b (o + i * 4) a := by
  obtain ⟨_, _, hv, _, _, hc⟩ := h
  cases hv
  exact hc
def ev7 : List Evt.Ev := [⟨[97], 1, 0⟩, ⟨[97], 2, 7⟩, ⟨[97], 3, 2⟩]
theorem fold7 : Vw.fold 0 [] ev7 = ((0, 0), 3, [⟨[97], 5, 3, true⟩]) := by kernel_rfl
theorem nb97 : nb (ByteArray.mk #[97]) = [97] := by decide

theorem evs7 (w : World) : Evs (w.alloc (.cells #[.string (ByteArray.mk #[97]), .int .i64 1, .int .i64 0, .string (ByteArray.mk #[97]), .int .i64 2, .int .i64 7, .string (ByteArray.mk #[97]), .int .i64 3, .int .i64 2] 42)) (.slice (some ⟨w.heap.size, 0, none⟩) 3 3) ev7 := by
  refine ⟨some ⟨w.heap.size, 0, none⟩, 3, rfl, Nat.le_refl _, by unfold maxLen; omega, fun i e he => ⟨w.heap.size, 0, rfl, ?_⟩⟩
  have hc : ∀ j u, #[Value.string (ByteArray.mk #[97]), .int .i64 1, .int .i64 0, .string (ByteArray.mk #[97]), .int .i64 2, .int .i64 7, .string (ByteArray.mk #[97]), .int .i64 3, .int .i64 2].toList[j]? = some u → (w.alloc (.cells #[.string (ByteArray.mk #[97]), .int .i64 1, .int .i64 0, .string (ByteArray.mk #[97]), .int .i64 2, .int .i64 7, .string (ByteArray.mk #[97]), .int .i64 3, .int .i64 2] 42)).cell? ⟨w.heap.size, j, none⟩ = some u := fun j u hj => by
    have := cells_new w _ 42 j u hj
    rw [WideShapes.add_plain, Nat.zero_add] at this
    exact this
  rw [Nat.zero_add]
  match i, he with
  | 0, he =>
    cases he
    exact ⟨ByteArray.mk #[97], by decide, nb97, hc 0 _ rfl, hc 1 _ rfl, hc 2 _ rfl⟩
  | 1, he =>
    cases he
    exact ⟨ByteArray.mk #[97], by decide, nb97, hc 3 _ rfl, hc 4 _ rfl, hc 5 _ rfl⟩
  | 2, he =>
    cases he
    exact ⟨ByteArray.mk #[97], by decide, nb97, hc 6 _ rfl, hc 7 _ rfl, hc 8 _ rfl⟩
  | _ + 3, he => cases he

set_option maxHeartbeats 1000000 in
set_option maxRecDepth 100000 in
theorem alive7_any (w : World) : Calls Try.prog 23 #[] w fun e w' => e = .returned (.bool true) ∧ Below w.heap.size w w' := by
  have H1 := fold_any 0 (.slice none 0 0) _ [] ev7 _ (Accs.nil _) (evs7 w)
  rw [fold7] at H1
  have bA : Below w.heap.size w (w.alloc (.cells #[.string (ByteArray.mk #[97]), .int .i64 1, .int .i64 0, .string (ByteArray.mk #[97]), .int .i64 2, .int .i64 7, .string (ByteArray.mk #[97]), .int .i64 3, .int .i64 2] 42)) := (Below.refl _ _).alloc (Nat.le_refl _) _
  go_enter Try.func23, Try.ntmps23
  go_wp2_with fail
  refine H1.mono ?_
  rintro e w1 ⟨⟨v1, rfl, A1, _⟩, b1⟩
  obtain ⟨Q1, C1, rfl⟩ := A1.shape
  have b2 := bt bA b1
  have h1 : Below w1.heap.size w1 (w1.alloc (.cells #[.int .i64 3, .slice Q1 1 C1] 33)) := (Below.refl _ _).alloc (Nat.le_refl _) _
  have h2 := h1.alloc h1.size (.cells #[.int .i64 0, .int .i64 0] 36)
  have A2 := A1.below h2
  have b3 := bt b2 h2
  have v0 : ((w1.alloc (.cells #[.int .i64 3, .slice Q1 1 C1] 33)).alloc (.cells #[.int .i64 0, .int .i64 0] 36)).cell? ⟨w1.heap.size, 0, none⟩ = some (.int .i64 3) := by go_simp
  have v1 : ((w1.alloc (.cells #[.int .i64 3, .slice Q1 1 C1] 33)).alloc (.cells #[.int .i64 0, .int .i64 0] 36)).cell? ⟨w1.heap.size, 1, none⟩ = some (.slice Q1 1 C1) := by go_simp
  clear H1 bA A1 b1 h1 h2 b2
  go_wp2_with fail
  generalize (w1.alloc (.cells #[.int .i64 3, .slice Q1 1 C1] 33)).alloc (.cells #[.int .i64 0, .int .i64 0] 36) = w2 at A2 b3 v0 v1 ⊢
  have HG := fun w' (hb : Below w2.heap.size w2 w') => get_any 3 (ByteArray.mk #[97]) (.slice Q1 1 C1) _ w' (A2.below hb) (by decide)
  rw [nb97, show Vw.get [(⟨[97], 5, 3, true⟩ : Vw.Acc)] [97] = ⟨[97], 5, 3, true⟩ from rfl] at HG
  have bk := fun w' (hb : Below w2.heap.size w2 w') => (hb.cell (p := ⟨w1.heap.size, 0, none⟩) (World.block_lt_of_cell? _ _ v0)).trans v0
  have bl := fun w' (hb : Below w2.heap.size w2 w') => (hb.cell (p := ⟨w1.heap.size, 1, none⟩) (World.block_lt_of_cell? _ _ v1)).trans v1
  refine (HG w2 (Below.refl _ _)).mono ?_
  rintro e w3 ⟨⟨v3, rfl, s3, _, _, rfl⟩, b4⟩
  have q3 := field_acc1 s3 5 3 true
  have k0 := bk w3 b4
  have k1 := bl w3 b4
  go_wp2_with fail
  refine (HG w3 b4).mono ?_
  rintro e w4 ⟨⟨v4, rfl, s4, _, _, rfl⟩, b5⟩
  have q4 := field_acc3 s4 5 3 true
  have b5 := bt b4 b5
  have k0 := bk w4 b5
  have k1 := bl w4 b5
  go_wp2_with fail
  refine (HG w4 b5).mono ?_
  rintro e w5 ⟨⟨v5, rfl, s5, _, hs5, rfl⟩, b6⟩
  have b6 := bt b5 b6
  have HM := may_any s5 (ByteArray.mk #[97]) 5 3 3 6 true w5
  rw [show Vw.may ⟨nb s5, 5, 3, true⟩ ⟨nb (ByteArray.mk #[97]), 3, 6⟩ = false from rfl] at HM
  have k0 := bk w5 b6
  have k1 := bl w5 b6
  clear HG bk bl
  go_wp2_with fail
  refine HM.mono ?_
  rintro e w6 ⟨rfl, b7⟩
  clear HM
  go_wp2_with fail
  go_ret
  exact ⟨rfl, bt b3 (bt b6 b7)⟩

end Go.Proofs.Ytabolanakcmgfae
