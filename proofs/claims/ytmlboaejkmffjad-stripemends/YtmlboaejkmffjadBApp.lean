/-
  What block.appendNumber, block.appendSum and bytes.Clone do, call by call.
-/
import Derived.Test.YtmlboaejkmffjadBByte
import Derived.Lib.AppendZeros
import Derived.Lib.SliceRun
namespace Go.Proofs.Ytmlboaejkmffjad
open Go.RowKit

/-- Bytes as a list of cells. -/
def cellsOf (f : Nat → Nat) (n : Nat) : List Value := (List.range n).map fun k => .int .u8 (f k : Nat)
theorem cellsOf_getD (f : Nat → Nat) (n j : Nat) (h : j < n) (d : Value) : (cellsOf f n).getD j d = .int .u8 (f j : Nat) := by simp [cellsOf, List.getD, h]
theorem cellsOf_congr {f g : Nat → Nat} {n : Nat} (h : ∀ k, k < n → f k = g k) : cellsOf f n = cellsOf g n := List.map_congr_left (fun k hk => by rw [h k (List.mem_range.1 hk)])
theorem cellsOf_add (f : Nat → Nat) (n m : Nat) : cellsOf f (n + m) = cellsOf f n ++ cellsOf (fun k => f (n + k)) m := by
  unfold cellsOf
  rw [List.range_add, List.map_append, List.map_map]
  rfl
theorem cellsOf_one (f : Nat → Nat) (n : Nat) : ∀ u ∈ cellsOf f n, u.oneCell' = true := fun u hu => by
  obtain ⟨k, _, rfl⟩ := List.mem_map.1 hu
  rfl

/-- Bytes that the call has made, and appends to. -/
def Buf (w : World) (N : Nat) (v : Value) (n : Nat) (f : Nat → Nat) : Prop := w.ownsRow N 5 1 v n (cellsOf f n)
theorem Buf.below {w w' : World} {N : Nat} {v : Value} {n : Nat} {f : Nat → Nat} (h : Buf w N v n f) (hb : Below w.heap.size w w') : Buf w' N v n f := owns_below h hb
theorem Buf.congr {w : World} {N : Nat} {v : Value} {n : Nat} {f g : Nat → Nat} (h : Buf w N v n f) (e : ∀ k, k < n → f k = g k) : Buf w N v n g := by
  unfold Buf at h ⊢
  rw [← cellsOf_congr e]
  exact h
theorem Buf.byts {w : World} {N : Nat} {v : Value} {n : Nat} {f : Nat → Nat} (h : Buf w N v n f) (hf : Bd f) (hn : 1 ≤ n) : ∃ g cap, v = .slice (some ⟨g, 0, none⟩) n cap ∧ N ≤ g ∧ n ≤ cap ∧ cap ≤ maxLen ∧ RowC w g 5 n (fun j => .int .u8 (f j : Nat)) ∧ Byts w v n f := by
  obtain ⟨hl, h'⟩ := h
  rcases h' with ⟨_, h0⟩ | ⟨g, cap, cur, hv, hN, hg, hc, hm, hs, ht⟩
  · omega
  · obtain ⟨g', cap', hv', hN', hc', hr⟩ := rowC_owns (w := w) (N := N) (t := 5) (v := v) (n := n) (xs := cellsOf f n) ⟨hl, Or.inr ⟨g, cap, cur, hv, hN, hg, hc, hm, hs, ht⟩⟩ hn
    rw [hv] at hv'
    cases hv'
    have hr2 : RowC w g 5 n (fun j => .int .u8 (f j : Nat)) := hr.congr (fun j hj => cellsOf_getD f n j hj _)
    exact ⟨g, cap, hv, hN, hc, hm, hr2, by rw [hv]; exact byts_of_row hf hr2 hc hm⟩

/-- A function with one value set. -/
def put (f : Nat → Nat) (n x : Nat) (k : Nat) : Nat := if k = n then x else f k

set_option maxHeartbeats 400000 in
theorem appNum_any (N n x : Nat) (v : Value) (f : Nat → Nat) (w : World) (h : Buf w N v n f) (hN : N ≤ w.heap.size) (hn : n ≤ 1000) (hx : x < 65536) :
    Calls Try.prog 85 #[v, .int .i64 (x : Int)] w fun e w' => ∃ v', e = .returned v' ∧ Buf w' N v' (n + 2) (put (put f n (x / 256)) (n + 1) (x % 256)) ∧ Below N w w' := by
  obtain ⟨i1, hi1, hh1⟩ := Option.map_eq_some_iff.1 Try.infoByte
  simp only [Prod.mk.injEq] at hh1
  obtain ⟨hy0, hy1, hy2⟩ := hh1
  go_enter Try.func85, Try.ntmps85
  have HO : Buf (w.alloc (.cells #[.int .u8 ((x : Int) / 256), .int .u8 ((x : Int) % 256)] 5)) N v n f := h.below ((Below.refl _ _).alloc (Nat.le_refl _) _)
  have hbx : Below N w (w.alloc (.cells #[.int .u8 ((x : Int) / 256), .int .u8 ((x : Int) % 256)] 5)) := (Below.refl _ _).alloc hN _
  have HL := h.lt
  have cn := cells_new w #[.int .u8 ((x : Int) / 256), .int .u8 ((x : Int) % 256)] 5
  have sX := hbx.size
  go_wp2_with (at_builtin; go_loud (refine wpList_append_own _ rfl (.tmp 5) (.tmp 11) 25 rfl N 5 i1 (.int .u8 0) 1 1 Try.underlying25 hi1 hy0 hy1 hy2 rfl (by decide) _ _ _ rfl HO ⟨w.heap.size, 0, none⟩ 2 2 [.int .u8 ((x : Int) / 256), .int .u8 ((x : Int) % 256)] rfl rfl cn (by intro u hu; simp at hu; rcases hu with rfl | rfl <;> rfl) (by unfold maxLen; omega) (by omega) (Nat.le_trans hN sX) ?_; intro v1 w1 hown1 hgrow1 _))
  go_ret
  refine ⟨_, rfl, ?_, hbx.grown hgrow1 (Nat.le_trans hN sX) (fun y hy => (HL y hy).1)⟩
  have e : cellsOf (put (put f n (x / 256)) (n + 1) (x % 256)) (n + 2) = cellsOf f n ++ [.int .u8 ((x : Int) / 256), .int .u8 ((x : Int) % 256)] := by
    rw [cellsOf_add]
    refine congr (congrArg _ ?_) ?_
    · exact cellsOf_congr (fun k hk => by unfold put; rw [if_neg (by omega), if_neg (by omega)])
    · show [Value.int .u8 ((put (put f n (x / 256)) (n + 1) (x % 256) (n + 0) : Nat) : Int), Value.int .u8 ((put (put f n (x / 256)) (n + 1) (x % 256) (n + 1) : Nat) : Int)] = _
      unfold put
      rw [if_neg (by omega), if_pos (by omega), if_pos rfl]
      rfl
  unfold Buf
  rw [e]
  exact hown1

theorem buf_one {w : World} {N n y : Nat} {v : Value} {f : Nat → Nat} {a : Int} (h : w.ownsRow N 5 1 v (n + 1) (cellsOf f n ++ [.int .u8 a])) (e : a = (y : Int)) (ey : f n = y) : Buf w N v (n + 1) f := by
  unfold Buf
  rw [cellsOf_add]
  show w.ownsRow N 5 1 v (n + 1) (cellsOf f n ++ [Value.int .u8 ((f n : Nat) : Int)])
  rw [ey, ← e]
  exact h

/-- The first n by f, then the bytes of a sum. -/
def then4 (f : Nat → Nat) (n x k : Nat) : Nat := if k < n then f k else Crc.low x (k - n)

set_option maxHeartbeats 400000 in
theorem appSum_any (N n x : Nat) (v : Value) (f : Nat → Nat) (w : World) (h : Buf w N v n f) (hN : N ≤ w.heap.size) (hn : n ≤ 1000) (_hx : x < 4294967296) :
    Calls Try.prog 86 #[v, .int .u32 (x : Int)] w fun e w' => ∃ v', e = .returned v' ∧ Buf w' N v' (n + 4) (then4 f n x) ∧ Below N w w' := by
  obtain ⟨i1, hi1, hh1⟩ := Option.map_eq_some_iff.1 Try.infoByte
  simp only [Prod.mk.injEq] at hh1
  obtain ⟨hy0, hy1, hy2⟩ := hh1
  go_enter Try.func86, Try.ntmps86
  go_wp2_with fail
  go_loopw [0, 6] (fun u y wr => ∃ k : Nat, k ≤ 4 ∧ y = .int .i64 k ∧ Buf wr N u (n + k) (then4 f n x) ∧ Below N w wr) (fun _ y _ => 4 - (intOf y).toNat)
  case atStart => exact ⟨0, Nat.zero_le _, rfl, h.congr (fun k hk => by unfold then4; rw [if_pos hk]), Below.refl _ _⟩
  case round =>
    obtain ⟨k, hk, rfl, HB, hb⟩ := hrel
    by_cases hlt : k < 4
    · have hlt' : (k : Int) < 4 := by omega
      have HO := HB.below ((Below.refl _ _).alloc (Nat.le_refl _) (.cells #[.int .u8 ((x : Int) / 2 ^ (8 * k) % 256)] 5))
      have hbx : Below N w (wr.alloc (.cells #[.int .u8 ((x : Int) / 2 ^ (8 * k) % 256)] 5)) := hb.alloc (Nat.le_trans hN hb.size) _
      have HL := HB.lt
      have cn := cells_new wr #[.int .u8 ((x : Int) / 2 ^ (8 * k) % 256)] 5
      have sX : N ≤ (wr.alloc (.cells #[.int .u8 ((x : Int) / 2 ^ (8 * k) % 256)] 5)).heap.size := Nat.le_trans hN hbx.size
      go_wp2_with (at_builtin; go_loud (refine wpList_append_own _ rfl (.tmp 9) (.tmp 15) 25 rfl N 5 i1 (.int .u8 0) 1 1 Try.underlying25 hi1 hy0 hy1 hy2 rfl (by decide) _ _ _ rfl HO ⟨wr.heap.size, 0, none⟩ 1 1 [.int .u8 ((x : Int) / 2 ^ (8 * k) % 256)] rfl rfl cn (by intro u hu; simp at hu; subst hu; rfl) (by unfold maxLen; omega) (by omega) sX ?_; intro v1 w1 hown1 hgrow1 _))
      refine ⟨⟨k + 1, by omega, by go_num, buf_one (n := n + k) hown1 (y := Crc.low x k) ?_ ?_, hbx.grown hgrow1 sX (fun y hy => (HL y hy).1)⟩, by simp [intOf]; omega⟩
      · unfold Crc.low
        rw [show (256 : Nat) ^ k = 2 ^ (8 * k) by rw [Nat.pow_mul]]
        simp
      · unfold then4
        rw [if_neg (by omega), Nat.add_sub_cancel_left]
    · have e8 : k = 4 := by omega
      subst e8
      go_wp2_with fail
      go_ret
      exact ⟨_, rfl, HB, hb⟩

theorem clone_run (w : World) (b o L C : Nat) (f : Nat → Nat) (hL : L ≤ 100000) (hc : ∀ k, k < L → w.cell? ⟨b, o + k, none⟩ = some (.int .u8 (f k : Nat))) :
    ∃ v' w', (Builtin.append_ #[25, 25] 25 #[.slice (some ⟨w.heap.size, 0, none⟩) 0 0, .slice (some ⟨b, o, none⟩) L C]).run Try.prog (w.alloc (.cells #[] 5)) = .ok v' w' ∧ Buf w' w.heap.size v' L f ∧ Below w.heap.size w w' := by
  obtain ⟨i1, hi1, hh1⟩ := Option.map_eq_some_iff.1 Try.infoByte
  simp only [Prod.mk.injEq] at hh1
  obtain ⟨hy0, hy1, hy2⟩ := hh1
  have hbX := (Below.refl w.heap.size w).alloc (Nat.le_refl _) (.cells #[] 5)
  have hown0 : (w.alloc (.cells #[] 5)).ownsRow w.heap.size 5 1 (.slice (some ⟨w.heap.size, 0, none⟩) 0 0) 0 [] := World.ownsRow_made w #[] 0 (Nat.le_refl _) (by unfold maxLen; omega) rfl
  have hn : ∀ j u, (cellsOf f L)[j]? = some u → (w.alloc (.cells #[] 5)).cell? ((⟨b, o, none⟩ : Addr).add j) = some u := fun j u hj => by
    rcases Nat.lt_or_ge j L with h | h
    · simp [cellsOf, h] at hj
      rw [WideShapes.add_plain, (hbX.cell (p := ⟨b, o + j, none⟩) (World.block_lt_of_cell? _ _ (hc j h))).trans (hc j h), ← hj]
    · simp [List.getElem?_eq_none (show (cellsOf f L).length ≤ j by simpa [cellsOf] using h)] at hj
  obtain ⟨v', w', hrun, ho, hg, _⟩ := run_append_own (P := Try.prog) (w.alloc (.cells #[] 5)) w.heap.size 25 25 5 i1 (.int .u8 0) 1 1 Try.underlying25 hi1 hy0 hy1 hy2 rfl (by decide) _ 0 [] hown0 ⟨b, o, none⟩ L C (cellsOf f L) (by simp [cellsOf]) hn (cellsOf_one f L) (by unfold maxLen; omega) (by omega) hbX.size
  rw [Nat.zero_add, List.nil_append] at ho
  exact ⟨v', w', hrun, ho, hbX.grown hg hbX.size (fun x hx => (hown0.lt x hx).1)⟩

set_option maxHeartbeats 400000 in
theorem clone_any (b o L C : Nat) (f : Nat → Nat) (w : World) (hL : L ≤ 100000) (hc : ∀ k, k < L → w.cell? ⟨b, o + k, none⟩ = some (.int .u8 (f k : Nat))) :
    Calls Try.prog 92 #[.slice (some ⟨b, o, none⟩) L C] w fun e w' => ∃ v', e = .returned v' ∧ Buf w' w.heap.size v' L f ∧ Below w.heap.size w w' := by
  obtain ⟨v', w', hrun, HB, hb⟩ := clone_run w b o L C f hL hc
  have HX : Hid (Buf w' w.heap.size v' L f) := HB
  have hq := fun w => Lib.run_eql_slice_nil (P := Try.prog) w 25 5 (some ⟨b, o, none⟩) L C 0 0 Try.underlying25
  clear HB hc
  go_enter Try.func92, Try.ntmps92
  go_wp2_with (at_builtin; refine Lib.wpList_append_run _ rfl (.tmp 5) (.tmp 6) 25 25 rfl _ _ rfl rfl _ _ hrun ?_)
  go_ret
  exact ⟨_, rfl, HX.out, hb⟩

end Go.Proofs.Ytmlboaejkmffjad
