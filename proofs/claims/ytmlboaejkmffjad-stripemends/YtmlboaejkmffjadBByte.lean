/-
  What block.numberAt, block.sumAt and block.wellFormed do, call by call.
-/
import Derived.Test.YtmlboaejkmffjadBWrong
namespace Go.Proofs.Ytmlboaejkmffjad
open Go.RowKit


set_option maxHeartbeats 400000 in
theorem numberAt_any (b o n cap p : Nat) (f : Nat → Nat) (w : World) (hf : Bd f) (hn : n ≤ 9223372036854775807) (hp : p + 1 < n) (hc : ∀ i, i < n → w.cell? ⟨b, o + i, none⟩ = some (.int .u8 (f i : Nat))) :
    Calls Try.prog 91 #[.slice (some ⟨b, o, none⟩) n cap, .int .i64 (p : Int)] w fun e w' => e = .returned (.int .i64 ((f p * 256 + f (p + 1) : Nat) : Int)) ∧ Below w.heap.size w w' := by
  have t1 := hc p (by omega)
  have t2 := hc (p + 1) hp
  have f1 := hf p
  have f2 := hf (p + 1)
  have h1 : (p : Int) < (n : Int) := by omega
  have h2 : (p : Int) + 1 < (n : Int) := by omega
  clear hc
  go_enter Try.func91, Try.ntmps91
  go_wp2_with fail
  go_quiet (fail)
  go_wp2_with fail
  go_ret
  refine ⟨ret_int (?_ : bits .or .i64 ((f p : Nat) * 256) (f (p + 1) : Nat) = _), ⟨rfl, rfl, rfl, Nat.le_refl _, fun _ _ => rfl⟩⟩
  rw [show ((f p : Nat) : Int) * 256 = ((f p * 256 : Nat) : Int) by omega, i64_or _ _ (by omega) (by omega), nat_join 8 _ _ (by omega) (by omega)]

theorem u32_join (i x y : Nat) (hx : x < 2 ^ i) (hy : y % 2 ^ i = 0) (h1 : x < 4294967296) (h2 : y < 4294967296) : bits .or .u32 (x : Int) (y : Int) = ((x + y : Nat) : Int) := by
  rw [u32_or_nat _ _ h1 h2, Nat.or_comm, nat_join i _ _ hy hx, Nat.add_comm]
theorem or4 (a b c d : Nat) (ha : a < 256) (hb : b < 256) (hc : c < 256) (hd : d < 256) :
    bits .or .u32 (bits .or .u32 (bits .or .u32 (bits .or .u32 0 (a : Int)) ((b : Int) * 256)) ((c : Int) * 65536)) ((d : Int) * 16777216) = ((a + b * 256 + c * 65536 + d * 16777216 : Nat) : Int) := by
  rw [show (0 : Int) = ((0 : Nat) : Int) from rfl, u32_join 0 0 a (by decide) (by omega) (by decide) (by omega), Nat.zero_add, show (b : Int) * 256 = ((b * 256 : Nat) : Int) by omega, u32_join 8 a (b * 256) (by omega) (by omega) (by omega) (by omega),
    show (c : Int) * 65536 = ((c * 65536 : Nat) : Int) by omega, u32_join 16 (a + b * 256) (c * 65536) (by omega) (by omega) (by omega) (by omega),
    show (d : Int) * 16777216 = ((d * 16777216 : Nat) : Int) by omega, u32_join 24 (a + b * 256 + c * 65536) (d * 16777216) (by omega) (by omega) (by omega) (by omega)]

set_option maxHeartbeats 1000000 in
theorem sumAt_any (b o n cap p : Nat) (f : Nat → Nat) (w : World) (hf : Bd f) (hn : n ≤ 9223372036854775807) (hp : p + 4 = n) (hc : ∀ i, i < n → w.cell? ⟨b, o + i, none⟩ = some (.int .u8 (f i : Nat))) :
    Calls Try.prog 90 #[.slice (some ⟨b, o, none⟩) n cap, .int .i64 (p : Int)] w fun e w' => e = .returned (.int .u32 (Crc.four f p : Nat)) ∧ Below w.heap.size w w' := by
  have t0 := hc p (by omega)
  have t1 := hc (p + 1) (by omega)
  have t2 := hc (p + 2) (by omega)
  have t3 := hc (p + 3) (by omega)
  have f0 := hf p
  have f1 := hf (p + 1)
  have f2 := hf (p + 2)
  have f3 := hf (p + 3)
  have hp' : (n : Int) = (p : Int) + 4 := by omega
  subst hp
  clear hc
  go_enter Try.func90, Try.ntmps90
  go_wp2_with fail
  refine wp_loop_rounds 5 ?_
  iterate 5
    rw [rounds_succ]
    go_wp2_with fail
  go_ret
  exact ⟨ret_int (or4 (f p) (f (p + 1)) (f (p + 2)) (f (p + 3)) f0 f1 f2 f3), Below.refl _ _⟩

/-- n bytes are not of a block's form. -/
def BadForm (g : Nat → Nat) (n : Nat) : Prop := n < 12 ∨ g 0 ≠ 83 ∨ n ≠ 11 + (g 5 * 256 + g 6)

set_option maxHeartbeats 1000000 in
theorem wellFormed_blk (v : Value) (n : Nat) (g : Nat → Nat) (w : World) (h : Byts w v n g) :
    Calls Try.prog 89 #[v] w fun e w' => Tell e (¬ BadForm g n) ∧ Below w.heap.size w w' := by
  by_cases hn : n < 12
  · have H : Hid (BadForm g n) := Or.inl hn
    obtain ⟨_, A, cap, rfl, _⟩ := h
    have hn' : (n : Int) < 12 := by omega
    go_enter Try.func89, Try.ntmps89
    go_wp2_with fail
    go_ret
    exact ⟨tell_no (fun k => k H.out), Below.refl _ _⟩
  · have hn' : ¬ (n : Int) < 12 := by omega
    have hbd := h.bd
    have hl := h.len
    obtain ⟨b, o, cap, rfl, _, _, hc⟩ := h.some (by omega)
    have t0 : w.cell? ⟨b, o, none⟩ = some (.int .u8 (g 0 : Nat)) := by simpa using hc 0 (by omega)
    have hnz : (0 : Int) < (n : Int) := by omega
    by_cases h0 : g 0 = 83
    · have H2 := fun w' (hb' : Below w.heap.size w w') => numberAt_any b o n cap 5 g w' hbd hl (by omega) (fun i hi => (hb'.cell (p := ⟨b, o + i, none⟩) (World.block_lt_of_cell? _ _ (hc i hi))).trans (hc i hi))
      have e0 : (((g 0 : Nat) : Int) != 83) = false := by rw [h0]; rfl
      have b5 := hbd 5
      have b6 := hbd 6
      have HX : Hid (¬ BadForm g n ↔ (n : Int) = 7 + ((g 5 * 256 + g 6 : Nat) : Int) + 4) := by
        unfold BadForm
        constructor
        · intro k
          omega
        · intro k
          omega
      have hq : g 5 * 256 + g 6 ≤ 65535 := by omega
      generalize g 5 * 256 + g 6 = q at H2 HX hq
      clear hc h0 h
      go_enter Try.func89, Try.ntmps89
      go_wp2_with fail
      refine (H2 _ (Below.refl _ _)).mono ?_
      rintro e w1 ⟨rfl, b1⟩
      clear H2
      go_wp2_with fail
      go_ret
      exact ⟨tell_of (by rw [beq_iff_eq]; exact HX.out.symm), b1⟩
    · have H : Hid (BadForm g n) := Or.inr (Or.inl h0)
      have e0 : (((g 0 : Nat) : Int) != 83) = true := by rw [bne_iff_ne]; omega
      clear hc h0 h
      go_enter Try.func89, Try.ntmps89
      go_wp2_with fail
      go_ret
      exact ⟨tell_no (fun k => k H.out), Below.refl _ _⟩

end Go.Proofs.Ytmlboaejkmffjad
