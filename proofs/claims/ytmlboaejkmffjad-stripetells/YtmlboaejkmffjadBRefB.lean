/-
  What the document's own BlockBytes does, call by call.
-/
import Derived.Test.YtmlboaejkmffjadBAny
namespace Go.Proofs.Ytmlboaejkmffjad
open Go.RowKit

set_option maxHeartbeats 1000000 in
theorem refBytes_ok (s h z : Nat) (v : Value) (n : Nat) (f : Nat → Nat) (w : World) (hd : Byts w v n f) (hx : Crc.wrongB s h z n = 0) :
    Calls Try.prog 47 #[.agg #[.int .i64 (s : Int), .int .i64 (h : Int), .int .i64 (z : Int), v]] w fun e w' => ∃ v', e = .returned (.tuple #[v', .int .i64 0]) ∧ Made w' w.heap.size v' (n + 11) (Crc.enc s h z n f) ∧ Below w.heap.size w w' := by
  obtain ⟨⟨_, hs, _, hh, _, hz⟩, hn1, hn4⟩ := Crc.wrongB_inv hx
  have hf := hd.bd
  have HBD : Hid (Bd (Crc.hd s h z n f)) := Crc.hd_bd (by omega) (by omega) (by omega) (by omega) hf
  have HBE : Hid (Bd (Crc.enc s h z n f)) := Crc.enc_bd (by omega) (by omega) (by omega) (by omega) hf
  obtain ⟨b, o, cap, rfl, _, _, hc⟩ := hd.some hn1
  obtain ⟨i1, hi1, hh1⟩ := Option.map_eq_some_iff.1 Try.infoByte
  simp only [Prod.mk.injEq] at hh1
  obtain ⟨hy0, hy1, hy2⟩ := hh1
  have H1 := fun w' => refWrong_blk s h z (some ⟨b, o, none⟩) n cap w'
  rw [hx] at H1
  have hbx : Below w.heap.size w (w.alloc (.cells #[.int .i64 s, .int .i64 h, .int .i64 z, .slice (some ⟨b, o, none⟩) n cap] 75)) := (Below.refl _ _).alloc (Nat.le_refl _) _
  have kc := cells_new w #[.int .i64 s, .int .i64 h, .int .i64 z, .slice (some ⟨b, o, none⟩) n cap] 75
  have k0 := kc 0 _ rfl
  have k1 := kc 1 _ rfl
  have k2 := kc 2 _ rfl
  have k3 := kc 3 _ rfl
  rw [WideShapes.add_plain] at k0 k1 k2 k3
  have szx : (w.alloc (.cells #[.int .i64 s, .int .i64 h, .int .i64 z, .slice (some ⟨b, o, none⟩) n cap] 75)).heap.size = w.heap.size + 1 := by simp
  clear kc hd hx
  go_enter Try.func47, Try.ntmps47
  go_wp2_with fail
  refine (H1 _).mono ?_
  rintro e w1 ⟨rfl, b1⟩
  have hlt : w.heap.size < w1.heap.size := by have := b1.size; omega
  have K0 := (b1.cell (p := ⟨w.heap.size, 0, none⟩) (by show w.heap.size < _; omega)).trans k0
  have K1 := (b1.cell (p := ⟨w.heap.size, 0 + 1, none⟩) (by show w.heap.size < _; omega)).trans k1
  have K2 := (b1.cell (p := ⟨w.heap.size, 0 + 2, none⟩) (by show w.heap.size < _; omega)).trans k2
  have K3 := (b1.cell (p := ⟨w.heap.size, 0 + 3, none⟩) (by show w.heap.size < _; omega)).trans k3
  rw [Nat.zero_add] at K1 K2 K3
  have K3x := K3
  have b1 := bt hbx b1
  clear H1 k0 k1 k2 k3 hbx szx
  have X2 : Below w1.heap.size w1 (w1.alloc (.cells #[.int .u8 83, .int .u8 (s : Int), .int .u8 (h : Int), .int .u8 ((z : Int) / 256), .int .u8 ((z : Int) % 256), .int .u8 ((n : Int) / 256), .int .u8 ((n : Int) % 256)] 5)) := (Below.refl _ _).alloc (Nat.le_refl _) _
  have B4 : Buf (w1.alloc (.cells #[.int .u8 83, .int .u8 (s : Int), .int .u8 (h : Int), .int .u8 ((z : Int) / 256), .int .u8 ((z : Int) % 256), .int .u8 ((n : Int) / 256), .int .u8 ((n : Int) % 256)] 5)) w1.heap.size (.slice (some ⟨w1.heap.size, 0, none⟩) 7 7) 7 (Crc.hd s h z n f) := owns_lit w1 #[.int .u8 83, .int .u8 (s : Int), .int .u8 (h : Int), .int .u8 ((z : Int) / 256), .int .u8 ((z : Int) % 256), .int .u8 ((n : Int) / 256), .int .u8 ((n : Int) % 256)] 5 (by unfold maxLen; simp)
  have b3 := b1.trans (X2.mono b1.size)
  have K3 := (X2.cell (p := ⟨w.heap.size, 3, none⟩) hlt).trans K3x
  have hnew : ∀ j u, (cellsOf f n)[j]? = some u → (w1.alloc (.cells #[.int .u8 83, .int .u8 (s : Int), .int .u8 (h : Int), .int .u8 ((z : Int) / 256), .int .u8 ((z : Int) % 256), .int .u8 ((n : Int) / 256), .int .u8 ((n : Int) % 256)] 5)).cell? ((⟨b, o, none⟩ : Addr).add j) = some u := fun j u hj => by
    rcases Nat.lt_or_ge j n with h | h
    · simp [cellsOf, h] at hj
      rw [WideShapes.add_plain, (b3.cell (p := ⟨b, o + j, none⟩) (World.block_lt_of_cell? _ _ (hc j h))).trans (hc j h), ← hj]
    · simp [List.getElem?_eq_none (show (cellsOf f n).length ≤ j by simpa [cellsOf] using h)] at hj
  have h1c := cellsOf_one f n
  have hlen : (cellsOf f n).length = n * 1 := by simp [cellsOf]
  have HL := B4.lt
  have HDD : Hid (cellsOf (Crc.hd s h z n f) (7 + n) = cellsOf (Crc.hd s h z n f) 7 ++ cellsOf f n) := hd_data s h z n f
  have s3 := X2.size
  clear hc
  go_wp2_with (at_builtin; go_loud (refine wpList_append_own _ rfl (.tmp 38) (.tmp 40) 25 rfl w1.heap.size 5 i1 (.int .u8 0) 1 1 Try.underlying25 hi1 hy0 hy1 hy2 rfl (by decide) _ _ _ rfl B4 ⟨b, o, none⟩ n cap (cellsOf f n) rfl hlen hnew h1c (by unfold maxLen; omega) (by omega) s3 ?_; intro v4 w4 hown4 hgrow4 _))
  have B5 : Buf w4 w1.heap.size v4 (7 + n) (Crc.hd s h z n f) := by
    unfold Buf
    rw [HDD.out]
    exact hown4
  have c4 := X2.grown hgrow4 s3 (fun y hy => (HL y hy).1)
  have Y4 := (B5.made HBD.out (by omega)).byts HBD.out
  have H5 := refSum_any v4 (7 + n) _ w4 Y4
  have hsl : Crc.sum (Crc.hd s h z n f) (7 + n) < 4294967296 := Crc.sum_lt HBD.out _
  have HE : Hid (∀ k, then4 (Crc.hd s h z n f) (7 + n) (Crc.sum (Crc.hd s h z n f) (7 + n)) k = Crc.enc s h z n f k) := then4_enc s h z n f
  generalize Crc.sum (Crc.hd s h z n f) (7 + n) = S at H5 hsl HE
  have HB5 : Hid (Buf w4 w1.heap.size v4 (7 + n) (then4 (Crc.hd s h z n f) (7 + n) S)) := B5.congr (fun k hk => by unfold then4; rw [if_pos hk])
  clear hown4 B5 Y4 HDD B4 hnew K3 hgrow4 HL h1c hlen
  refine H5.mono ?_
  rintro e w5 ⟨rfl, rfl⟩
  clear H5
  go_wp2_with fail
  go_loopw [5, 6, 7] (fun u y x wr => ∃ k : Nat, k ≤ 4 ∧ x = .int .i64 k ∧ y = .int .u32 (S / 256 ^ k : Nat) ∧ Buf wr w1.heap.size u (7 + n + k) (then4 (Crc.hd s h z n f) (7 + n) S) ∧ Below w1.heap.size w1 wr) (fun _ _ x _ => 4 - (intOf x).toNat)
  case atStart => exact ⟨0, Nat.zero_le _, rfl, by rw [Nat.pow_zero, Nat.div_one], HB5.out, c4⟩
  case round =>
    obtain ⟨k, hk, rfl, rfl, HB, hb⟩ := hrel
    by_cases hlk : k < 4
    · have hlk' : (k : Int) < 4 := by omega
      have HLW : Hid (Crc.low S k = S / 256 ^ k % 256) := rfl
      have HST : Hid (S / 256 ^ k / 256 = S / 256 ^ (k + 1)) := by
        show S / 256 ^ k / 256 = _
        rw [Nat.div_div_eq_div_mul, Nat.pow_succ]
      have hSk : S / 256 ^ k < 4294967296 := Nat.lt_of_le_of_lt (Nat.div_le_self _ _) hsl
      generalize S / 256 ^ k = x at HLW HST hSk
      have HO := HB.below ((Below.refl _ _).alloc (Nat.le_refl _) (.cells #[.int .u8 ((x : Int) % 256)] 5))
      have hbx : Below w1.heap.size w1 (wr.alloc (.cells #[.int .u8 ((x : Int) % 256)] 5)) := hb.alloc hb.size _
      have HL := HB.lt
      have cn := cells_new wr #[.int .u8 ((x : Int) % 256)] 5
      have sX := hbx.size
      go_wp2_with (at_builtin; go_loud (refine wpList_append_own _ rfl (.tmp 48) (.tmp 52) 25 rfl w1.heap.size 5 i1 (.int .u8 0) 1 1 Try.underlying25 hi1 hy0 hy1 hy2 rfl (by decide) _ _ _ rfl HO ⟨wr.heap.size, 0, none⟩ 1 1 [.int .u8 ((x : Int) % 256)] rfl rfl cn (by intro u hu; simp at hu; subst hu; rfl) (by unfold maxLen; omega) (by omega) sX ?_; intro v6 w6 hown6 hgrow6 _))
      refine ⟨⟨k + 1, by omega, by go_num, val_int (by rw [← HST.out]; rfl), buf_one (n := 7 + n + k) hown6 (y := Crc.low S k) (by rw [HLW.out]; rfl) ?_, hbx.grown hgrow6 sX (fun y hy => (HL y hy).1)⟩, by simp [intOf]; omega⟩
      unfold then4
      rw [if_neg (by omega), Nat.add_sub_cancel_left]
    · have e8 : k = 4 := by omega
      subst e8
      have HM : Hid (∀ v' w', Buf w' w1.heap.size v' (7 + n + 4) (then4 (Crc.hd s h z n f) (7 + n) S) → Made w' w.heap.size v' (n + 11) (Crc.enc s h z n f)) := fun v' w' B7 => by
        have := (B7.congr (fun k _ => HE.out k)).made HBE.out (by omega)
        rw [show 7 + n + 4 = n + 11 by omega] at this
        exact this.lower b1.size
      go_wp2_with fail
      go_ret2
      exact ⟨_, rfl, HM.out _ _ HB, b1.trans (hb.mono b1.size)⟩

end Go.Proofs.Ytmlboaejkmffjad
