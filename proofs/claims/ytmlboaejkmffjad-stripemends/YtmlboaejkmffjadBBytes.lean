/-
  What block.Bytes does, call by call.
-/
import Derived.Test.YtmlboaejkmffjadBApp
namespace Go.Proofs.Ytmlboaejkmffjad
open Go.RowKit

/-- Bytes in a block that the call has made, from block N on. -/
def Made (w : World) (N : Nat) (v : Value) (m : Nat) (f : Nat → Nat) : Prop := ∃ g cap, v = .slice (some ⟨g, 0, none⟩) m cap ∧ N ≤ g ∧ m ≤ cap ∧ cap ≤ maxLen ∧ RowC w g 5 m (fun j => .int .u8 (f j : Nat))
theorem Made.byts {w : World} {N m : Nat} {v : Value} {f : Nat → Nat} (h : Made w N v m f) (hf : Bd f) : Byts w v m f := by
  obtain ⟨g, cap, rfl, _, h1, h2, hr⟩ := h
  exact byts_of_row hf hr h1 h2
theorem Made.below {w w' : World} {N m : Nat} {v : Value} {f : Nat → Nat} (h : Made w N v m f) (hb : Below w.heap.size w w') : Made w' N v m f := by
  obtain ⟨g, cap, hv, hN, h1, h2, hr⟩ := h
  exact ⟨g, cap, hv, hN, h1, h2, hr.below hb⟩
theorem Made.lower {w : World} {N M m : Nat} {v : Value} {f : Nat → Nat} (h : Made w N v m f) (hM : M ≤ N) : Made w M v m f := by
  obtain ⟨g, cap, hv, hN, h1, h2, hr⟩ := h
  exact ⟨g, cap, hv, Nat.le_trans hM hN, h1, h2, hr⟩
theorem Buf.made {w : World} {N : Nat} {v : Value} {n : Nat} {f : Nat → Nat} (h : Buf w N v n f) (hf : Bd f) (hn : 1 ≤ n) : Made w N v n f := by
  obtain ⟨g, cap, hv, hN, h1, h2, hr, _⟩ := h.byts hf hn
  exact ⟨g, cap, hv, hN, h1, h2, hr⟩

theorem owns_lit (w : World) (c : Array Value) (t : TypeId) (hm : c.size ≤ maxLen) : (w.alloc (.cells c t)).ownsRow w.heap.size t 1 (.slice (some ⟨w.heap.size, 0, none⟩) c.size c.size) c.size c.toList :=
  ⟨by simp, .inr ⟨w.heap.size, c.size, c, rfl, Nat.le_refl _, Deep.blk_alloc_new _ _, Nat.le_refl _, hm, by simp, by rw [Nat.mul_one]; exact List.take_of_length_le (by simp)⟩⟩

theorem hd_at3 (s h z n : Nat) (f : Nat → Nat) : ∀ k, k < 5 → put (put (Crc.hd s h z n f) 3 (z / 256)) 4 (z % 256) k = Crc.hd s h z n f k := fun k hk => by
  unfold put
  by_cases e : k = 4
  · rw [if_pos e, e]; rfl
  · rw [if_neg e]
    by_cases e : k = 3
    · rw [if_pos e, e]; rfl
    · rw [if_neg e]
theorem hd_at5 (s h z n : Nat) (f : Nat → Nat) : ∀ k, k < 7 → put (put (Crc.hd s h z n f) 5 (n / 256)) 6 (n % 256) k = Crc.hd s h z n f k := fun k hk => by
  unfold put
  by_cases e : k = 6
  · rw [if_pos e, e]; rfl
  · rw [if_neg e]
    by_cases e : k = 5
    · rw [if_pos e, e]; rfl
    · rw [if_neg e]
theorem hd_data (s h z n : Nat) (f : Nat → Nat) : cellsOf (Crc.hd s h z n f) (7 + n) = cellsOf (Crc.hd s h z n f) 7 ++ cellsOf f n := by
  rw [cellsOf_add]
  congr 1
  refine cellsOf_congr (fun k _ => ?_)
  rw [Nat.add_comm]
  rfl
theorem then4_enc (s h z n : Nat) (f : Nat → Nat) : ∀ k, then4 (Crc.hd s h z n f) (7 + n) (Crc.sum (Crc.hd s h z n f) (7 + n)) k = Crc.enc s h z n f k := fun k => by
  unfold then4 Crc.enc
  rw [Nat.add_comm 7 n]

set_option maxHeartbeats 400000 in
theorem bytes_bad (s h z : Int) (A : Option Addr) (n cap : Nat) (w : World) (hx : Crc.wrongB s h z n ≠ 0) :
    Calls Try.prog 63 #[.agg #[.int .i64 s, .int .i64 h, .int .i64 z, .slice A n cap]] w fun e w' => e = .returned (.tuple #[.slice none 0 0, .int .i64 (Crc.wrongB s h z n : Nat)]) ∧ Below w.heap.size w w' := by
  have H1 := fun w' => wrong_blk s h z A n cap w'
  generalize Crc.wrongB s h z n = x at H1 hx
  have hx' : ((x : Int) == 0) = false := by rw [beq_eq_false_iff_ne]; omega
  have hxn : ((x : Int) != 0) = true := by rw [bne, hx']; rfl
  have hbx : Below w.heap.size w (w.alloc (.cells #[.int .i64 s, .int .i64 h, .int .i64 z, .slice A n cap] 75)) := (Below.refl _ _).alloc (Nat.le_refl _) _
  clear hx
  go_enter Try.func63, Try.ntmps63
  go_wp2_with fail
  refine (H1 _).mono ?_
  rintro e w1 ⟨rfl, b1⟩
  have b1 := bt hbx b1
  clear H1
  go_wp2_with fail
  go_ret2
  exact ⟨rfl, b1⟩

set_option maxHeartbeats 1000000 in
theorem bytes_ok (s h z : Nat) (v : Value) (n : Nat) (f : Nat → Nat) (w : World) (hd : Byts w v n f) (hx : Crc.wrongB s h z n = 0) :
    Calls Try.prog 63 #[.agg #[.int .i64 (s : Int), .int .i64 (h : Int), .int .i64 (z : Int), v]] w fun e w' => ∃ v', e = .returned (.tuple #[v', .int .i64 0]) ∧ Made w' w.heap.size v' (n + 11) (Crc.enc s h z n f) ∧ Below w.heap.size w w' := by
  obtain ⟨⟨_, hs, _, hh, _, hz⟩, hn1, hn4⟩ := Crc.wrongB_inv hx
  have hf := hd.bd
  have HBD : Hid (Bd (Crc.hd s h z n f)) := Crc.hd_bd (by omega) (by omega) (by omega) (by omega) hf
  have HBE : Hid (Bd (Crc.enc s h z n f)) := Crc.enc_bd (by omega) (by omega) (by omega) (by omega) hf
  obtain ⟨b, o, cap, rfl, _, _, hc⟩ := hd.some hn1
  obtain ⟨i1, hi1, hh1⟩ := Option.map_eq_some_iff.1 Try.infoByte
  simp only [Prod.mk.injEq] at hh1
  obtain ⟨hy0, hy1, hy2⟩ := hh1
  have H1 := fun w' => wrong_blk s h z (some ⟨b, o, none⟩) n cap w'
  rw [hx] at H1
  have hbx : Below w.heap.size w (w.alloc (.cells #[.int .i64 s, .int .i64 h, .int .i64 z, .slice (some ⟨b, o, none⟩) n cap] 75)) := (Below.refl _ _).alloc (Nat.le_refl _) _
  have kc := cells_new w #[.int .i64 s, .int .i64 h, .int .i64 z, .slice (some ⟨b, o, none⟩) n cap] 75
  have k0 := kc 0 _ rfl
  have k1 := kc 1 _ rfl
  have k2 := kc 2 _ rfl
  have k3 := kc 3 _ rfl
  rw [WideShapes.add_plain] at k0 k1 k2 k3
  have szx : (w.alloc (.cells #[.int .i64 s, .int .i64 h, .int .i64 z, .slice (some ⟨b, o, none⟩) n cap] 75)).heap.size = w.heap.size + 1 := by simp
  clear kc hd hx
  go_enter Try.func63, Try.ntmps63
  go_wp2_with fail
  refine (H1 _).mono ?_
  rintro e w1 ⟨rfl, b1⟩
  have hlt : w.heap.size < w1.heap.size := by have := b1.size; omega
  have K0 := (b1.cell (p := ⟨w.heap.size, 0, none⟩) (by show w.heap.size < _; omega)).trans k0
  have K1 := (b1.cell (p := ⟨w.heap.size, 0 + 1, none⟩) (by show w.heap.size < _; omega)).trans k1
  have K2 := (b1.cell (p := ⟨w.heap.size, 0 + 2, none⟩) (by show w.heap.size < _; omega)).trans k2
  have K3 := (b1.cell (p := ⟨w.heap.size, 0 + 3, none⟩) (by show w.heap.size < _; omega)).trans k3
  rw [Nat.zero_add] at K1 K2 K3
  have b1 := bt hbx b1
  clear H1 k0 k1 k2 k3 hbx szx
  have X2 : Below w1.heap.size w1 (w1.alloc (.cells #[.int .u8 83, .int .u8 (s : Int), .int .u8 (h : Int)] 5)) := (Below.refl _ _).alloc (Nat.le_refl _) _
  have B2 : Buf (w1.alloc (.cells #[.int .u8 83, .int .u8 (s : Int), .int .u8 (h : Int)] 5)) w1.heap.size (.slice (some ⟨w1.heap.size, 0, none⟩) 3 3) 3 (Crc.hd s h z n f) := owns_lit w1 #[.int .u8 83, .int .u8 (s : Int), .int .u8 (h : Int)] 5 (by unfold maxLen; simp)
  have H2 := appNum_any w1.heap.size 3 z _ _ _ B2 X2.size (by omega) (by omega)
  clear B2
  go_wp2_with fail
  refine H2.mono ?_
  rintro e w2 ⟨v2, rfl, B3, hb2⟩
  have c2 := X2.trans hb2
  have B3 := B3.congr (hd_at3 s h z n f)
  have K3 := (c2.cell (p := ⟨w.heap.size, 3, none⟩) hlt).trans K3
  have H3 := appNum_any w1.heap.size 5 n _ _ _ B3 c2.size (by omega) (by omega)
  clear H2 B3 X2 hb2
  go_wp2_with fail
  refine H3.mono ?_
  rintro e w3 ⟨v3, rfl, B4, hb3⟩
  have K3 := (hb3.cell (p := ⟨w.heap.size, 3, none⟩) hlt).trans K3
  have c3 := c2.trans hb3
  have B4 := B4.congr (hd_at5 s h z n f)
  have b3 := b1.trans (c3.mono b1.size)
  have hnew : ∀ j u, (cellsOf f n)[j]? = some u → w3.cell? ((⟨b, o, none⟩ : Addr).add j) = some u := fun j u hj => by
    rcases Nat.lt_or_ge j n with h | h
    · simp [cellsOf, h] at hj
      rw [WideShapes.add_plain, (b3.cell (p := ⟨b, o + j, none⟩) (World.block_lt_of_cell? _ _ (hc j h))).trans (hc j h), ← hj]
    · simp [List.getElem?_eq_none (show (cellsOf f n).length ≤ j by simpa [cellsOf] using h)] at hj
  have h1c := cellsOf_one f n
  have hlen : (cellsOf f n).length = n * 1 := by simp [cellsOf]
  have HL := B4.lt
  have HDD : Hid (cellsOf (Crc.hd s h z n f) (7 + n) = cellsOf (Crc.hd s h z n f) 7 ++ cellsOf f n) := hd_data s h z n f
  have s3 := c3.size
  clear hc
  go_wp2_with (at_builtin; go_loud (refine wpList_append_own _ rfl (.tmp 27) (.tmp 29) 25 rfl w1.heap.size 5 i1 (.int .u8 0) 1 1 Try.underlying25 hi1 hy0 hy1 hy2 rfl (by decide) _ _ _ rfl B4 ⟨b, o, none⟩ n cap (cellsOf f n) rfl hlen hnew h1c (by unfold maxLen; omega) (by omega) s3 ?_; intro v4 w4 hown4 hgrow4 _))
  have B5 : Buf w4 w1.heap.size v4 (7 + n) (Crc.hd s h z n f) := by
    unfold Buf
    rw [HDD.out]
    exact hown4
  have c4 := c3.grown hgrow4 s3 (fun y hy => (HL y hy).1)
  have Y4 := (B5.made HBD.out (by omega)).byts HBD.out
  have H5 := sum_any v4 (7 + n) _ w4 Y4
  have hsl : Crc.sum (Crc.hd s h z n f) (7 + n) < 4294967296 := Crc.sum_lt HBD.out _
  have H6 := appSum_any w1.heap.size (7 + n) (Crc.sum (Crc.hd s h z n f) (7 + n)) v4 _ w4 B5 c4.size (by omega) hsl
  have HE : Hid (∀ k, then4 (Crc.hd s h z n f) (7 + n) (Crc.sum (Crc.hd s h z n f) (7 + n)) k = Crc.enc s h z n f k) := then4_enc s h z n f
  generalize Crc.sum (Crc.hd s h z n f) (7 + n) = S at H5 H6 hsl HE
  clear hown4 B5 Y4 HDD H3 B4 hnew K3 hgrow4 HL h1c hlen
  refine H5.mono ?_
  rintro e w5 ⟨rfl, rfl⟩
  go_wp2_with fail
  refine H6.mono ?_
  rintro e w6 ⟨v6, rfl, B7, hb6⟩
  have c6 := c4.trans hb6
  have HM : Hid (Made w6 w.heap.size v6 (n + 11) (Crc.enc s h z n f)) := by
    have := (B7.congr (fun k _ => HE.out k)).made HBE.out (by omega)
    rw [show 7 + n + 4 = n + 11 by omega] at this
    exact this.lower b1.size
  clear H5 H6 B7
  go_wp2_with fail
  go_ret2
  exact ⟨v6, rfl, HM.out, b1.trans (c6.mono b1.size)⟩

set_option maxHeartbeats 400000 in
theorem refBytes_bad (s h z : Int) (A : Option Addr) (n cap : Nat) (w : World) (hx : Crc.wrongB s h z n ≠ 0) :
    Calls Try.prog 47 #[.agg #[.int .i64 s, .int .i64 h, .int .i64 z, .slice A n cap]] w fun e w' => e = .returned (.tuple #[.slice none 0 0, .int .i64 (Crc.wrongB s h z n : Nat)]) ∧ Below w.heap.size w w' := by
  have H1 := fun w' => refWrong_blk s h z A n cap w'
  generalize Crc.wrongB s h z n = x at H1 hx
  have hx' : ((x : Int) == 0) = false := by rw [beq_eq_false_iff_ne]; omega
  have hxn : ((x : Int) != 0) = true := by rw [bne, hx']; rfl
  have hbx : Below w.heap.size w (w.alloc (.cells #[.int .i64 s, .int .i64 h, .int .i64 z, .slice A n cap] 75)) := (Below.refl _ _).alloc (Nat.le_refl _) _
  clear hx
  go_enter Try.func47, Try.ntmps47
  go_wp2_with fail
  refine (H1 _).mono ?_
  rintro e w1 ⟨rfl, b1⟩
  have b1 := bt hbx b1
  clear H1
  go_wp2_with fail
  go_ret2
  exact ⟨rfl, b1⟩

end Go.Proofs.Ytmlboaejkmffjad
