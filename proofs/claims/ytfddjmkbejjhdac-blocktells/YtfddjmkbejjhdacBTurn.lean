/-
  What is written is read, and what is read was so written: block.Parse and block.Bytes, one behind the other.
-/
import Derived.Test.YtfddjmkbejjhdacOpenB
namespace Go.Proofs.Ytfddjmkbejjhdac
open Go.RowKit

theorem parse_written (s h z n : Nat) (f : Nat → Nat) (v : Value) (w : World) (hf : Bd f) (hE : Crc.wrongB s h z n = 0) (hy : Byts w v (n + 11) (Crc.enc s h z n f)) :
    Calls Try.prog 21 #[v] w fun e w' => ∃ A C f', e = .returned (.tuple #[.agg #[.int .i64 (s : Int), .int .i64 (h : Int), .int .i64 (z : Int), .slice A n C], .int .i64 0]) ∧ Byts w' (.slice A n C) n f' ∧ (∀ k, k < n → f k = f' k) ∧ Below w.heap.size w w' := by
  have hp := Crc.parse_enc (s := s) (h := h) (z := z) (n := n) hf hE
  refine (parse_any v (n + 11) _ w hy).mono ?_
  rintro e w' ⟨v', rfl, hv, hb⟩
  have e1 : Crc.enc s h z n f 1 = s := Crc.enc_hd (by omega)
  have e2 : Crc.enc s h z n f 2 = h := Crc.enc_hd (by omega)
  have e3 : Crc.enc s h z n f 3 = z / 256 := Crc.enc_hd (by omega)
  have e4 : Crc.enc s h z n f 4 = z % 256 := Crc.enc_hd (by omega)
  rw [hp, pk_ok rfl, pk_ok rfl, pk_ok rfl, pk_ok rfl, e1, e2, e3, e4, show z / 256 * 256 + z % 256 = z by omega, Nat.add_sub_cancel] at hv
  obtain ⟨d, rfl, hd⟩ := hv
  obtain ⟨A, C, rfl⟩ := hd.shape
  rw [hp]
  exact ⟨A, C, _, rfl, hd, fun k hk => by rw [Crc.enc_hd (show k + 7 < n + 7 by omega)]; rfl, hb⟩

theorem parse_good (v : Value) (n : Nat) (g : Nat → Nat) (w : World) (hy : Byts w v n g) (hE : Crc.parseE g n = 0) :
    Calls Try.prog 21 #[v] w fun e w' => ∃ A C, e = .returned (.tuple #[.agg #[.int .i64 (g 1 : Nat), .int .i64 (g 2 : Nat), .int .i64 (g 3 * 256 + g 4 : Nat), .slice A (n - 11) C], .int .i64 0]) ∧ Byts w' (.slice A (n - 11) C) (n - 11) (fun k => g (k + 7)) ∧ Below w.heap.size w w' := by
  refine (parse_any v n g w hy).mono ?_
  rintro e w' ⟨v', rfl, hv, hb⟩
  rw [hE, pk_ok rfl, pk_ok rfl, pk_ok rfl, pk_ok rfl] at hv
  obtain ⟨d, rfl, hd⟩ := hv
  obtain ⟨A, C, rfl⟩ := hd.shape
  rw [hE]
  exact ⟨A, C, rfl, hd, hb⟩

theorem parse_none (v : Value) (n : Nat) (g : Nat → Nat) (w : World) (hy : Byts w v n g) (hE : Crc.parseE g n ≠ 0) :
    Calls Try.prog 21 #[v] w fun e w' => ∃ A C, e = .returned (.tuple #[.agg #[.int .i64 0, .int .i64 0, .int .i64 0, .slice A 0 C], .int .i64 (Crc.parseE g n : Nat)]) ∧ Byts w' (.slice A 0 C) 0 (fun k => g (k + 7)) ∧ Below w.heap.size w w' := by
  refine (parse_any v n g w hy).mono ?_
  rintro e w' ⟨v', rfl, hv, hb⟩
  rw [pk_no hE, pk_no hE, pk_no hE, pk_no hE] at hv
  obtain ⟨d, rfl, hd⟩ := hv
  obtain ⟨A, C, rfl⟩ := hd.shape
  exact ⟨A, C, rfl, hd, hb⟩

theorem bytes_read (n : Nat) (g : Nat → Nat) (hg : Bd g) (hE : Crc.parseE g n = 0) (A : Option Addr) (C : Nat) (w : World) (hd : Byts w (.slice A (n - 11) C) (n - 11) (fun k => g (k + 7))) :
    Calls Try.prog 19 #[.agg #[.int .i64 (g 1 : Nat), .int .i64 (g 2 : Nat), .int .i64 (g 3 * 256 + g 4 : Nat), .slice A (n - 11) C]] w fun e w' => ∃ b cap, e = .returned (.tuple #[.slice (some ⟨b, 0, none⟩) n cap, .int .i64 0]) ∧ Byts w' (.slice (some ⟨b, 0, none⟩) n cap) n g ∧ Below w.heap.size w w' := by
  obtain ⟨h1, _, _, _, hW⟩ := Crc.parse_inv hE
  have hp := Crc.enc_parse hg hE
  refine (bytes_ok (g 1) (g 2) (g 3 * 256 + g 4) _ (n - 11) _ w hd hW).mono ?_
  rintro e w' ⟨v', rfl, hm, hb⟩
  rw [show n - 11 + 11 = n by omega] at hm
  obtain ⟨b, cap, rfl, _, hc1, hc2, hr⟩ := hm
  exact ⟨b, cap, rfl, byts_of_row hg (hr.congr (fun j hj => by rw [hp j hj])) hc1 hc2, hb⟩

end Go.Proofs.Ytfddjmkbejjhdac
