/-
  What the document's own BlockBytes and ParseBlock do with whatever they are handed.
-/
import Derived.Test.YtmlboaejkmffjadBRefR
namespace Go.Proofs.Ytmlboaejkmffjad
open Go.RowKit

theorem refBytes_any (v : Value) (s h z : Int) (n : Nat) (f : Nat → Nat) (w : World) (hx : Blk w v s h z n f) :
    Calls Try.prog 47 #[v] w fun e w' => ∃ v', e = .returned (.tuple #[v', .int .i64 (Crc.wrongB s h z n : Nat)]) ∧ BytesO w' w.heap.size (Crc.wrongB s h z n) v' (n + 11) (encI s h z n f) ∧ Below w.heap.size w w' := by
  obtain ⟨d, rfl, hd⟩ := hx
  by_cases hE : Crc.wrongB s h z n = 0
  · have hi := Crc.wrongB_inv hE
    obtain ⟨S, rfl⟩ := Int.eq_ofNat_of_zero_le hi.1.1
    obtain ⟨H, rfl⟩ := Int.eq_ofNat_of_zero_le hi.1.2.2.1
    obtain ⟨Z, rfl⟩ := Int.eq_ofNat_of_zero_le hi.1.2.2.2.2.1
    refine (refBytes_ok S H Z d n f w hd hE).mono ?_
    rintro e w' ⟨v', rfl, hm, hb⟩
    exact ⟨v', by rw [hE]; rfl, Or.inl ⟨hE, hm⟩, hb⟩
  · obtain ⟨_, A, cap, rfl, _⟩ := hd
    refine (refBytes_bad s h z A n cap w hE).mono ?_
    rintro e w' ⟨rfl, hb⟩
    exact ⟨_, rfl, Or.inr ⟨hE, rfl⟩, hb⟩

/-- A part of bytes. -/
theorem byts_part {w : World} {b o n cap e : Nat} {g : Nat → Nat} (h : Byts w (.slice (some ⟨b, o, none⟩) n cap) n g) (he : n = e + 4) (h8 : 8 ≤ e) : Byts w (.slice (some ⟨b, o + 7, none⟩) (e - 7) (cap - 7)) (e - 7) (fun k => g (k + 7)) := by
  obtain ⟨bd, A, C, hv, h1, h2, hc⟩ := h
  cases hv
  refine ⟨fun k => bd _, some ⟨b, o + 7, none⟩, cap - 7, rfl, by omega, by omega, fun i hi => ⟨b, o + 7, rfl, ?_⟩⟩
  obtain ⟨b', o', e1, e2⟩ := hc (i + 7) (by omega)
  cases e1
  rw [show o + 7 + i = o + (i + 7) by omega]
  exact e2
/-- The document's own Parse of a block's bytes: its data are a part of them. -/
theorem refParse_in (v : Value) (n : Nat) (g : Nat → Nat) (w : World) (hx : Byts w v n g) (h0 : Crc.parseE g n = 0) :
    Calls Try.prog 55 #[v] w fun e w' => ∃ A C, e = .returned (.tuple #[.agg #[.int .i64 (g 1 : Nat), .int .i64 (g 2 : Nat), .int .i64 (g 3 * 256 + g 4 : Nat), .slice A (n - 11) C], .int .i64 0]) ∧ (∀ W, Byts W v n g → Byts W (.slice A (n - 11) C) (n - 11) (fun k => g (k + 7))) ∧ Below w.heap.size w w' := by
  have hF : ¬ BadForm g n := fun q => by rw [Crc.parse_form q] at h0; cases h0
  have hn : 12 ≤ n := by unfold BadForm at hF; omega
  obtain ⟨b, o, cap, rfl, hcap, _, _⟩ := hx.some (by omega)
  obtain ⟨e, rfl⟩ : ∃ e, n = e + 4 := ⟨n - 4, by omega⟩
  have hs : Crc.sum g e = Crc.four g e := by
    refine Classical.byContradiction fun q => ?_
    rw [Crc.parse_sum hF (by rw [Nat.add_sub_cancel]; exact q)] at h0
    cases h0
  have hE : Crc.parseE g (e + 4) = Crc.wrongB (g 1) (g 2) (g 3 * 256 + g 4 : Nat) (e - 7) := by
    rw [Crc.parse_else hF (by rw [Nat.add_sub_cancel]; exact hs), show e + 4 - 11 = e - 7 by omega]
  refine (refParse_rest b o (e + 4) e cap g w hx rfl (by omega) hF hs).mono ?_
  rintro r w' ⟨v', rfl, hv, hb⟩
  rw [← hE, h0] at hv ⊢
  rw [show e + 4 - 11 = e - 7 by omega]
  rcases hv with ⟨_, d, rfl, rfl, _⟩ | ⟨q, _⟩
  · exact ⟨_, _, rfl, fun W hW => byts_part hW rfl (by omega), hb⟩
  · exact absurd rfl q

theorem refParse_any (v : Value) (n : Nat) (g : Nat → Nat) (w : World) (hx : Byts w v n g) :
    Calls Try.prog 55 #[v] w fun e w' => ∃ v', e = .returned (.tuple #[v', .int .i64 (Crc.parseE g n : Nat)]) ∧
      Blk w' v' (pk (Crc.parseE g n) (g 1) : Nat) (pk (Crc.parseE g n) (g 2) : Nat) (pk (Crc.parseE g n) (g 3 * 256 + g 4) : Nat) (pk (Crc.parseE g n) (n - 11)) (fun k => g (k + 7)) ∧ Below w.heap.size w w' := by
  have hbd := hx.bd
  have hbd7 : Bd (fun k => g (k + 7)) := fun k => hbd _
  by_cases hF : BadForm g n
  · have hE : Crc.parseE g n = 2 := Crc.parse_form hF
    refine (refParse_bad v n g w hx hF).mono ?_
    rintro e w' ⟨rfl, hb⟩
    exact ⟨_, by rw [hE]; rfl, blk_none (by omega) _ _ _ _ hbd7, hb⟩
  · have hn : 12 ≤ n := by unfold BadForm at hF; omega
    obtain ⟨b, o, cap, rfl, hcap, _, _⟩ := hx.some (by omega)
    obtain ⟨e, rfl⟩ : ∃ e, n = e + 4 := ⟨n - 4, by omega⟩
    by_cases hs : Crc.sum g e = Crc.four g e
    · have hE : Crc.parseE g (e + 4) = Crc.wrongB (g 1) (g 2) (g 3 * 256 + g 4 : Nat) (e - 7) := by
        rw [Crc.parse_else hF (by rw [Nat.add_sub_cancel]; exact hs), show e + 4 - 11 = e - 7 by omega]
      refine (refParse_rest b o (e + 4) e cap g w hx rfl (by omega) hF hs).mono ?_
      rintro r w' ⟨v', rfl, hv, hb⟩
      rw [← hE] at hv ⊢
      rw [show e + 4 - 11 = e - 7 by omega]
      rcases hv with ⟨h0, d, rfl, _, hd⟩ | ⟨h0, rfl⟩
      · rw [pk_ok h0, pk_ok h0, pk_ok h0, pk_ok h0]
        exact ⟨_, rfl, ⟨d, rfl, hd.below hb⟩, hb⟩
      · exact ⟨_, rfl, blk_none h0 _ _ _ _ hbd7, hb⟩
    · have hE : Crc.parseE g (e + 4) = 9 := Crc.parse_sum hF (by rw [Nat.add_sub_cancel]; exact hs)
      refine (refParse_bsum b o (e + 4) e cap g w hx rfl hF hs).mono ?_
      rintro r w' ⟨rfl, hb⟩
      exact ⟨_, by rw [hE]; rfl, blk_none (by omega) _ _ _ _ hbd7, hb⟩

/-- What is told of bytes, with its numbers. -/
theorem parse_shape {w : World} {v : Value} {s h z : Int} {n : Nat} {f : Nat → Nat} (hk : Blk w v s h z n f) : ∃ A C, v = .agg #[.int .i64 s, .int .i64 h, .int .i64 z, .slice A n C] ∧ Byts w (.slice A n C) n f := by
  obtain ⟨d, hv, hd⟩ := hk
  obtain ⟨A, C, rfl⟩ := hd.shape
  exact ⟨A, C, hv, hd⟩

end Go.Proofs.Ytmlboaejkmffjad
