/-
  What block.Bytes and block.Parse do with whatever they are handed; the statements' own closed fact.
-/
import Derived.Test.YtmlboaejkmffjadBBlk
namespace Go.Proofs.Ytmlboaejkmffjad
open Go.RowKit

/-- Beside an error: nothing. -/
def pk (E x : Nat) : Nat := if E = 0 then x else 0
theorem pk_ok {E : Nat} (h : E = 0) (x : Nat) : pk E x = x := if_pos h
theorem pk_no {E : Nat} (h : E ≠ 0) (x : Nat) : pk E x = 0 := if_neg h

/-- What Bytes tells beside a number. -/
def BytesO (w : World) (N E : Nat) (v : Value) (m : Nat) (F : Nat → Nat) : Prop := (E = 0 ∧ Made w N v m F) ∨ (E ≠ 0 ∧ v = .slice none 0 0)
theorem BytesO.below {w w' : World} {N E m : Nat} {v : Value} {F : Nat → Nat} (h : BytesO w N E v m F) (hb : Below w.heap.size w w') : BytesO w' N E v m F := h.imp (fun h => ⟨h.1, h.2.below hb⟩) id
theorem BytesO.byts {w : World} {N E m : Nat} {v : Value} {F : Nat → Nat} (h : BytesO w N E v m F) (hF : E = 0 → Bd F) : Byts w v (pk E m) (fun k => pk E (F k)) := by
  rcases h with ⟨h, hm⟩ | ⟨h, rfl⟩
  · have hk := (hm.byts (hF h))
    have e : (fun k => pk E (F k)) = F := funext (fun k => pk_ok h _)
    rw [pk_ok h, e]
    exact hk
  · have e : (fun k => pk E (F k)) = fun _ => 0 := funext (fun k => pk_no h _)
    rw [pk_no h, e]
    exact Byts.nil w

/-- The bytes of a block. -/
def encI (s h z : Int) (n : Nat) (f : Nat → Nat) : Nat → Nat := Crc.enc s.toNat h.toNat z.toNat n f
theorem encI_bd {s h z : Int} {n : Nat} {f : Nat → Nat} (hf : Bd f) (e : Crc.wrongB s h z n = 0) : Bd (encI s h z n f) := by
  have := Crc.wrongB_inv e
  exact Crc.enc_bd (by omega) (by omega) (by omega) (by omega) hf

theorem bytes_any (v : Value) (s h z : Int) (n : Nat) (f : Nat → Nat) (w : World) (hx : Blk w v s h z n f) :
    Calls Try.prog 63 #[v] w fun e w' => ∃ v', e = .returned (.tuple #[v', .int .i64 (Crc.wrongB s h z n : Nat)]) ∧ BytesO w' w.heap.size (Crc.wrongB s h z n) v' (n + 11) (encI s h z n f) ∧ Below w.heap.size w w' := by
  obtain ⟨d, rfl, hd⟩ := hx
  by_cases hE : Crc.wrongB s h z n = 0
  · have hi := Crc.wrongB_inv hE
    obtain ⟨S, rfl⟩ := Int.eq_ofNat_of_zero_le hi.1.1
    obtain ⟨H, rfl⟩ := Int.eq_ofNat_of_zero_le hi.1.2.2.1
    obtain ⟨Z, rfl⟩ := Int.eq_ofNat_of_zero_le hi.1.2.2.2.2.1
    refine (bytes_ok S H Z d n f w hd hE).mono ?_
    rintro e w' ⟨v', rfl, hm, hb⟩
    exact ⟨v', by rw [hE]; rfl, Or.inl ⟨hE, hm⟩, hb⟩
  · obtain ⟨_, A, cap, rfl, _⟩ := hd
    refine (bytes_bad s h z A n cap w hE).mono ?_
    rintro e w' ⟨rfl, hb⟩
    exact ⟨_, rfl, Or.inr ⟨hE, rfl⟩, hb⟩

theorem blk_none {w : World} {E : Nat} (hE : E ≠ 0) (a b c n : Nat) {f : Nat → Nat} (hf : Bd f) : Blk w (.agg #[.int .i64 0, .int .i64 0, .int .i64 0, .slice none 0 0]) (pk E a : Nat) (pk E b : Nat) (pk E c : Nat) (pk E n) f := by
  rw [pk_no hE, pk_no hE, pk_no hE, pk_no hE]
  exact ⟨_, rfl, hf, none, 0, rfl, Nat.le_refl _, Nat.zero_le _, fun i hi => absurd hi (Nat.not_lt_zero i)⟩

theorem parse_any (v : Value) (n : Nat) (g : Nat → Nat) (w : World) (hx : Byts w v n g) :
    Calls Try.prog 69 #[v] w fun e w' => ∃ v', e = .returned (.tuple #[v', .int .i64 (Crc.parseE g n : Nat)]) ∧
      Blk w' v' (pk (Crc.parseE g n) (g 1) : Nat) (pk (Crc.parseE g n) (g 2) : Nat) (pk (Crc.parseE g n) (g 3 * 256 + g 4) : Nat) (pk (Crc.parseE g n) (n - 11)) (fun k => g (k + 7)) ∧ Below w.heap.size w w' := by
  have hbd := hx.bd
  have hbd7 : Bd (fun k => g (k + 7)) := fun k => hbd _
  by_cases hF : BadForm g n
  · have hE : Crc.parseE g n = 2 := Crc.parse_form hF
    refine (parse_bad v n g w hx hF).mono ?_
    rintro e w' ⟨rfl, hb⟩
    exact ⟨_, by rw [hE]; rfl, blk_none (by omega) _ _ _ _ hbd7, hb⟩
  · have hn : 12 ≤ n := by unfold BadForm at hF; omega
    obtain ⟨b, o, cap, rfl, hcap, _, _⟩ := hx.some (by omega)
    obtain ⟨e, rfl⟩ : ∃ e, n = e + 4 := ⟨n - 4, by omega⟩
    by_cases hs : Crc.sum g e = Crc.four g e
    · have hE : Crc.parseE g (e + 4) = Crc.wrongB (g 1) (g 2) (g 3 * 256 + g 4 : Nat) (e - 7) := by
        rw [Crc.parse_else hF (by rw [Nat.add_sub_cancel]; exact hs), show e + 4 - 11 = e - 7 by omega]
      refine (parse_rest b o (e + 4) e cap g w hx rfl (by omega) hF hs).mono ?_
      rintro r w' ⟨v', rfl, hv, hb⟩
      rw [← hE] at hv ⊢
      rw [show e + 4 - 11 = e - 7 by omega]
      rcases hv with ⟨h0, d, rfl, hd⟩ | ⟨h0, rfl⟩
      · rw [pk_ok h0, pk_ok h0, pk_ok h0, pk_ok h0]
        exact ⟨_, rfl, ⟨d, rfl, hd.byts hbd7⟩, hb⟩
      · exact ⟨_, rfl, blk_none h0 _ _ _ _ hbd7, hb⟩
    · have hE : Crc.parseE g (e + 4) = 9 := Crc.parse_sum hF (by rw [Nat.add_sub_cancel]; exact hs)
      refine (parse_bsum b o e cap g w hx hcap hF hs).mono ?_
      rintro r w' ⟨rfl, hb⟩
      exact ⟨_, by rw [hE]; rfl, blk_none (by omega) _ _ _ _ hbd7, hb⟩

/-- Of a right block: its data are the call's own. -/
theorem parse_made (v : Value) (n : Nat) (g : Nat → Nat) (w : World) (hx : Byts w v n g) (hE : Crc.parseE g n = 0) :
    Calls Try.prog 69 #[v] w fun e w' => ∃ d, e = .returned (.tuple #[.agg #[.int .i64 (g 1 : Nat), .int .i64 (g 2 : Nat), .int .i64 (g 3 * 256 + g 4 : Nat), d], .int .i64 0]) ∧ Made w' w.heap.size d (n - 11) (fun k => g (k + 7)) ∧ Below w.heap.size w w' := by
  have hF : ¬ BadForm g n := fun q => by
    rw [Crc.parse_form q] at hE
    cases hE
  have hn : 12 ≤ n := by unfold BadForm at hF; omega
  obtain ⟨b, o, cap, rfl, hcap, _, _⟩ := hx.some (by omega)
  obtain ⟨e, rfl⟩ : ∃ e, n = e + 4 := ⟨n - 4, by omega⟩
  have hs : Crc.sum g e = Crc.four g e := Classical.byContradiction fun q => by
    rw [Crc.parse_sum hF (by rw [Nat.add_sub_cancel]; exact q)] at hE
    cases hE
  have hW : Crc.wrongB (g 1) (g 2) (g 3 * 256 + g 4 : Nat) (e - 7) = 0 := by
    rw [Crc.parse_else hF (by rw [Nat.add_sub_cancel]; exact hs), show e + 4 - 11 = e - 7 by omega] at hE
    exact hE
  refine (parse_rest b o (e + 4) e cap g w hx rfl (by omega) hF hs).mono ?_
  rintro r w' ⟨v', rfl, hv, hb⟩
  rw [show e + 4 - 11 = e - 7 by omega]
  rcases hv with ⟨_, d, rfl, hd⟩ | ⟨h0, _⟩
  · exact ⟨d, by rw [hW]; rfl, hd, hb⟩
  · exact absurd hW h0

end Go.Proofs.Ytmlboaejkmffjad
