/-
  What the document's own answers for what is wrong with a code, and for rows, do, call by call.
-/
import Derived.Test.YtmlboaejkmffjadRefLay
import Derived.Test.YtmlboaejkmffjadCRows
namespace Go.Proofs.Ytmlboaejkmffjad
open Go.RowKit

set_option maxHeartbeats 400000 in
theorem refWrongC_any (d s : Int) (w : World) :
    Calls Try.prog 45 #[.int .i64 d, .int .i64 s] w fun e w' => e = .returned (.int .i64 (wrongC d s : Nat)) ∧ Below w.heap.size w w' := by
  by_cases h1 : d < 1
  · have H : Hid (wrongC d s = 5) := wrongC_bad (by omega)
    go_enter Try.func45, Try.ntmps45
    go_wp2_with fail
    go_ret
    exact ⟨ret_int (by rw [H.out]; rfl), Below.refl _ _⟩
  by_cases h2 : 8 < d
  · have H : Hid (wrongC d s = 5) := wrongC_bad (by omega)
    go_enter Try.func45, Try.ntmps45
    go_wp2_with fail
    go_ret
    exact ⟨ret_int (by rw [H.out]; rfl), Below.refl _ _⟩
  by_cases h3 : s < 0
  · have H : Hid (wrongC d s = 5) := wrongC_bad (by omega)
    go_enter Try.func45, Try.ntmps45
    go_wp2_with fail
    go_ret
    exact ⟨ret_int (by rw [H.out]; rfl), Below.refl _ _⟩
  by_cases h4 : 4 < s
  · have H : Hid (wrongC d s = 5) := wrongC_bad (by omega)
    go_enter Try.func45, Try.ntmps45
    go_wp2_with fail
    go_ret
    exact ⟨ret_int (by rw [H.out]; rfl), Below.refl _ _⟩
  have H : Hid (wrongC d s = 0) := wrongC_ok (by omega)
  go_enter Try.func45, Try.ntmps45
  go_wp2_with fail
  go_ret
  exact ⟨ret_int (by rw [H.out]; rfl), Below.refl _ _⟩

set_option maxHeartbeats 400000 in
theorem refRows_bad (d s : Int) (w : World) (h : d < 1 ∨ 8 < d ∨ s < 0 ∨ 4 < s) :
    Calls Try.prog 64 #[.int .i64 d, .int .i64 s] w fun e w' => e = .returned (.tuple #[.slice none 0 0, .int .i64 5]) ∧ Below w.heap.size w w' := by
  have H := refWrongC_any d s
  rw [wrongC_bad h] at H
  clear h
  go_enter Try.func64, Try.ntmps64
  go_wp2_with fail
  refine (H _).mono ?_
  rintro e w1 ⟨rfl, b1⟩
  go_wp2_with fail
  go_ret2
  exact ⟨rfl, b1⟩

theorem rowIs_same {w : World} {g : Nat} {t : TypeId} {n k : Nat} {f h : Nat → Nat} (hr : w.rowIs g t n (fun j => .int .u8 (upto k h f j : Nat))) (e : h k = f k) : w.rowIs g t n (fun j => .int .u8 (upto (k + 1) h f j : Nat)) :=
  hr.congr (fun j _ => by
    rw [upto_step]
    by_cases ej : j = k
    · rw [if_pos ej, ej, upto_here, e]
    · rw [if_neg ej])

set_option maxHeartbeats 2000000 in
theorem refRows_any (n s : Nat) (w : World) (h1 : 1 ≤ n) (h2 : n ≤ 8) (h3 : s ≤ 4) :
    Calls Try.prog 64 #[.int .i64 (n : Int), .int .i64 (s : Int)] w fun e w' =>
      ∃ g cap, e = .returned (.tuple #[.slice (some ⟨g, 0, none⟩) (n + s) cap, .int .i64 0]) ∧ n + s ≤ cap ∧ (∃ G K, MatAt w' g 0 (n + s) n G (fun _ => 0) K (Gf.rowF n)) ∧ Below w.heap.size w w' := by
  have H := refWrongC_any n s
  rw [wrongC_ok (show ¬ ((n : Int) < 1 ∨ 8 < (n : Int) ∨ (s : Int) < 0 ∨ 4 < (s : Int)) by omega)] at H
  obtain ⟨i0, hi, hh⟩ := Option.map_eq_some_iff.1 Try.infoRow
  simp only [Prod.mk.injEq] at hh
  obtain ⟨hz0, hz1, hz2⟩ := hh
  have hmk := run_make_row' (P := Try.prog) 25 5 (.int .u8 0) 1 Try.underlying25 Try.infoByte rfl .i64 .i64 n (by omega) (by omega)
  go_enter Try.func64, Try.ntmps64
  go_wp2_with fail
  refine (H _).mono ?_
  rintro e w1 ⟨rfl, b1⟩
  clear H
  go_wp2_with fail
  go_loopw [7, 8] (fun v x wr => ∃ k : Nat, k ≤ n + s ∧ x = .int .i64 k ∧ (∃ G K, Acc wr w.heap.size v k n G K (Gf.rowF n)) ∧ Below w.heap.size w wr) (fun _ x _ => (n + s) - (intOf x).toNat)
  case atStart => exact ⟨0, Nat.zero_le _, rfl, ⟨fun _ => 0, fun _ => 0, Acc.start w1 _ n _ _ _⟩, b1⟩
  case round =>
    clear b1
    obtain ⟨k, hk, rfl, ⟨G, K, hA⟩, hb⟩ := hrel
    obtain ⟨wo, rfl⟩ : ∃ x, x = wr := ⟨wr, rfl⟩
    by_cases hlt : k < n + s
    · have hlt' : (k : Int) < (n : Int) + (s : Int) := by omega
      go_wp2_with fail
      go_loopw [28] (fun z wi => ∃ j : Nat, j ≤ n ∧ z = .int .i64 j ∧ wi.rowIs wo.heap.size 5 n (fun x => .int .u8 (upto j (Gf.rowF n k) (fun _ => 0) x : Nat)) ∧ Below wo.heap.size wo wi) (fun z _ => n - (intOf z).toNat)
      case atStart => exact ⟨0, Nat.zero_le _, rfl, (World.rowIs_made wo (.int .u8 0) n 5).congr (fun j _ => by rw [show upto 0 (Gf.rowF n k) (fun _ => 0) j = 0 from if_neg (Nat.not_lt_zero _)]; rfl), (Below.refl _ _).alloc (Nat.le_refl _) _⟩
      case round =>
        obtain ⟨j, hj, rfl, hw, hbi⟩ := hrel
        by_cases hjn : j < n
        · have hj' : (j : Int) < (n : Int) := by omega
          have hc := hw.cell hjn
          have hfz := hw.frozen j
          by_cases hkn : n ≤ k
          · have hkn' : (n : Int) ≤ (k : Int) := by omega
            have hx : k ^^^ j < 256 := Gf.xor_lt (by omega) (by omega)
            have hxor : bits .xor .i64 (k : Int) (j : Int) = ((k ^^^ j : Nat) : Int) := by
              rw [i64_xor _ _ (by omega) (by omega) (by omega) (by omega), Int.toNat_natCast, Int.toNat_natCast]
            have hwb := wrap_byte hx
            have HP := row_step (h := Gf.rowF n k) hw
            rw [show Gf.rowF n k j = Gf.inv (k ^^^ j) from Gf.rowF_inv hkn j] at HP
            clear hw
            go_wp2_with fail
            refine (refInv_nat _ _ hx).mono ?_
            rintro e w2 ⟨rfl, rfl⟩
            go_wp2_with fail
            exact ⟨⟨j + 1, by omega, by go_num, HP, hbi.setCell (p := ⟨wo.heap.size, j, none⟩) (Nat.le_refl _) _⟩, by simp [intOf]; omega⟩
          · have hkn' : ¬ (n : Int) ≤ (k : Int) := by omega
            by_cases hkj : k = j
            · subst hkj
              have HP := row_step (h := Gf.rowF n k) hw
              rw [show Gf.rowF n k k = 1 from (Gf.rowF_one (by omega) k).trans (Gf.one_self k)] at HP
              clear hw
              go_wp2_with fail
              exact ⟨⟨k + 1, by omega, by go_num, HP, hbi.setCell (p := ⟨wo.heap.size, k, none⟩) (Nat.le_refl _) _⟩, by simp [intOf]; omega⟩
            · have hkj' : ((k : Int) == (j : Int)) = false := by rw [beq_eq_false_iff_ne]; omega
              have HP := rowIs_same hw ((Gf.rowF_one (by omega) j).trans (Gf.one_ne hkj))
              clear hw hkj
              go_wp2_with fail
              exact ⟨⟨j + 1, by omega, by go_num, HP, hbi⟩, by simp [intOf]; omega⟩
        · have ej : j = n := by omega
          subst ej
          have hF : RowC wr wo.heap.size 5 j (fun x => .int .u8 (Gf.rowF j k x : Nat)) := rowC_of (hw.congr (fun x hx => by rw [show upto j (Gf.rowF j k) (fun _ => 0) x = Gf.rowF j k x from if_pos hx]))
          have hbX := (Below.refl wr.heap.size wr).alloc (Nat.le_refl _) (.cells #[.slice (some ⟨wo.heap.size, 0, none⟩) j j] 25)
          have AX := (hA.below hbi).below hbX
          have rX := hF.alloc (.cells #[.slice (some ⟨wo.heap.size, 0, none⟩) j j] 25)
          have bX := bt (bt hb hbi) hbX
          clear hw hF hA hmk
          go_wp2_with (at_builtin; refine wpList_append_own _ rfl (.tmp 49) (.tmp 51) 91 rfl w.heap.size 25 i0 (.slice none 0 0) 1 24 Try.underlying91 hi hz0 hz1 hz2 rfl (by decide) _ _ _ rfl AX.own ⟨wr.heap.size, 0, none⟩ 1 1 [.slice (some ⟨wo.heap.size, 0, none⟩) j j] rfl rfl cell_one (by intro u hu; simp at hu; subst hu; rfl) (by unfold maxLen; omega) (by omega) bX.size ?_; intro v1 w4 hown1 hgrow1 _)
          have A1 := AX.step ⟨hb.size, rX⟩ hown1 hgrow1
          have b4 : Below w.heap.size w w4 := bX.grown hgrow1 bX.size (fun x hx => (AX.own.lt x hx).1)
          clear hown1 hgrow1 AX rX bX hbX hbi
          go_wp2_with fail
          exact ⟨⟨k + 1, by omega, by go_num, ⟨_, _, A1⟩, b4⟩, by simp [intOf]; omega⟩
    · have e8 : k = n + s := by omega
      subst e8
      have hnl : ¬ ((n + s : Nat) : Int) < (n : Int) + (s : Int) := by omega
      obtain ⟨g, cap, rfl, _, hc, hm⟩ := hA.mat (by omega)
      clear hA hlt hmk
      go_wp2_with fail
      go_ret2
      exact ⟨g, cap, rfl, hc, ⟨G, K, hm⟩, hb⟩

end Go.Proofs.Ytmlboaejkmffjad
