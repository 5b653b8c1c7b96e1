/-
  What block.Parse does, call by call.
-/
import Derived.Test.YtmlboaejkmffjadBBytes
import Derived.Laws.ResultCell
import Derived.Deep.RegionHeld3
import Derived.Deep.Cut
import Derived.Deep.CutRange
namespace Go.Proofs.Ytmlboaejkmffjad
open Go.RowKit

/-- The four cells of a block's variable. -/
structure VarB (w : World) (p : Nat) (a b c d : Value) : Prop where
  c0 : w.cell? ⟨p, 0, none⟩ = some a
  c1 : w.cell? ⟨p, 1, none⟩ = some b
  c2 : w.cell? ⟨p, 2, none⟩ = some c
  c3 : w.cell? ⟨p, 3, none⟩ = some d
  fr : ∀ i, w.frozen? ⟨p, i, none⟩ = false
theorem varB_new (w : World) (a b c d : Value) : VarB (w.alloc (.cells #[a, b, c, d] 75)) w.heap.size a b c d := by
  have hr := World.rowIs_alloc w #[a, b, c, d] 75 (fun k => #[a, b, c, d].getD k a) (fun i hi => by simp only [Array.getElem?_eq_getElem hi, Array.getD, hi, dif_pos]; rfl)
  exact ⟨hr.cell (i := 0) (by simp), hr.cell (i := 1) (by simp), hr.cell (i := 2) (by simp), hr.cell (i := 3) (by simp), fun i => hr.frozen i⟩
theorem VarB.below {w w' : World} {p : Nat} {a b c d : Value} (h : VarB w p a b c d) (hb : Below w.heap.size w w') : VarB w' p a b c d := by
  have hp : p < w.heap.size := World.block_lt_of_cell? _ _ h.c0
  exact ⟨(hb.cell (p := ⟨p, 0, none⟩) hp).trans h.c0, (hb.cell (p := ⟨p, 1, none⟩) hp).trans h.c1, (hb.cell (p := ⟨p, 2, none⟩) hp).trans h.c2, (hb.cell (p := ⟨p, 3, none⟩) hp).trans h.c3, fun i => by
    rw [← h.fr i]
    exact World.frozen?_of_block (hb.block p hp)⟩

set_option maxHeartbeats 400000 in
theorem parse_bad (v : Value) (n : Nat) (g : Nat → Nat) (w : World) (h : Byts w v n g) (hx : BadForm g n) :
    Calls Try.prog 69 #[v] w fun e w' => e = .returned (.tuple #[.agg #[.int .i64 0, .int .i64 0, .int .i64 0, .slice none 0 0], .int .i64 2]) ∧ Below w.heap.size w w' := by
  have H1 := fun w' (hb' : Below w.heap.size w w') => wellFormed_blk v n g w' (h.below hb')
  have HX : Hid (BadForm g n) := hx
  clear hx
  go_enter Try.func69, Try.ntmps69
  go_wp2_with fail
  refine (H1 _ ((Below.refl _ _).alloc (Nat.le_refl _) _)).mono ?_
  rintro e w1 ⟨⟨y, rfl, hy⟩, b1⟩
  have bx := bt ((Below.refl _ w).alloc (Nat.le_refl _) _) b1
  obtain ⟨c0, c1, c2, c3, fr⟩ := (varB_new w (.int .i64 0) (.int .i64 0) (.int .i64 0) (.slice none 0 0)).below b1
  have hyf : y = false := by
    cases y with
    | false => rfl
    | true => exact absurd HX.out (hy.1 rfl)
  subst hyf
  have f0 := fr 0
  have f1 := fr 1
  have f2 := fr 2
  have f3 := fr 3
  clear hy H1
  go_wp2_with fail
  refine bodyPost_ret (v := .tuple #[.agg #[.int .i64 0, .int .i64 0, .int .i64 0, .slice none 0 0], .int .i64 2]) (by simp [results, Try.results69, go_sem, c0, c1, c2, c3]) rfl ⟨rfl, ?_⟩
  exact (((bx.setCell (Nat.le_refl _) _).setCell (Nat.le_refl _) _).setCell (Nat.le_refl _) _).setCell (Nat.le_refl _) _

set_option maxHeartbeats 1000000 in
theorem parse_bsum (b o e cap : Nat) (g : Nat → Nat) (w : World) (h : Byts w (.slice (some ⟨b, o, none⟩) (e + 4) cap) (e + 4) g) (hcap : e + 4 ≤ cap) (hx : ¬ BadForm g (e + 4)) (hs : Crc.sum g e ≠ Crc.four g e) :
    Calls Try.prog 69 #[.slice (some ⟨b, o, none⟩) (e + 4) cap] w fun r w' => r = .returned (.tuple #[.agg #[.int .i64 0, .int .i64 0, .int .i64 0, .slice none 0 0], .int .i64 9]) ∧ Below w.heap.size w w' := by
  have hl := h.len
  have he : 8 ≤ e := by unfold BadForm at hx; omega
  have H1 := fun w' (hb' : Below w.heap.size w w') => wellFormed_blk _ (e + 4) g w' (h.below hb')
  obtain ⟨b', o', cap', hv, _, _, hc⟩ := h.some (by omega)
  cases hv
  have hbd := h.bd
  have H2 := fun w' (hb' : Below w.heap.size w w') => sum_some b o e cap g w' hbd (by omega) (fun i hi => (hb'.cell (p := ⟨b, o + i, none⟩) (World.block_lt_of_cell? _ _ (hc i (by omega)))).trans (hc i (by omega)))
  have H3 := fun w' (hb' : Below w.heap.size w w') => sumAt_any b o (e + 4) cap e g w' hbd hl rfl (fun i hi => (hb'.cell (p := ⟨b, o + i, none⟩) (World.block_lt_of_cell? _ _ (hc i (by omega)))).trans (hc i (by omega)))
  have hne : (((Crc.sum g e : Nat) : Int) != ((Crc.four g e : Nat) : Int)) = true := by rw [bne_iff_ne]; omega
  have HX : Hid (¬ BadForm g (e + 4)) := hx
  have hec : (e : Int) ≤ (cap : Int) := by omega
  generalize Crc.sum g e = S at H2 hne
  generalize Crc.four g e = F at H3 hne
  clear hx hs hc h
  go_enter Try.func69, Try.ntmps69
  go_wp2_with fail
  refine (H1 _ ((Below.refl _ _).alloc (Nat.le_refl _) _)).mono ?_
  rintro e1 w1 ⟨⟨y, rfl, hy⟩, b1⟩
  have bx := bt ((Below.refl _ w).alloc (Nat.le_refl _) _) b1
  have V1 := (varB_new w (.int .i64 0) (.int .i64 0) (.int .i64 0) (.slice none 0 0)).below b1
  have hyf : y = true := hy.2 HX.out
  subst hyf
  clear hy H1 b1
  go_wp2_with fail
  refine (H2 _ bx).mono ?_
  rintro e2 w2 ⟨rfl, rfl⟩
  go_wp2_with fail
  refine (H3 _ bx).mono ?_
  rintro e3 w3 ⟨rfl, b3⟩
  obtain ⟨c0, c1, c2, c3, fr⟩ := V1.below b3
  have bx := bt bx b3
  have f0 := fr 0
  have f1 := fr 1
  have f2 := fr 2
  have f3 := fr 3
  clear H2 H3 V1 b3
  go_wp2_with fail
  refine bodyPost_ret (v := .tuple #[.agg #[.int .i64 0, .int .i64 0, .int .i64 0, .slice none 0 0], .int .i64 9]) (by simp [results, Try.results69, go_sem, c0, c1, c2, c3]) rfl ⟨rfl, ?_⟩
  exact (((bx.setCell (Nat.le_refl _) _).setCell (Nat.le_refl _) _).setCell (Nat.le_refl _) _).setCell (Nat.le_refl _) _

theorem VarB.drew {w : World} {p : Nat} {a b c d : Value} (h : VarB w p a b c d) : VarB w.drew p a b c d := ⟨h.c0, h.c1, h.c2, h.c3, h.fr⟩
theorem keep_alloc {w0 wX : World} {b o x y : Nat} {ob : Obj} (h : wX.cell? ⟨b, o + 1, none⟩ = some (.int .u8 (x : Nat)) ∧ wX.cell? ⟨b, o + 2, none⟩ = some (.int .u8 (y : Nat)) ∧ Below w0.heap.size w0 wX) :
    (wX.alloc ob).cell? ⟨b, o + 1, none⟩ = some (.int .u8 (x : Nat)) ∧ (wX.alloc ob).cell? ⟨b, o + 2, none⟩ = some (.int .u8 (y : Nat)) ∧ Below w0.heap.size w0 (wX.alloc ob) :=
  ⟨(World.cell?_alloc_lt _ _ _ (World.block_lt_of_cell? _ _ h.1)).trans h.1, (World.cell?_alloc_lt _ _ _ (World.block_lt_of_cell? _ _ h.2.1)).trans h.2.1, h.2.2.alloc h.2.2.size _⟩
theorem set4_at {wX : World} {B : Nat} {a b c d a' b' c' d' : Value} (h : VarB wX B a b c d) : VarB ((((wX.setCell ⟨B, 0, none⟩ a').setCell ⟨B, 1, none⟩ b').setCell ⟨B, 2, none⟩ c').setCell ⟨B, 3, none⟩ d') B a' b' c' d' := by
  have c0 := h.c0
  have c1 := h.c1
  have c2 := h.c2
  have c3 := h.c3
  have fr := h.fr
  exact ⟨by go_simp, by go_simp, by go_simp, by go_simp, fun i => by
    have := fr i
    go_simp⟩
theorem set4_below {w0 wX : World} {N B : Nat} {a' b' c' d' : Value} (h : Below N w0 wX) (hB : N ≤ B) : Below N w0 ((((wX.setCell ⟨B, 0, none⟩ a').setCell ⟨B, 1, none⟩ b').setCell ⟨B, 2, none⟩ c').setCell ⟨B, 3, none⟩ d') :=
  (((h.setCell hB _).setCell hB _).setCell hB _).setCell hB _
theorem keep_set4 {w0 wX : World} {b o x y B : Nat} {a' b' c' d' : Value} (h : wX.cell? ⟨b, o + 1, none⟩ = some (.int .u8 (x : Nat)) ∧ wX.cell? ⟨b, o + 2, none⟩ = some (.int .u8 (y : Nat)) ∧ Below w0.heap.size w0 wX) (hB : w0.heap.size ≤ B) (hb : b < w0.heap.size) :
    ((((wX.setCell ⟨B, 0, none⟩ a').setCell ⟨B, 1, none⟩ b').setCell ⟨B, 2, none⟩ c').setCell ⟨B, 3, none⟩ d').cell? ⟨b, o + 1, none⟩ = some (.int .u8 (x : Nat)) ∧ ((((wX.setCell ⟨B, 0, none⟩ a').setCell ⟨B, 1, none⟩ b').setCell ⟨B, 2, none⟩ c').setCell ⟨B, 3, none⟩ d').cell? ⟨b, o + 2, none⟩ = some (.int .u8 (y : Nat)) ∧
      Below w0.heap.size w0 ((((wX.setCell ⟨B, 0, none⟩ a').setCell ⟨B, 1, none⟩ b').setCell ⟨B, 2, none⟩ c').setCell ⟨B, 3, none⟩ d') := by
  have hne : ∀ i j, (⟨B, i, none⟩ : Addr) ≠ ⟨b, j, none⟩ := fun i j e => by
    have := congrArg Addr.block e
    simp at this
    omega
  refine ⟨?_, ?_, set4_below h.2.2 hB⟩
  · rw [World.cell?_setCell_other _ _ _ _ (hne _ _), World.cell?_setCell_other _ _ _ _ (hne _ _), World.cell?_setCell_other _ _ _ _ (hne _ _), World.cell?_setCell_other _ _ _ _ (hne _ _)]
    exact h.1
  · rw [World.cell?_setCell_other _ _ _ _ (hne _ _), World.cell?_setCell_other _ _ _ _ (hne _ _), World.cell?_setCell_other _ _ _ _ (hne _ _), World.cell?_setCell_other _ _ _ _ (hne _ _)]
    exact h.2.1
theorem keep_call {w0 wX w3 : World} {b o x y : Nat} (b3 : Below wX.heap.size wX w3) (h : wX.cell? ⟨b, o + 1, none⟩ = some (.int .u8 (x : Nat)) ∧ wX.cell? ⟨b, o + 2, none⟩ = some (.int .u8 (y : Nat)) ∧ Below w0.heap.size w0 wX) :
    w3.cell? ⟨b, o + 1, none⟩ = some (.int .u8 (x : Nat)) ∧ w3.cell? ⟨b, o + 2, none⟩ = some (.int .u8 (y : Nat)) ∧ Below w0.heap.size w0 w3 :=
  ⟨(b3.cell (p := ⟨b, o + 1, none⟩) (World.block_lt_of_cell? _ _ h.1)).trans h.1, (b3.cell (p := ⟨b, o + 2, none⟩) (World.block_lt_of_cell? _ _ h.2.1)).trans h.2.1, bt h.2.2 b3⟩

end Go.Proofs.Ytmlboaejkmffjad
