/-
  Texts of the proof, joined: BParse, BRest, BBlk, BAny.
-/
import Derived.Test.YtmcaejooaaahdaaGreatZ11
import Derived.Laws.ResultCell
import Derived.Deep.RegionHeld3
import Derived.Deep.Cut
import Derived.Deep.CutRange
namespace Go.Proofs.YtmcaejooaaahdaaGreat
open Go.RowKit

/-- The four cells of a block's variable. -/
structure VarB (w : World) (p : Nat) (a b c d : Value) : Prop where
  c0 : w.cell? ⟨p, 0, none⟩ = some a
  c1 : w.cell? ⟨p, 1, none⟩ = some b
  c2 : w.cell? ⟨p, 2, none⟩ = some c
  c3 : w.cell? ⟨p, 3, none⟩ = some d
  fr : ∀ i, w.frozen? ⟨p, i, none⟩ = false
theorem varB_new (w : World) (a b c d : Value) : VarB (w.alloc (.cells #[a, b, c, d] 137)) w.heap.size a b c d := by
  have hr := World.rowIs_alloc w #[a, b, c, d] 137 (fun k => #[a, b, c, d].getD k a) (fun i hi => by simp only [Array.getElem?_eq_getElem hi, Array.getD, hi, dif_pos]; rfl)
  exact ⟨hr.cell (i := 0) (by simp), hr.cell (i := 1) (by simp), hr.cell (i := 2) (by simp), hr.cell (i := 3) (by simp), fun i => hr.frozen i⟩
theorem VarB.below {w w' : World} {p : Nat} {a b c d : Value} (h : VarB w p a b c d) (hb : Below w.heap.size w w') : VarB w' p a b c d := by
  have hp : p < w.heap.size := World.block_lt_of_cell? _ _ h.c0
  exact ⟨(hb.cell (p := ⟨p, 0, none⟩) hp).trans h.c0, (hb.cell (p := ⟨p, 1, none⟩) hp).trans h.c1, (hb.cell (p := ⟨p, 2, none⟩) hp).trans h.c2, (hb.cell (p := ⟨p, 3, none⟩) hp).trans h.c3, fun i => by
    rw [← h.fr i]
    exact World.frozen?_of_block (hb.block p hp)⟩

set_option maxHeartbeats 400000 in
theorem parse_bad (v : Value) (n : Nat) (g : Nat → Nat) (w : World) (h : Byts w v n g) (hx : BadForm g n) :
    Calls Tryz.prog 120 #[v] w fun e w' => e = .returned (.tuple #[.agg #[.int .i64 0, .int .i64 0, .int .i64 0, .slice none 0 0], .int .i64 2]) ∧ Below w.heap.size w w' := by
  have H1 := fun w' (hb' : Below w.heap.size w w') => wellFormed_blk v n g w' (h.below hb')
  have HX : Hid (BadForm g n) := hx
  clear hx
  go_enter Tryz.func120, Tryz.ntmps120
  go_wp2_with fail
  refine (H1 _ ((Below.refl _ _).alloc (Nat.le_refl _) _)).mono ?_
  rintro e w1 ⟨⟨y, rfl, hy⟩, b1⟩
  have bx := bt ((Below.refl _ w).alloc (Nat.le_refl _) _) b1
  obtain ⟨c0, c1, c2, c3, fr⟩ := (varB_new w (.int .i64 0) (.int .i64 0) (.int .i64 0) (.slice none 0 0)).below b1
  have hyf : y = false := by
    cases y with
    | false => rfl
    | true => exact absurd HX.out (hy.1 rfl)
  subst hyf
  have f0 := fr 0
  have f1 := fr 1
  have f2 := fr 2
  have f3 := fr 3
  clear hy H1
  go_wp2_with fail
  refine bodyPost_ret (v := .tuple #[.agg #[.int .i64 0, .int .i64 0, .int .i64 0, .slice none 0 0], .int .i64 2]) (by simp [results, Tryz.results120, go_sem, c0, c1, c2, c3]) rfl ⟨rfl, ?_⟩
  exact (((bx.setCell (Nat.le_refl _) _).setCell (Nat.le_refl _) _).setCell (Nat.le_refl _) _).setCell (Nat.le_refl _) _

set_option maxHeartbeats 1000000 in
theorem parse_bsum (b o e cap : Nat) (g : Nat → Nat) (w : World) (h : Byts w (.slice (some ⟨b, o, none⟩) (e + 4) cap) (e + 4) g) (hcap : e + 4 ≤ cap) (hx : ¬ BadForm g (e + 4)) (hs : Crc.sum g e ≠ Crc.four g e) :
    Calls Tryz.prog 120 #[.slice (some ⟨b, o, none⟩) (e + 4) cap] w fun r w' => r = .returned (.tuple #[.agg #[.int .i64 0, .int .i64 0, .int .i64 0, .slice none 0 0], .int .i64 9]) ∧ Below w.heap.size w w' := by
  have hl := h.len
  have he : 8 ≤ e := by unfold BadForm at hx; omega
  have H1 := fun w' (hb' : Below w.heap.size w w') => wellFormed_blk _ (e + 4) g w' (h.below hb')
  obtain ⟨b', o', cap', hv, _, _, hc⟩ := h.some (by omega)
  cases hv
  have hbd := h.bd
  have H2 := fun w' (hb' : Below w.heap.size w w') => sum_some b o e cap g w' hbd (by omega) (fun i hi => (hb'.cell (p := ⟨b, o + i, none⟩) (World.block_lt_of_cell? _ _ (hc i (by omega)))).trans (hc i (by omega)))
  have H3 := fun w' (hb' : Below w.heap.size w w') => sumAt_any b o (e + 4) cap e g w' hbd hl rfl (fun i hi => (hb'.cell (p := ⟨b, o + i, none⟩) (World.block_lt_of_cell? _ _ (hc i (by omega)))).trans (hc i (by omega)))
  have hne : (((Crc.sum g e : Nat) : Int) != ((Crc.four g e : Nat) : Int)) = true := by rw [bne_iff_ne]; omega
  have HX : Hid (¬ BadForm g (e + 4)) := hx
  have hec : (e : Int) ≤ (cap : Int) := by omega
  generalize Crc.sum g e = S at H2 hne
  generalize Crc.four g e = F at H3 hne
  clear hx hs hc h
  go_enter Tryz.func120, Tryz.ntmps120
  go_wp2_with fail
  refine (H1 _ ((Below.refl _ _).alloc (Nat.le_refl _) _)).mono ?_
  rintro e1 w1 ⟨⟨y, rfl, hy⟩, b1⟩
  have bx := bt ((Below.refl _ w).alloc (Nat.le_refl _) _) b1
  have V1 := (varB_new w (.int .i64 0) (.int .i64 0) (.int .i64 0) (.slice none 0 0)).below b1
  have hyf : y = true := hy.2 HX.out
  subst hyf
  clear hy H1 b1
  go_wp2_with fail
  refine (H2 _ bx).mono ?_
  rintro e2 w2 ⟨rfl, rfl⟩
  go_wp2_with fail
  refine (H3 _ bx).mono ?_
  rintro e3 w3 ⟨rfl, b3⟩
  obtain ⟨c0, c1, c2, c3, fr⟩ := V1.below b3
  have bx := bt bx b3
  have f0 := fr 0
  have f1 := fr 1
  have f2 := fr 2
  have f3 := fr 3
  clear H2 H3 V1 b3
  go_wp2_with fail
  refine bodyPost_ret (v := .tuple #[.agg #[.int .i64 0, .int .i64 0, .int .i64 0, .slice none 0 0], .int .i64 9]) (by simp [results, Tryz.results120, go_sem, c0, c1, c2, c3]) rfl ⟨rfl, ?_⟩
  exact (((bx.setCell (Nat.le_refl _) _).setCell (Nat.le_refl _) _).setCell (Nat.le_refl _) _).setCell (Nat.le_refl _) _

theorem VarB.drew {w : World} {p : Nat} {a b c d : Value} (h : VarB w p a b c d) : VarB w.drew p a b c d := ⟨h.c0, h.c1, h.c2, h.c3, h.fr⟩
theorem keep_alloc {w0 wX : World} {b o x y : Nat} {ob : Obj} (h : wX.cell? ⟨b, o + 1, none⟩ = some (.int .u8 (x : Nat)) ∧ wX.cell? ⟨b, o + 2, none⟩ = some (.int .u8 (y : Nat)) ∧ Below w0.heap.size w0 wX) :
    (wX.alloc ob).cell? ⟨b, o + 1, none⟩ = some (.int .u8 (x : Nat)) ∧ (wX.alloc ob).cell? ⟨b, o + 2, none⟩ = some (.int .u8 (y : Nat)) ∧ Below w0.heap.size w0 (wX.alloc ob) :=
  ⟨(World.cell?_alloc_lt _ _ _ (World.block_lt_of_cell? _ _ h.1)).trans h.1, (World.cell?_alloc_lt _ _ _ (World.block_lt_of_cell? _ _ h.2.1)).trans h.2.1, h.2.2.alloc h.2.2.size _⟩
theorem set4_at {wX : World} {B : Nat} {a b c d a' b' c' d' : Value} (h : VarB wX B a b c d) : VarB ((((wX.setCell ⟨B, 0, none⟩ a').setCell ⟨B, 1, none⟩ b').setCell ⟨B, 2, none⟩ c').setCell ⟨B, 3, none⟩ d') B a' b' c' d' := by
  have c0 := h.c0
  have c1 := h.c1
  have c2 := h.c2
  have c3 := h.c3
  have fr := h.fr
  exact ⟨by go_simp, by go_simp, by go_simp, by go_simp, fun i => by
    have := fr i
    go_simp⟩
theorem set4_below {w0 wX : World} {N B : Nat} {a' b' c' d' : Value} (h : Below N w0 wX) (hB : N ≤ B) : Below N w0 ((((wX.setCell ⟨B, 0, none⟩ a').setCell ⟨B, 1, none⟩ b').setCell ⟨B, 2, none⟩ c').setCell ⟨B, 3, none⟩ d') :=
  (((h.setCell hB _).setCell hB _).setCell hB _).setCell hB _
theorem keep_set4 {w0 wX : World} {b o x y B : Nat} {a' b' c' d' : Value} (h : wX.cell? ⟨b, o + 1, none⟩ = some (.int .u8 (x : Nat)) ∧ wX.cell? ⟨b, o + 2, none⟩ = some (.int .u8 (y : Nat)) ∧ Below w0.heap.size w0 wX) (hB : w0.heap.size ≤ B) (hb : b < w0.heap.size) :
    ((((wX.setCell ⟨B, 0, none⟩ a').setCell ⟨B, 1, none⟩ b').setCell ⟨B, 2, none⟩ c').setCell ⟨B, 3, none⟩ d').cell? ⟨b, o + 1, none⟩ = some (.int .u8 (x : Nat)) ∧ ((((wX.setCell ⟨B, 0, none⟩ a').setCell ⟨B, 1, none⟩ b').setCell ⟨B, 2, none⟩ c').setCell ⟨B, 3, none⟩ d').cell? ⟨b, o + 2, none⟩ = some (.int .u8 (y : Nat)) ∧
      Below w0.heap.size w0 ((((wX.setCell ⟨B, 0, none⟩ a').setCell ⟨B, 1, none⟩ b').setCell ⟨B, 2, none⟩ c').setCell ⟨B, 3, none⟩ d') := by
  have hne : ∀ i j, (⟨B, i, none⟩ : Addr) ≠ ⟨b, j, none⟩ := fun i j e => by
    have := congrArg Addr.block e
    simp at this
    omega
  refine ⟨?_, ?_, set4_below h.2.2 hB⟩
  · rw [World.cell?_setCell_other _ _ _ _ (hne _ _), World.cell?_setCell_other _ _ _ _ (hne _ _), World.cell?_setCell_other _ _ _ _ (hne _ _), World.cell?_setCell_other _ _ _ _ (hne _ _)]
    exact h.1
  · rw [World.cell?_setCell_other _ _ _ _ (hne _ _), World.cell?_setCell_other _ _ _ _ (hne _ _), World.cell?_setCell_other _ _ _ _ (hne _ _), World.cell?_setCell_other _ _ _ _ (hne _ _)]
    exact h.2.1
theorem keep_call {w0 wX w3 : World} {b o x y : Nat} (b3 : Below wX.heap.size wX w3) (h : wX.cell? ⟨b, o + 1, none⟩ = some (.int .u8 (x : Nat)) ∧ wX.cell? ⟨b, o + 2, none⟩ = some (.int .u8 (y : Nat)) ∧ Below w0.heap.size w0 wX) :
    w3.cell? ⟨b, o + 1, none⟩ = some (.int .u8 (x : Nat)) ∧ w3.cell? ⟨b, o + 2, none⟩ = some (.int .u8 (y : Nat)) ∧ Below w0.heap.size w0 w3 :=
  ⟨(b3.cell (p := ⟨b, o + 1, none⟩) (World.block_lt_of_cell? _ _ h.1)).trans h.1, (b3.cell (p := ⟨b, o + 2, none⟩) (World.block_lt_of_cell? _ _ h.2.1)).trans h.2.1, bt h.2.2 b3⟩

end Go.Proofs.YtmcaejooaaahdaaGreat

namespace Go.Proofs.YtmcaejooaaahdaaGreat
open Go.RowKit

theorem row4 {w : World} {g n B : Nat} {F : Nat → Value} {a b c d : Value} (h : RowC w g 5 n F) (hB : g ≠ B) : RowC ((((w.setCell ⟨B, 0, none⟩ a).setCell ⟨B, 1, none⟩ b).setCell ⟨B, 2, none⟩ c).setCell ⟨B, 3, none⟩ d) g 5 n F :=
  (((h.setOther hB _).setOther hB _).setOther hB _).setOther hB _
theorem keep_allocd {w0 wX : World} {b o x y : Nat} {ob : Obj} (h : wX.drew.cell? ⟨b, o + 1, none⟩ = some (.int .u8 (x : Nat)) ∧ wX.drew.cell? ⟨b, o + 2, none⟩ = some (.int .u8 (y : Nat)) ∧ Below w0.heap.size w0 wX.drew) :
    (wX.alloc ob).drew.cell? ⟨b, o + 1, none⟩ = some (.int .u8 (x : Nat)) ∧ (wX.alloc ob).drew.cell? ⟨b, o + 2, none⟩ = some (.int .u8 (y : Nat)) ∧ Below w0.heap.size w0 (wX.alloc ob).drew :=
  keep_alloc (wX := wX.drew) h

set_option maxHeartbeats 400000 in
theorem parse_rest (b o n e cap : Nat) (g : Nat → Nat) (w : World) (h : Byts w (.slice (some ⟨b, o, none⟩) n cap) n g) (hne4 : n = e + 4) (he8 : 8 ≤ e) (hx : ¬ BadForm g n) (hs : Crc.sum g e = Crc.four g e) :
    Calls Tryz.prog 120 #[.slice (some ⟨b, o, none⟩) n cap] w fun r w' => ∃ v', r = .returned (.tuple #[v', .int .i64 (Crc.wrongB (g 1) (g 2) (g 3 * 256 + g 4 : Nat) (e - 7) : Nat)]) ∧
      ((Crc.wrongB (g 1) (g 2) (g 3 * 256 + g 4 : Nat) (e - 7) = 0 ∧ ∃ d, v' = .agg #[.int .i64 (g 1 : Nat), .int .i64 (g 2 : Nat), .int .i64 (g 3 * 256 + g 4 : Nat), d] ∧ Made w' w.heap.size d (e - 7) (fun k => g (k + 7))) ∨ (Crc.wrongB (g 1) (g 2) (g 3 * 256 + g 4 : Nat) (e - 7) ≠ 0 ∧ v' = .agg #[.int .i64 0, .int .i64 0, .int .i64 0, .slice none 0 0])) ∧ Below w.heap.size w w' := by
  have hl := h.len
  have he6 : e ≤ 65542 := by
    have h5 := h.bd 5
    have h6 := h.bd 6
    unfold BadForm at hx
    omega
  have H1 := fun w' (hb' : Below w.heap.size w w') => wellFormed_blk _ n g w' (h.below hb')
  obtain ⟨b', o', cap', hv, hcap, hcm, hc⟩ := h.some (by omega)
  cases hv
  have hbd := h.bd
  have HC : Hid (∀ w', Below w.heap.size w w' → ∀ i, i < n → w'.cell? ⟨b, o + i, none⟩ = some (.int .u8 (g i : Nat))) := fun w' hb' i hi => (hb'.cell (p := ⟨b, o + i, none⟩) (World.block_lt_of_cell? _ _ (hc i (by omega)))).trans (hc i (by omega))
  have H2 := fun w' (hb' : Below w.heap.size w w') => sum_some b o e cap g w' hbd (by omega) (fun i hi => HC.out w' hb' i (by omega))
  have H3 := fun w' (hb' : Below w.heap.size w w') => sumAt_any b o n cap e g w' hbd hl hne4.symm (HC.out w' hb')
  have H4 := fun w' (hb' : Below w.heap.size w w') => numberAt_any b o n cap 3 g w' hbd hl (by omega) (HC.out w' hb')
  have H5 := fun C w' (hb' : Below w.heap.size w w') => clone_any b (o + 7) (e - 7) C (fun k => g (k + 7)) w' (by omega) (fun k hk => by rw [show o + 7 + k = o + (k + 7) by omega]; exact HC.out w' hb' (k + 7) (by omega))
  have hne : (((Crc.sum g e : Nat) : Int) != ((Crc.four g e : Nat) : Int)) = false := by rw [hs]; simp
  have HX : Hid (¬ BadForm g n) := hx
  have hec : (e : Int) ≤ (cap : Int) := by omega
  have hsub : (n : Int) - 4 = (e : Int) := by omega
  have a1 : (1 : Int) < (n : Int) := by omega
  have a2 : (2 : Int) < (n : Int) := by omega
  have n1 : 1 < n := by omega
  have n2 : 2 < n := by omega
  have a7 : (7 : Int) ≤ (e : Int) := by omega
  have n7 : 7 ≤ e := by omega
  have nec : e ≤ cap := by omega
  have hw1 : IntKind.i64.wrap ((g 1 : Nat) : Int) = (g 1 : Nat) := by have := hbd 1; rw [IntKind.wrap_i64]; omega
  have hw2 : IntKind.i64.wrap ((g 2 : Nat) : Int) = (g 2 : Nat) := by have := hbd 2; rw [IntKind.wrap_i64]; omega
  have h17 : 1 ≤ e - 7 := by omega
  have hbd7 : Bd (fun k => g (k + 7)) := fun k => hbd _
  have HW := fun (A : Option Addr) (C : Nat) w' => wrong_blk (g 1 : Nat) (g 2 : Nat) (g 3 * 256 + g 4 : Nat) A (e - 7) C w'
  clear hne4 he8 he6
  generalize Crc.sum g (e) = S at H2 hne
  generalize Crc.four g (e) = F at H3 hne
  generalize hq : g 3 * 256 + g 4 = q at H4 HW ⊢
  clear hx hs hc h hq
  go_enter Tryz.func120, Tryz.ntmps120
  go_wp2_with fail
  refine (H1 _ ((Below.refl _ _).alloc (Nat.le_refl _) _)).mono ?_
  rintro e1 w1 ⟨⟨y, rfl, hy⟩, b1⟩
  have bx := bt ((Below.refl _ w).alloc (Nat.le_refl _) _) b1
  have V1 := (varB_new w (.int .i64 0) (.int .i64 0) (.int .i64 0) (.slice none 0 0)).below b1
  have hyf : y = true := hy.2 HX.out
  subst hyf
  clear hy H1 b1
  go_wp2_with fail
  refine (H2 _ bx).mono ?_
  rintro e2 w2 ⟨rfl, rfl⟩
  go_wp2_with fail
  refine (H3 _ bx).mono ?_
  rintro e3 w3 ⟨rfl, b3⟩
  have V1 := V1.below b3
  have bx := bt bx b3
  clear H2 H3 b3
  go_wp2_with fail
  have T1 := HC.out w3 bx 1 n1
  have T2 := HC.out w3 bx 2 n2
  have TD : w3.drew.cell? ⟨b, o + 1, none⟩ = some (.int .u8 (g 1 : Nat)) ∧ w3.drew.cell? ⟨b, o + 2, none⟩ = some (.int .u8 (g 2 : Nat)) ∧ Below w3.heap.size w3 w3.drew := ⟨T1, T2, (Below.refl _ _).drew⟩
  have hbl : b < w3.heap.size := World.block_lt_of_cell? _ _ T1
  have H4 := fun w' (hS : w'.cell? ⟨b, o + 1, none⟩ = some (.int .u8 (g 1 : Nat)) ∧ w'.cell? ⟨b, o + 2, none⟩ = some (.int .u8 (g 2 : Nat)) ∧ Below w3.heap.size w3 w') => H4 w' (bt bx hS.2.2)
  have H5 := fun C w' (hS : w'.cell? ⟨b, o + 1, none⟩ = some (.int .u8 (g 1 : Nat)) ∧ w'.cell? ⟨b, o + 2, none⟩ = some (.int .u8 (g 2 : Nat)) ∧ Below w3.heap.size w3 w') => H5 C w' (bt bx hS.2.2)
  go_cut [5] from 23 to 37 (fun p5 wx => ∃ B d, p5 = .pointer (some ⟨B, 0, none⟩) ∧ VarB wx B (.int .i64 (g 1 : Nat)) (.int .i64 (g 2 : Nat)) (.int .i64 (q : Nat)) d ∧ w3.heap.size ≤ B ∧ Made wx w3.heap.size d (e - 7) (fun k => g (k + 7)) ∧ Below w3.heap.size w3 wx)
  case first =>
    go_region_held3 (fun w' => w'.cell? ⟨b, o + 1, none⟩ = some (.int .u8 (g 1 : Nat)) ∧ w'.cell? ⟨b, o + 2, none⟩ = some (.int .u8 (g 2 : Nat)) ∧ Below w3.heap.size w3 w')
      (first | with_reducible exact TD | with_reducible exact keep_call (by assumption) (by assumption) | with_reducible exact keep_alloc (by assumption) | with_reducible exact keep_allocd (by assumption) | with_reducible exact keep_set4 (by assumption) (by first | exact S5.2.2.size | exact S4.2.2.size | exact Nat.le_refl _) hbl)
      (first | (go_at_call 150; refine (H4 _ (by assumption)).mono ?_; rintro e4 w4 ⟨rfl, b4⟩; have S4 := keep_call b4 (by assumption); try (have V4 := (VarB.drew (varB_new w3 _ _ _ _)).below b4)) | (go_at_call 151; refine (H5 _ _ (by assumption)).mono ?_; rintro e5 w5 ⟨v5, rfl, Y5, b5⟩; have Z5 := Y5.made hbd7 h17; obtain ⟨g5, C5, rfl, hg5, hC1, hC2, R5⟩ := Z5; have S5 := keep_call b5 (by assumption); (first | (have V5 := V4.below b5; obtain ⟨c0, c1, c2, c3, fr⟩ := V5; have f0 := fr 0; have f1 := fr 1; have f2 := fr 2; have f3 := fr 3) | (have V5 := (varB_new w4 _ _ _ _).below b5; obtain ⟨c0, c1, c2, c3, fr⟩ := V5; have f0 := fr 0; have f1 := fr 1; have f2 := fr 2; have f3 := fr 3) | skip)))
    all_goals go_wp2_with fail
    all_goals go_meet
    all_goals first | exact ⟨w5.heap.size, _, rfl, varB_new w5 _ _ _ _, S5.2.2.size, ⟨g5, C5, rfl, Nat.le_trans S4.2.2.size hg5, hC1, hC2, R5.alloc _⟩, S5.2.2.alloc S5.2.2.size _⟩ | exact ⟨w4.heap.size, _, rfl, set4_at ⟨c0, c1, c2, c3, fr⟩, S4.2.2.size, ⟨g5, C5, rfl, Nat.le_trans S4.2.2.size (Nat.le_trans (by simp) hg5), hC1, hC2, row4 R5 (fun e => by simp at hg5; omega)⟩, set4_below S5.2.2 S4.2.2.size⟩ | exact ⟨w3.heap.size, _, rfl, set4_at ⟨c0, c1, c2, c3, fr⟩, Nat.le_refl _, ⟨g5, C5, rfl, Nat.le_trans S4.2.2.size hg5, hC1, hC2, row4 R5 (fun e => by have := World.block_lt_of_cell? _ _ V4.c0; simp at this; omega)⟩, set4_below S5.2.2 (Nat.le_refl _)⟩
  case rest =>
    obtain ⟨B, d, rfl, VB, hB, YD, bc⟩ := hcut
    have V2 := V1.below bc
    have by2 := bt bx bc
    obtain ⟨g5, C5, rfl, hg5, hC1, hC2, R5⟩ := YD
    have hw3 : w.heap.size < w3.heap.size := World.block_lt_of_cell? _ _ V1.c0
    have HW := HW (some ⟨g5, 0, none⟩) C5 wc
    obtain ⟨k0, k1, k2, k3, kf⟩ := VB
    have VB : Hid (VarB wc B (.int .i64 (g 1 : Nat)) (.int .i64 (g 2 : Nat)) (.int .i64 (q : Nat)) (.slice (some ⟨g5, 0, none⟩) (e - 7) C5)) := ⟨k0, k1, k2, k3, kf⟩
    clear kf H4 H5 T1 T2 TD bc V1 bx
    by_cases hE : Crc.wrongB (g 1) (g 2) (q : Nat) (e - 7) = 0
    · have HE : Hid (Crc.wrongB (g 1) (g 2) (q : Nat) (e - 7) = 0) := hE
      rw [hE] at HW
      clear hE
      go_wp2_with fail
      refine HW.mono ?_
      rintro e6 w6 ⟨rfl, b6⟩
      obtain ⟨c0, c1, c2, c3, fr⟩ := V2.below b6
      obtain ⟨m0, m1, m2, m3, _⟩ := VB.out.below b6
      have f0 := fr 0
      have f1 := fr 1
      have f2 := fr 2
      have f3 := fr 3
      have R6 := R5.below b6
      have bz := bt by2 b6
      clear HW V2 k0 k1 k2 k3 R5
      go_wp2_with fail
      refine bodyPost_ret (v := .tuple #[.agg #[.int .i64 (g 1 : Nat), .int .i64 (g 2 : Nat), .int .i64 (q : Nat), .slice (some ⟨g5, 0, none⟩) (e - 7) C5], .int .i64 0]) (by simp [results, Tryz.results120, go_sem, c0, c1, c2, c3]) rfl ⟨_, by rw [HE.out]; rfl, Or.inl ⟨HE.out, _, rfl, ?_⟩, ?_⟩
      · exact ⟨g5, C5, rfl, by omega, hC1, hC2, row4 R6 (by omega)⟩
      · exact (((bz.setCell (Nat.le_refl _) _).setCell (Nat.le_refl _) _).setCell (Nat.le_refl _) _).setCell (Nat.le_refl _) _
    · have HE : Hid (Crc.wrongB (g 1) (g 2) (q : Nat) (e - 7) ≠ 0) := hE
      have hx' : (((Crc.wrongB (g 1) (g 2) (q : Nat) (e - 7) : Nat) : Int) == 0) = false := by rw [beq_eq_false_iff_ne]; omega
      have hxn : (((Crc.wrongB (g 1) (g 2) (q : Nat) (e - 7) : Nat) : Int) != 0) = true := by rw [bne, hx']; rfl
      clear hE
      go_wp2_with fail
      refine HW.mono ?_
      rintro e6 w6 ⟨rfl, b6⟩
      obtain ⟨c0, c1, c2, c3, fr⟩ := V2.below b6
      have f0 := fr 0
      have f1 := fr 1
      have f2 := fr 2
      have f3 := fr 3
      have bz := bt by2 b6
      clear HW V2 k0 k1 k2 k3
      go_wp2_with fail
      refine bodyPost_ret (v := .tuple #[.agg #[.int .i64 0, .int .i64 0, .int .i64 0, .slice none 0 0], .int .i64 (Crc.wrongB (g 1) (g 2) (q : Nat) (e - 7) : Nat)]) (by simp [results, Tryz.results120, go_sem, c0, c1, c2, c3]) rfl ⟨_, rfl, Or.inr ⟨HE.out, rfl⟩, ?_⟩
      exact (((bz.setCell (Nat.le_refl _) _).setCell (Nat.le_refl _) _).setCell (Nat.le_refl _) _).setCell (Nat.le_refl _) _

end Go.Proofs.YtmcaejooaaahdaaGreat

namespace Go.Proofs.YtmcaejooaaahdaaGreat
open Go.RowKit

/-- A block as a value: three numbers and n bytes. -/
def Blk (w : World) (v : Value) (s h z : Int) (n : Nat) (f : Nat → Nat) : Prop := ∃ d, v = .agg #[.int .i64 s, .int .i64 h, .int .i64 z, d] ∧ Byts w d n f
theorem Blk.below {w w' : World} {v : Value} {s h z : Int} {n : Nat} {f : Nat → Nat} (k : Blk w v s h z n f) (hb : Below w.heap.size w w') : Blk w' v s h z n f := by
  obtain ⟨d, hv, hd⟩ := k
  exact ⟨d, hv, hd.below hb⟩

end Go.Proofs.YtmcaejooaaahdaaGreat

namespace Go.Proofs.YtmcaejooaaahdaaGreat
open Go.RowKit

/-- Beside an error: nothing. -/
def pk (E x : Nat) : Nat := if E = 0 then x else 0
theorem pk_ok {E : Nat} (h : E = 0) (x : Nat) : pk E x = x := if_pos h
theorem pk_no {E : Nat} (h : E ≠ 0) (x : Nat) : pk E x = 0 := if_neg h

/-- What Bytes tells beside a number. -/
def BytesO (w : World) (N E : Nat) (v : Value) (m : Nat) (F : Nat → Nat) : Prop := (E = 0 ∧ Made w N v m F) ∨ (E ≠ 0 ∧ v = .slice none 0 0)
theorem BytesO.below {w w' : World} {N E m : Nat} {v : Value} {F : Nat → Nat} (h : BytesO w N E v m F) (hb : Below w.heap.size w w') : BytesO w' N E v m F := h.imp (fun h => ⟨h.1, h.2.below hb⟩) id
theorem BytesO.byts {w : World} {N E m : Nat} {v : Value} {F : Nat → Nat} (h : BytesO w N E v m F) (hF : E = 0 → Bd F) : Byts w v (pk E m) (fun k => pk E (F k)) := by
  rcases h with ⟨h, hm⟩ | ⟨h, rfl⟩
  · have hk := (hm.byts (hF h))
    have e : (fun k => pk E (F k)) = F := funext (fun k => pk_ok h _)
    rw [pk_ok h, e]
    exact hk
  · have e : (fun k => pk E (F k)) = fun _ => 0 := funext (fun k => pk_no h _)
    rw [pk_no h, e]
    exact Byts.nil w

/-- The bytes of a block. -/
def encI (s h z : Int) (n : Nat) (f : Nat → Nat) : Nat → Nat := Crc.enc s.toNat h.toNat z.toNat n f
theorem encI_bd {s h z : Int} {n : Nat} {f : Nat → Nat} (hf : Bd f) (e : Crc.wrongB s h z n = 0) : Bd (encI s h z n f) := by
  have := Crc.wrongB_inv e
  exact Crc.enc_bd (by omega) (by omega) (by omega) (by omega) hf

theorem bytes_any (v : Value) (s h z : Int) (n : Nat) (f : Nat → Nat) (w : World) (hx : Blk w v s h z n f) :
    Calls Tryz.prog 138 #[v] w fun e w' => ∃ v', e = .returned (.tuple #[v', .int .i64 (Crc.wrongB s h z n : Nat)]) ∧ BytesO w' w.heap.size (Crc.wrongB s h z n) v' (n + 11) (encI s h z n f) ∧ Below w.heap.size w w' := by
  obtain ⟨d, rfl, hd⟩ := hx
  by_cases hE : Crc.wrongB s h z n = 0
  · have hi := Crc.wrongB_inv hE
    obtain ⟨S, rfl⟩ := Int.eq_ofNat_of_zero_le hi.1.1
    obtain ⟨H, rfl⟩ := Int.eq_ofNat_of_zero_le hi.1.2.2.1
    obtain ⟨Z, rfl⟩ := Int.eq_ofNat_of_zero_le hi.1.2.2.2.2.1
    refine (bytes_ok S H Z d n f w hd hE).mono ?_
    rintro e w' ⟨v', rfl, hm, hb⟩
    exact ⟨v', by rw [hE]; rfl, Or.inl ⟨hE, hm⟩, hb⟩
  · obtain ⟨_, A, cap, rfl, _⟩ := hd
    refine (bytes_bad s h z A n cap w hE).mono ?_
    rintro e w' ⟨rfl, hb⟩
    exact ⟨_, rfl, Or.inr ⟨hE, rfl⟩, hb⟩

theorem blk_none {w : World} {E : Nat} (hE : E ≠ 0) (a b c n : Nat) {f : Nat → Nat} (hf : Bd f) : Blk w (.agg #[.int .i64 0, .int .i64 0, .int .i64 0, .slice none 0 0]) (pk E a : Nat) (pk E b : Nat) (pk E c : Nat) (pk E n) f := by
  rw [pk_no hE, pk_no hE, pk_no hE, pk_no hE]
  exact ⟨_, rfl, hf, none, 0, rfl, Nat.le_refl _, Nat.zero_le _, fun i hi => absurd hi (Nat.not_lt_zero i)⟩

theorem parse_any (v : Value) (n : Nat) (g : Nat → Nat) (w : World) (hx : Byts w v n g) :
    Calls Tryz.prog 120 #[v] w fun e w' => ∃ v', e = .returned (.tuple #[v', .int .i64 (Crc.parseE g n : Nat)]) ∧
      Blk w' v' (pk (Crc.parseE g n) (g 1) : Nat) (pk (Crc.parseE g n) (g 2) : Nat) (pk (Crc.parseE g n) (g 3 * 256 + g 4) : Nat) (pk (Crc.parseE g n) (n - 11)) (fun k => g (k + 7)) ∧ Below w.heap.size w w' := by
  have hbd := hx.bd
  have hbd7 : Bd (fun k => g (k + 7)) := fun k => hbd _
  by_cases hF : BadForm g n
  · have hE : Crc.parseE g n = 2 := Crc.parse_form hF
    refine (parse_bad v n g w hx hF).mono ?_
    rintro e w' ⟨rfl, hb⟩
    exact ⟨_, by rw [hE]; rfl, blk_none (by omega) _ _ _ _ hbd7, hb⟩
  · have hn : 12 ≤ n := by unfold BadForm at hF; omega
    obtain ⟨b, o, cap, rfl, hcap, _, _⟩ := hx.some (by omega)
    obtain ⟨e, rfl⟩ : ∃ e, n = e + 4 := ⟨n - 4, by omega⟩
    by_cases hs : Crc.sum g e = Crc.four g e
    · have hE : Crc.parseE g (e + 4) = Crc.wrongB (g 1) (g 2) (g 3 * 256 + g 4 : Nat) (e - 7) := by
        rw [Crc.parse_else hF (by rw [Nat.add_sub_cancel]; exact hs), show e + 4 - 11 = e - 7 by omega]
      refine (parse_rest b o (e + 4) e cap g w hx rfl (by omega) hF hs).mono ?_
      rintro r w' ⟨v', rfl, hv, hb⟩
      rw [← hE] at hv ⊢
      rw [show e + 4 - 11 = e - 7 by omega]
      rcases hv with ⟨h0, d, rfl, hd⟩ | ⟨h0, rfl⟩
      · rw [pk_ok h0, pk_ok h0, pk_ok h0, pk_ok h0]
        exact ⟨_, rfl, ⟨d, rfl, hd.byts hbd7⟩, hb⟩
      · exact ⟨_, rfl, blk_none h0 _ _ _ _ hbd7, hb⟩
    · have hE : Crc.parseE g (e + 4) = 9 := Crc.parse_sum hF (by rw [Nat.add_sub_cancel]; exact hs)
      refine (parse_bsum b o e cap g w hx hcap hF hs).mono ?_
      rintro r w' ⟨rfl, hb⟩
      exact ⟨_, by rw [hE]; rfl, blk_none (by omega) _ _ _ _ hbd7, hb⟩

/-- Of a right block: its data are the call's own. -/
theorem parse_made (v : Value) (n : Nat) (g : Nat → Nat) (w : World) (hx : Byts w v n g) (hE : Crc.parseE g n = 0) :
    Calls Tryz.prog 120 #[v] w fun e w' => ∃ d, e = .returned (.tuple #[.agg #[.int .i64 (g 1 : Nat), .int .i64 (g 2 : Nat), .int .i64 (g 3 * 256 + g 4 : Nat), d], .int .i64 0]) ∧ Made w' w.heap.size d (n - 11) (fun k => g (k + 7)) ∧ Below w.heap.size w w' := by
  have hF : ¬ BadForm g n := fun q => by
    rw [Crc.parse_form q] at hE
    cases hE
  have hn : 12 ≤ n := by unfold BadForm at hF; omega
  obtain ⟨b, o, cap, rfl, hcap, _, _⟩ := hx.some (by omega)
  obtain ⟨e, rfl⟩ : ∃ e, n = e + 4 := ⟨n - 4, by omega⟩
  have hs : Crc.sum g e = Crc.four g e := Classical.byContradiction fun q => by
    rw [Crc.parse_sum hF (by rw [Nat.add_sub_cancel]; exact q)] at hE
    cases hE
  have hW : Crc.wrongB (g 1) (g 2) (g 3 * 256 + g 4 : Nat) (e - 7) = 0 := by
    rw [Crc.parse_else hF (by rw [Nat.add_sub_cancel]; exact hs), show e + 4 - 11 = e - 7 by omega] at hE
    exact hE
  refine (parse_rest b o (e + 4) e cap g w hx rfl (by omega) hF hs).mono ?_
  rintro r w' ⟨v', rfl, hv, hb⟩
  rw [show e + 4 - 11 = e - 7 by omega]
  rcases hv with ⟨_, d, rfl, hd⟩ | ⟨h0, _⟩
  · exact ⟨d, by rw [hW]; rfl, hd, hb⟩
  · exact absurd hW h0

end Go.Proofs.YtmcaejooaaahdaaGreat
