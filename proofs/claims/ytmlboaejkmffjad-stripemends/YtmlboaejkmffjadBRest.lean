/-
  What block.Parse does with bytes of the right form and the right sum.
-/
import Derived.Test.YtmlboaejkmffjadBParse
namespace Go.Proofs.Ytmlboaejkmffjad
open Go.RowKit

theorem row4 {w : World} {g n B : Nat} {F : Nat → Value} {a b c d : Value} (h : RowC w g 5 n F) (hB : g ≠ B) : RowC ((((w.setCell ⟨B, 0, none⟩ a).setCell ⟨B, 1, none⟩ b).setCell ⟨B, 2, none⟩ c).setCell ⟨B, 3, none⟩ d) g 5 n F :=
  (((h.setOther hB _).setOther hB _).setOther hB _).setOther hB _
theorem keep_allocd {w0 wX : World} {b o x y : Nat} {ob : Obj} (h : wX.drew.cell? ⟨b, o + 1, none⟩ = some (.int .u8 (x : Nat)) ∧ wX.drew.cell? ⟨b, o + 2, none⟩ = some (.int .u8 (y : Nat)) ∧ Below w0.heap.size w0 wX.drew) :
    (wX.alloc ob).drew.cell? ⟨b, o + 1, none⟩ = some (.int .u8 (x : Nat)) ∧ (wX.alloc ob).drew.cell? ⟨b, o + 2, none⟩ = some (.int .u8 (y : Nat)) ∧ Below w0.heap.size w0 (wX.alloc ob).drew :=
  keep_alloc (wX := wX.drew) h

set_option maxHeartbeats 400000 in
theorem parse_rest (b o n e cap : Nat) (g : Nat → Nat) (w : World) (h : Byts w (.slice (some ⟨b, o, none⟩) n cap) n g) (hne4 : n = e + 4) (he8 : 8 ≤ e) (hx : ¬ BadForm g n) (hs : Crc.sum g e = Crc.four g e) :
    Calls Try.prog 69 #[.slice (some ⟨b, o, none⟩) n cap] w fun r w' => ∃ v', r = .returned (.tuple #[v', .int .i64 (Crc.wrongB (g 1) (g 2) (g 3 * 256 + g 4 : Nat) (e - 7) : Nat)]) ∧
      ((Crc.wrongB (g 1) (g 2) (g 3 * 256 + g 4 : Nat) (e - 7) = 0 ∧ ∃ d, v' = .agg #[.int .i64 (g 1 : Nat), .int .i64 (g 2 : Nat), .int .i64 (g 3 * 256 + g 4 : Nat), d] ∧ Made w' w.heap.size d (e - 7) (fun k => g (k + 7))) ∨ (Crc.wrongB (g 1) (g 2) (g 3 * 256 + g 4 : Nat) (e - 7) ≠ 0 ∧ v' = .agg #[.int .i64 0, .int .i64 0, .int .i64 0, .slice none 0 0])) ∧ Below w.heap.size w w' := by
  have hl := h.len
  have he6 : e ≤ 65542 := by
    have h5 := h.bd 5
    have h6 := h.bd 6
    unfold BadForm at hx
    omega
  have H1 := fun w' (hb' : Below w.heap.size w w') => wellFormed_blk _ n g w' (h.below hb')
  obtain ⟨b', o', cap', hv, hcap, hcm, hc⟩ := h.some (by omega)
  cases hv
  have hbd := h.bd
  have HC : Hid (∀ w', Below w.heap.size w w' → ∀ i, i < n → w'.cell? ⟨b, o + i, none⟩ = some (.int .u8 (g i : Nat))) := fun w' hb' i hi => (hb'.cell (p := ⟨b, o + i, none⟩) (World.block_lt_of_cell? _ _ (hc i (by omega)))).trans (hc i (by omega))
  have H2 := fun w' (hb' : Below w.heap.size w w') => sum_some b o e cap g w' hbd (by omega) (fun i hi => HC.out w' hb' i (by omega))
  have H3 := fun w' (hb' : Below w.heap.size w w') => sumAt_any b o n cap e g w' hbd hl hne4.symm (HC.out w' hb')
  have H4 := fun w' (hb' : Below w.heap.size w w') => numberAt_any b o n cap 3 g w' hbd hl (by omega) (HC.out w' hb')
  have H5 := fun C w' (hb' : Below w.heap.size w w') => clone_any b (o + 7) (e - 7) C (fun k => g (k + 7)) w' (by omega) (fun k hk => by rw [show o + 7 + k = o + (k + 7) by omega]; exact HC.out w' hb' (k + 7) (by omega))
  have hne : (((Crc.sum g e : Nat) : Int) != ((Crc.four g e : Nat) : Int)) = false := by rw [hs]; simp
  have HX : Hid (¬ BadForm g n) := hx
  have hec : (e : Int) ≤ (cap : Int) := by omega
  have hsub : (n : Int) - 4 = (e : Int) := by omega
  have a1 : (1 : Int) < (n : Int) := by omega
  have a2 : (2 : Int) < (n : Int) := by omega
  have n1 : 1 < n := by omega
  have n2 : 2 < n := by omega
  have a7 : (7 : Int) ≤ (e : Int) := by omega
  have n7 : 7 ≤ e := by omega
  have nec : e ≤ cap := by omega
  have hw1 : IntKind.i64.wrap ((g 1 : Nat) : Int) = (g 1 : Nat) := by have := hbd 1; rw [IntKind.wrap_i64]; omega
  have hw2 : IntKind.i64.wrap ((g 2 : Nat) : Int) = (g 2 : Nat) := by have := hbd 2; rw [IntKind.wrap_i64]; omega
  have h17 : 1 ≤ e - 7 := by omega
  have hbd7 : Bd (fun k => g (k + 7)) := fun k => hbd _
  have HW := fun (A : Option Addr) (C : Nat) w' => wrong_blk (g 1 : Nat) (g 2 : Nat) (g 3 * 256 + g 4 : Nat) A (e - 7) C w'
  clear hne4 he8 he6
  generalize Crc.sum g (e) = S at H2 hne
  generalize Crc.four g (e) = F at H3 hne
  generalize hq : g 3 * 256 + g 4 = q at H4 HW ⊢
  clear hx hs hc h hq
  go_enter Try.func69, Try.ntmps69
  go_wp2_with fail
  refine (H1 _ ((Below.refl _ _).alloc (Nat.le_refl _) _)).mono ?_
  rintro e1 w1 ⟨⟨y, rfl, hy⟩, b1⟩
  have bx := bt ((Below.refl _ w).alloc (Nat.le_refl _) _) b1
  have V1 := (varB_new w (.int .i64 0) (.int .i64 0) (.int .i64 0) (.slice none 0 0)).below b1
  have hyf : y = true := hy.2 HX.out
  subst hyf
  clear hy H1 b1
  go_wp2_with fail
  refine (H2 _ bx).mono ?_
  rintro e2 w2 ⟨rfl, rfl⟩
  go_wp2_with fail
  refine (H3 _ bx).mono ?_
  rintro e3 w3 ⟨rfl, b3⟩
  have V1 := V1.below b3
  have bx := bt bx b3
  clear H2 H3 b3
  go_wp2_with fail
  have T1 := HC.out w3 bx 1 n1
  have T2 := HC.out w3 bx 2 n2
  have TD : w3.drew.cell? ⟨b, o + 1, none⟩ = some (.int .u8 (g 1 : Nat)) ∧ w3.drew.cell? ⟨b, o + 2, none⟩ = some (.int .u8 (g 2 : Nat)) ∧ Below w3.heap.size w3 w3.drew := ⟨T1, T2, (Below.refl _ _).drew⟩
  have hbl : b < w3.heap.size := World.block_lt_of_cell? _ _ T1
  have H4 := fun w' (hS : w'.cell? ⟨b, o + 1, none⟩ = some (.int .u8 (g 1 : Nat)) ∧ w'.cell? ⟨b, o + 2, none⟩ = some (.int .u8 (g 2 : Nat)) ∧ Below w3.heap.size w3 w') => H4 w' (bt bx hS.2.2)
  have H5 := fun C w' (hS : w'.cell? ⟨b, o + 1, none⟩ = some (.int .u8 (g 1 : Nat)) ∧ w'.cell? ⟨b, o + 2, none⟩ = some (.int .u8 (g 2 : Nat)) ∧ Below w3.heap.size w3 w') => H5 C w' (bt bx hS.2.2)
  go_cut [5] from 23 to 37 (fun p5 wx => ∃ B d, p5 = .pointer (some ⟨B, 0, none⟩) ∧ VarB wx B (.int .i64 (g 1 : Nat)) (.int .i64 (g 2 : Nat)) (.int .i64 (q : Nat)) d ∧ w3.heap.size ≤ B ∧ Made wx w3.heap.size d (e - 7) (fun k => g (k + 7)) ∧ Below w3.heap.size w3 wx)
  case first =>
    go_region_held3 (fun w' => w'.cell? ⟨b, o + 1, none⟩ = some (.int .u8 (g 1 : Nat)) ∧ w'.cell? ⟨b, o + 2, none⟩ = some (.int .u8 (g 2 : Nat)) ∧ Below w3.heap.size w3 w')
      (first | with_reducible exact TD | with_reducible exact keep_call (by assumption) (by assumption) | with_reducible exact keep_alloc (by assumption) | with_reducible exact keep_allocd (by assumption) | with_reducible exact keep_set4 (by assumption) (by first | exact S5.2.2.size | exact S4.2.2.size | exact Nat.le_refl _) hbl)
      (first | (go_at_call 91; refine (H4 _ (by assumption)).mono ?_; rintro e4 w4 ⟨rfl, b4⟩; have S4 := keep_call b4 (by assumption); try (have V4 := (VarB.drew (varB_new w3 _ _ _ _)).below b4)) | (go_at_call 92; refine (H5 _ _ (by assumption)).mono ?_; rintro e5 w5 ⟨v5, rfl, Y5, b5⟩; have Z5 := Y5.made hbd7 h17; obtain ⟨g5, C5, rfl, hg5, hC1, hC2, R5⟩ := Z5; have S5 := keep_call b5 (by assumption); (first | (have V5 := V4.below b5; obtain ⟨c0, c1, c2, c3, fr⟩ := V5; have f0 := fr 0; have f1 := fr 1; have f2 := fr 2; have f3 := fr 3) | (have V5 := (varB_new w4 _ _ _ _).below b5; obtain ⟨c0, c1, c2, c3, fr⟩ := V5; have f0 := fr 0; have f1 := fr 1; have f2 := fr 2; have f3 := fr 3) | skip)))
    all_goals go_wp2_with fail
    all_goals go_meet
    all_goals first | exact ⟨w5.heap.size, _, rfl, varB_new w5 _ _ _ _, S5.2.2.size, ⟨g5, C5, rfl, Nat.le_trans S4.2.2.size hg5, hC1, hC2, R5.alloc _⟩, S5.2.2.alloc S5.2.2.size _⟩ | exact ⟨w4.heap.size, _, rfl, set4_at ⟨c0, c1, c2, c3, fr⟩, S4.2.2.size, ⟨g5, C5, rfl, Nat.le_trans S4.2.2.size (Nat.le_trans (by simp) hg5), hC1, hC2, row4 R5 (fun e => by simp at hg5; omega)⟩, set4_below S5.2.2 S4.2.2.size⟩ | exact ⟨w3.heap.size, _, rfl, set4_at ⟨c0, c1, c2, c3, fr⟩, Nat.le_refl _, ⟨g5, C5, rfl, Nat.le_trans S4.2.2.size hg5, hC1, hC2, row4 R5 (fun e => by have := World.block_lt_of_cell? _ _ V4.c0; simp at this; omega)⟩, set4_below S5.2.2 (Nat.le_refl _)⟩
  case rest =>
    obtain ⟨B, d, rfl, VB, hB, YD, bc⟩ := hcut
    have V2 := V1.below bc
    have by2 := bt bx bc
    obtain ⟨g5, C5, rfl, hg5, hC1, hC2, R5⟩ := YD
    have hw3 : w.heap.size < w3.heap.size := World.block_lt_of_cell? _ _ V1.c0
    have HW := HW (some ⟨g5, 0, none⟩) C5 wc
    obtain ⟨k0, k1, k2, k3, kf⟩ := VB
    have VB : Hid (VarB wc B (.int .i64 (g 1 : Nat)) (.int .i64 (g 2 : Nat)) (.int .i64 (q : Nat)) (.slice (some ⟨g5, 0, none⟩) (e - 7) C5)) := ⟨k0, k1, k2, k3, kf⟩
    clear kf H4 H5 T1 T2 TD bc V1 bx
    by_cases hE : Crc.wrongB (g 1) (g 2) (q : Nat) (e - 7) = 0
    · have HE : Hid (Crc.wrongB (g 1) (g 2) (q : Nat) (e - 7) = 0) := hE
      rw [hE] at HW
      clear hE
      go_wp2_with fail
      refine HW.mono ?_
      rintro e6 w6 ⟨rfl, b6⟩
      obtain ⟨c0, c1, c2, c3, fr⟩ := V2.below b6
      obtain ⟨m0, m1, m2, m3, _⟩ := VB.out.below b6
      have f0 := fr 0
      have f1 := fr 1
      have f2 := fr 2
      have f3 := fr 3
      have R6 := R5.below b6
      have bz := bt by2 b6
      clear HW V2 k0 k1 k2 k3 R5
      go_wp2_with fail
      refine bodyPost_ret (v := .tuple #[.agg #[.int .i64 (g 1 : Nat), .int .i64 (g 2 : Nat), .int .i64 (q : Nat), .slice (some ⟨g5, 0, none⟩) (e - 7) C5], .int .i64 0]) (by simp [results, Try.results69, go_sem, c0, c1, c2, c3]) rfl ⟨_, by rw [HE.out]; rfl, Or.inl ⟨HE.out, _, rfl, ?_⟩, ?_⟩
      · exact ⟨g5, C5, rfl, by omega, hC1, hC2, row4 R6 (by omega)⟩
      · exact (((bz.setCell (Nat.le_refl _) _).setCell (Nat.le_refl _) _).setCell (Nat.le_refl _) _).setCell (Nat.le_refl _) _
    · have HE : Hid (Crc.wrongB (g 1) (g 2) (q : Nat) (e - 7) ≠ 0) := hE
      have hx' : (((Crc.wrongB (g 1) (g 2) (q : Nat) (e - 7) : Nat) : Int) == 0) = false := by rw [beq_eq_false_iff_ne]; omega
      have hxn : (((Crc.wrongB (g 1) (g 2) (q : Nat) (e - 7) : Nat) : Int) != 0) = true := by rw [bne, hx']; rfl
      clear hE
      go_wp2_with fail
      refine HW.mono ?_
      rintro e6 w6 ⟨rfl, b6⟩
      obtain ⟨c0, c1, c2, c3, fr⟩ := V2.below b6
      have f0 := fr 0
      have f1 := fr 1
      have f2 := fr 2
      have f3 := fr 3
      have bz := bt by2 b6
      clear HW V2 k0 k1 k2 k3
      go_wp2_with fail
      refine bodyPost_ret (v := .tuple #[.agg #[.int .i64 0, .int .i64 0, .int .i64 0, .slice none 0 0], .int .i64 (Crc.wrongB (g 1) (g 2) (q : Nat) (e - 7) : Nat)]) (by simp [results, Try.results69, go_sem, c0, c1, c2, c3]) rfl ⟨_, rfl, Or.inr ⟨HE.out, rfl⟩, ?_⟩
      exact (((bz.setCell (Nat.le_refl _) _).setCell (Nat.le_refl _) _).setCell (Nat.le_refl _) _).setCell (Nat.le_refl _) _

end Go.Proofs.Ytmlboaejkmffjad
