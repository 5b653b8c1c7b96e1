/-
  Texts of the proof, joined: BRest, BBlk, BAny, SBase, Cnt, SHurt, ENamed, EWrong.
-/
import Derived.Test.YtleekmmoanlpfaaGreatZ11
import Derived.Test.YtleekmmoanlpfaaGreatZ08
import Derived.Test.YtleekmmoanlpfaaGreatZ09
import Derived.Test.YtleekmmoanlpfaaGreatZ10
import Derived.Test.YtleekmmoanlpfaaGreatZ01
import Derived.Lib.ConvBytes
namespace Go.Proofs.YtleekmmoanlpfaaGreat
open Go.RowKit

theorem row4 {w : World} {g n B : Nat} {F : Nat → Value} {a b c d : Value} (h : RowC w g 5 n F) (hB : g ≠ B) : RowC ((((w.setCell ⟨B, 0, none⟩ a).setCell ⟨B, 1, none⟩ b).setCell ⟨B, 2, none⟩ c).setCell ⟨B, 3, none⟩ d) g 5 n F :=
  (((h.setOther hB _).setOther hB _).setOther hB _).setOther hB _
theorem keep_allocd {w0 wX : World} {b o x y : Nat} {ob : Obj} (h : wX.drew.cell? ⟨b, o + 1, none⟩ = some (.int .u8 (x : Nat)) ∧ wX.drew.cell? ⟨b, o + 2, none⟩ = some (.int .u8 (y : Nat)) ∧ Below w0.heap.size w0 wX.drew) :
    (wX.alloc ob).drew.cell? ⟨b, o + 1, none⟩ = some (.int .u8 (x : Nat)) ∧ (wX.alloc ob).drew.cell? ⟨b, o + 2, none⟩ = some (.int .u8 (y : Nat)) ∧ Below w0.heap.size w0 (wX.alloc ob).drew :=
  keep_alloc (wX := wX.drew) h

set_option maxHeartbeats 400000 in
theorem parse_rest (b o n e cap : Nat) (g : Nat → Nat) (w : World) (h : Byts w (.slice (some ⟨b, o, none⟩) n cap) n g) (hne4 : n = e + 4) (he8 : 8 ≤ e) (hx : ¬ BadForm g n) (hs : Crc.sum g e = Crc.four g e) :
    Calls Tryz.prog 92 #[.slice (some ⟨b, o, none⟩) n cap] w fun r w' => ∃ v', r = .returned (.tuple #[v', .int .i64 (Crc.wrongB (g 1) (g 2) (g 3 * 256 + g 4 : Nat) (e - 7) : Nat)]) ∧
      ((Crc.wrongB (g 1) (g 2) (g 3 * 256 + g 4 : Nat) (e - 7) = 0 ∧ ∃ d, v' = .agg #[.int .i64 (g 1 : Nat), .int .i64 (g 2 : Nat), .int .i64 (g 3 * 256 + g 4 : Nat), d] ∧ Made w' w.heap.size d (e - 7) (fun k => g (k + 7))) ∨ (Crc.wrongB (g 1) (g 2) (g 3 * 256 + g 4 : Nat) (e - 7) ≠ 0 ∧ v' = .agg #[.int .i64 0, .int .i64 0, .int .i64 0, .slice none 0 0])) ∧ Below w.heap.size w w' := by
  have hl := h.len
  have he6 : e ≤ 65542 := by
    have h5 := h.bd 5
    have h6 := h.bd 6
    unfold BadForm at hx
    omega
  have H1 := fun w' (hb' : Below w.heap.size w w') => wellFormed_blk _ n g w' (h.below hb')
  obtain ⟨b', o', cap', hv, hcap, hcm, hc⟩ := h.some (by omega)
  cases hv
  have hbd := h.bd
  have HC : Hid (∀ w', Below w.heap.size w w' → ∀ i, i < n → w'.cell? ⟨b, o + i, none⟩ = some (.int .u8 (g i : Nat))) := fun w' hb' i hi => (hb'.cell (p := ⟨b, o + i, none⟩) (World.block_lt_of_cell? _ _ (hc i (by omega)))).trans (hc i (by omega))
  have H2 := fun w' (hb' : Below w.heap.size w w') => sum_some b o e cap g w' hbd (by omega) (fun i hi => HC.out w' hb' i (by omega))
  have H3 := fun w' (hb' : Below w.heap.size w w') => sumAt_any b o n cap e g w' hbd hl hne4.symm (HC.out w' hb')
  have H4 := fun w' (hb' : Below w.heap.size w w') => numberAt_any b o n cap 3 g w' hbd hl (by omega) (HC.out w' hb')
  have H5 := fun C w' (hb' : Below w.heap.size w w') => clone_any b (o + 7) (e - 7) C (fun k => g (k + 7)) w' (by omega) (fun k hk => by rw [show o + 7 + k = o + (k + 7) by omega]; exact HC.out w' hb' (k + 7) (by omega))
  have hne : (((Crc.sum g e : Nat) : Int) != ((Crc.four g e : Nat) : Int)) = false := by rw [hs]; simp
  have HX : Hid (¬ BadForm g n) := hx
  have hec : (e : Int) ≤ (cap : Int) := by omega
  have hsub : (n : Int) - 4 = (e : Int) := by omega
  have a1 : (1 : Int) < (n : Int) := by omega
  have a2 : (2 : Int) < (n : Int) := by omega
  have n1 : 1 < n := by omega
  have n2 : 2 < n := by omega
  have a7 : (7 : Int) ≤ (e : Int) := by omega
  have n7 : 7 ≤ e := by omega
  have nec : e ≤ cap := by omega
  have hw1 : IntKind.i64.wrap ((g 1 : Nat) : Int) = (g 1 : Nat) := by have := hbd 1; rw [IntKind.wrap_i64]; omega
  have hw2 : IntKind.i64.wrap ((g 2 : Nat) : Int) = (g 2 : Nat) := by have := hbd 2; rw [IntKind.wrap_i64]; omega
  have h17 : 1 ≤ e - 7 := by omega
  have hbd7 : Bd (fun k => g (k + 7)) := fun k => hbd _
  have HW := fun (A : Option Addr) (C : Nat) w' => wrong_blk (g 1 : Nat) (g 2 : Nat) (g 3 * 256 + g 4 : Nat) A (e - 7) C w'
  clear hne4 he8 he6
  generalize Crc.sum g (e) = S at H2 hne
  generalize Crc.four g (e) = F at H3 hne
  generalize hq : g 3 * 256 + g 4 = q at H4 HW ⊢
  clear hx hs hc h hq
  go_enter Tryz.func92, Tryz.ntmps92
  go_wp2_with fail
  refine (H1 _ ((Below.refl _ _).alloc (Nat.le_refl _) _)).mono ?_
  rintro e1 w1 ⟨⟨y, rfl, hy⟩, b1⟩
  have bx := bt ((Below.refl _ w).alloc (Nat.le_refl _) _) b1
  have V1 := (varB_new w (.int .i64 0) (.int .i64 0) (.int .i64 0) (.slice none 0 0)).below b1
  have hyf : y = true := hy.2 HX.out
  subst hyf
  clear hy H1 b1
  go_wp2_with fail
  refine (H2 _ bx).mono ?_
  rintro e2 w2 ⟨rfl, rfl⟩
  go_wp2_with fail
  refine (H3 _ bx).mono ?_
  rintro e3 w3 ⟨rfl, b3⟩
  have V1 := V1.below b3
  have bx := bt bx b3
  clear H2 H3 b3
  go_wp2_with fail
  have T1 := HC.out w3 bx 1 n1
  have T2 := HC.out w3 bx 2 n2
  have TD : w3.drew.cell? ⟨b, o + 1, none⟩ = some (.int .u8 (g 1 : Nat)) ∧ w3.drew.cell? ⟨b, o + 2, none⟩ = some (.int .u8 (g 2 : Nat)) ∧ Below w3.heap.size w3 w3.drew := ⟨T1, T2, (Below.refl _ _).drew⟩
  have hbl : b < w3.heap.size := World.block_lt_of_cell? _ _ T1
  have H4 := fun w' (hS : w'.cell? ⟨b, o + 1, none⟩ = some (.int .u8 (g 1 : Nat)) ∧ w'.cell? ⟨b, o + 2, none⟩ = some (.int .u8 (g 2 : Nat)) ∧ Below w3.heap.size w3 w') => H4 w' (bt bx hS.2.2)
  have H5 := fun C w' (hS : w'.cell? ⟨b, o + 1, none⟩ = some (.int .u8 (g 1 : Nat)) ∧ w'.cell? ⟨b, o + 2, none⟩ = some (.int .u8 (g 2 : Nat)) ∧ Below w3.heap.size w3 w') => H5 C w' (bt bx hS.2.2)
  go_cut [5] from 23 to 37 (fun p5 wx => ∃ B d, p5 = .pointer (some ⟨B, 0, none⟩) ∧ VarB wx B (.int .i64 (g 1 : Nat)) (.int .i64 (g 2 : Nat)) (.int .i64 (q : Nat)) d ∧ w3.heap.size ≤ B ∧ Made wx w3.heap.size d (e - 7) (fun k => g (k + 7)) ∧ Below w3.heap.size w3 wx)
  case first =>
    go_region_held3 (fun w' => w'.cell? ⟨b, o + 1, none⟩ = some (.int .u8 (g 1 : Nat)) ∧ w'.cell? ⟨b, o + 2, none⟩ = some (.int .u8 (g 2 : Nat)) ∧ Below w3.heap.size w3 w')
      (first | with_reducible exact TD | with_reducible exact keep_call (by assumption) (by assumption) | with_reducible exact keep_alloc (by assumption) | with_reducible exact keep_allocd (by assumption) | with_reducible exact keep_set4 (by assumption) (by first | exact S5.2.2.size | exact S4.2.2.size | exact Nat.le_refl _) hbl)
      (first | (go_at_call 116; refine (H4 _ (by assumption)).mono ?_; rintro e4 w4 ⟨rfl, b4⟩; have S4 := keep_call b4 (by assumption); try (have V4 := (VarB.drew (varB_new w3 _ _ _ _)).below b4)) | (go_at_call 117; refine (H5 _ _ (by assumption)).mono ?_; rintro e5 w5 ⟨v5, rfl, Y5, b5⟩; have Z5 := Y5.made hbd7 h17; obtain ⟨g5, C5, rfl, hg5, hC1, hC2, R5⟩ := Z5; have S5 := keep_call b5 (by assumption); (first | (have V5 := V4.below b5; obtain ⟨c0, c1, c2, c3, fr⟩ := V5; have f0 := fr 0; have f1 := fr 1; have f2 := fr 2; have f3 := fr 3) | (have V5 := (varB_new w4 _ _ _ _).below b5; obtain ⟨c0, c1, c2, c3, fr⟩ := V5; have f0 := fr 0; have f1 := fr 1; have f2 := fr 2; have f3 := fr 3) | skip)))
    all_goals go_wp2_with fail
    all_goals go_meet
    all_goals first | exact ⟨w5.heap.size, _, rfl, varB_new w5 _ _ _ _, S5.2.2.size, ⟨g5, C5, rfl, Nat.le_trans S4.2.2.size hg5, hC1, hC2, R5.alloc _⟩, S5.2.2.alloc S5.2.2.size _⟩ | exact ⟨w4.heap.size, _, rfl, set4_at ⟨c0, c1, c2, c3, fr⟩, S4.2.2.size, ⟨g5, C5, rfl, Nat.le_trans S4.2.2.size (Nat.le_trans (by simp) hg5), hC1, hC2, row4 R5 (fun e => by simp at hg5; omega)⟩, set4_below S5.2.2 S4.2.2.size⟩ | exact ⟨w3.heap.size, _, rfl, set4_at ⟨c0, c1, c2, c3, fr⟩, Nat.le_refl _, ⟨g5, C5, rfl, Nat.le_trans S4.2.2.size hg5, hC1, hC2, row4 R5 (fun e => by have := World.block_lt_of_cell? _ _ V4.c0; simp at this; omega)⟩, set4_below S5.2.2 (Nat.le_refl _)⟩
  case rest =>
    obtain ⟨B, d, rfl, VB, hB, YD, bc⟩ := hcut
    have V2 := V1.below bc
    have by2 := bt bx bc
    obtain ⟨g5, C5, rfl, hg5, hC1, hC2, R5⟩ := YD
    have hw3 : w.heap.size < w3.heap.size := World.block_lt_of_cell? _ _ V1.c0
    have HW := HW (some ⟨g5, 0, none⟩) C5 wc
    obtain ⟨k0, k1, k2, k3, kf⟩ := VB
    have VB : Hid (VarB wc B (.int .i64 (g 1 : Nat)) (.int .i64 (g 2 : Nat)) (.int .i64 (q : Nat)) (.slice (some ⟨g5, 0, none⟩) (e - 7) C5)) := ⟨k0, k1, k2, k3, kf⟩
    clear kf H4 H5 T1 T2 TD bc V1 bx
    by_cases hE : Crc.wrongB (g 1) (g 2) (q : Nat) (e - 7) = 0
    · have HE : Hid (Crc.wrongB (g 1) (g 2) (q : Nat) (e - 7) = 0) := hE
      rw [hE] at HW
      clear hE
      go_wp2_with fail
      refine HW.mono ?_
      rintro e6 w6 ⟨rfl, b6⟩
      obtain ⟨c0, c1, c2, c3, fr⟩ := V2.below b6
      obtain ⟨m0, m1, m2, m3, _⟩ := VB.out.below b6
      have f0 := fr 0
      have f1 := fr 1
      have f2 := fr 2
      have f3 := fr 3
      have R6 := R5.below b6
      have bz := bt by2 b6
      clear HW V2 k0 k1 k2 k3 R5
      go_wp2_with fail
      refine bodyPost_ret (v := .tuple #[.agg #[.int .i64 (g 1 : Nat), .int .i64 (g 2 : Nat), .int .i64 (q : Nat), .slice (some ⟨g5, 0, none⟩) (e - 7) C5], .int .i64 0]) (by simp [results, Tryz.results92, go_sem, c0, c1, c2, c3]) rfl ⟨_, by rw [HE.out]; rfl, Or.inl ⟨HE.out, _, rfl, ?_⟩, ?_⟩
      · exact ⟨g5, C5, rfl, by omega, hC1, hC2, row4 R6 (by omega)⟩
      · exact (((bz.setCell (Nat.le_refl _) _).setCell (Nat.le_refl _) _).setCell (Nat.le_refl _) _).setCell (Nat.le_refl _) _
    · have HE : Hid (Crc.wrongB (g 1) (g 2) (q : Nat) (e - 7) ≠ 0) := hE
      have hx' : (((Crc.wrongB (g 1) (g 2) (q : Nat) (e - 7) : Nat) : Int) == 0) = false := by rw [beq_eq_false_iff_ne]; omega
      have hxn : (((Crc.wrongB (g 1) (g 2) (q : Nat) (e - 7) : Nat) : Int) != 0) = true := by rw [bne, hx']; rfl
      clear hE
      go_wp2_with fail
      refine HW.mono ?_
      rintro e6 w6 ⟨rfl, b6⟩
      obtain ⟨c0, c1, c2, c3, fr⟩ := V2.below b6
      have f0 := fr 0
      have f1 := fr 1
      have f2 := fr 2
      have f3 := fr 3
      have bz := bt by2 b6
      clear HW V2 k0 k1 k2 k3
      go_wp2_with fail
      refine bodyPost_ret (v := .tuple #[.agg #[.int .i64 0, .int .i64 0, .int .i64 0, .slice none 0 0], .int .i64 (Crc.wrongB (g 1) (g 2) (q : Nat) (e - 7) : Nat)]) (by simp [results, Tryz.results92, go_sem, c0, c1, c2, c3]) rfl ⟨_, rfl, Or.inr ⟨HE.out, rfl⟩, ?_⟩
      exact (((bz.setCell (Nat.le_refl _) _).setCell (Nat.le_refl _) _).setCell (Nat.le_refl _) _).setCell (Nat.le_refl _) _

end Go.Proofs.YtleekmmoanlpfaaGreat

namespace Go.Proofs.YtleekmmoanlpfaaGreat
open Go.RowKit

/-- A block as a value: three numbers and n bytes. -/
def Blk (w : World) (v : Value) (s h z : Int) (n : Nat) (f : Nat → Nat) : Prop := ∃ d, v = .agg #[.int .i64 s, .int .i64 h, .int .i64 z, d] ∧ Byts w d n f
theorem Blk.below {w w' : World} {v : Value} {s h z : Int} {n : Nat} {f : Nat → Nat} (k : Blk w v s h z n f) (hb : Below w.heap.size w w') : Blk w' v s h z n f := by
  obtain ⟨d, hv, hd⟩ := k
  exact ⟨d, hv, hd.below hb⟩

end Go.Proofs.YtleekmmoanlpfaaGreat

namespace Go.Proofs.YtleekmmoanlpfaaGreat
open Go.RowKit

/-- Beside an error: nothing. -/
def pk (E x : Nat) : Nat := if E = 0 then x else 0
theorem pk_ok {E : Nat} (h : E = 0) (x : Nat) : pk E x = x := if_pos h
theorem pk_no {E : Nat} (h : E ≠ 0) (x : Nat) : pk E x = 0 := if_neg h

/-- What Bytes tells beside a number. -/
def BytesO (w : World) (N E : Nat) (v : Value) (m : Nat) (F : Nat → Nat) : Prop := (E = 0 ∧ Made w N v m F) ∨ (E ≠ 0 ∧ v = .slice none 0 0)
theorem BytesO.below {w w' : World} {N E m : Nat} {v : Value} {F : Nat → Nat} (h : BytesO w N E v m F) (hb : Below w.heap.size w w') : BytesO w' N E v m F := h.imp (fun h => ⟨h.1, h.2.below hb⟩) id
theorem BytesO.byts {w : World} {N E m : Nat} {v : Value} {F : Nat → Nat} (h : BytesO w N E v m F) (hF : E = 0 → Bd F) : Byts w v (pk E m) (fun k => pk E (F k)) := by
  rcases h with ⟨h, hm⟩ | ⟨h, rfl⟩
  · have hk := (hm.byts (hF h))
    have e : (fun k => pk E (F k)) = F := funext (fun k => pk_ok h _)
    rw [pk_ok h, e]
    exact hk
  · have e : (fun k => pk E (F k)) = fun _ => 0 := funext (fun k => pk_no h _)
    rw [pk_no h, e]
    exact Byts.nil w

/-- The bytes of a block. -/
def encI (s h z : Int) (n : Nat) (f : Nat → Nat) : Nat → Nat := Crc.enc s.toNat h.toNat z.toNat n f
theorem encI_bd {s h z : Int} {n : Nat} {f : Nat → Nat} (hf : Bd f) (e : Crc.wrongB s h z n = 0) : Bd (encI s h z n f) := by
  have := Crc.wrongB_inv e
  exact Crc.enc_bd (by omega) (by omega) (by omega) (by omega) hf

theorem bytes_any (v : Value) (s h z : Int) (n : Nat) (f : Nat → Nat) (w : World) (hx : Blk w v s h z n f) :
    Calls Tryz.prog 104 #[v] w fun e w' => ∃ v', e = .returned (.tuple #[v', .int .i64 (Crc.wrongB s h z n : Nat)]) ∧ BytesO w' w.heap.size (Crc.wrongB s h z n) v' (n + 11) (encI s h z n f) ∧ Below w.heap.size w w' := by
  obtain ⟨d, rfl, hd⟩ := hx
  by_cases hE : Crc.wrongB s h z n = 0
  · have hi := Crc.wrongB_inv hE
    obtain ⟨S, rfl⟩ := Int.eq_ofNat_of_zero_le hi.1.1
    obtain ⟨H, rfl⟩ := Int.eq_ofNat_of_zero_le hi.1.2.2.1
    obtain ⟨Z, rfl⟩ := Int.eq_ofNat_of_zero_le hi.1.2.2.2.2.1
    refine (bytes_ok S H Z d n f w hd hE).mono ?_
    rintro e w' ⟨v', rfl, hm, hb⟩
    exact ⟨v', by rw [hE]; rfl, Or.inl ⟨hE, hm⟩, hb⟩
  · obtain ⟨_, A, cap, rfl, _⟩ := hd
    refine (bytes_bad s h z A n cap w hE).mono ?_
    rintro e w' ⟨rfl, hb⟩
    exact ⟨_, rfl, Or.inr ⟨hE, rfl⟩, hb⟩

theorem blk_none {w : World} {E : Nat} (hE : E ≠ 0) (a b c n : Nat) {f : Nat → Nat} (hf : Bd f) : Blk w (.agg #[.int .i64 0, .int .i64 0, .int .i64 0, .slice none 0 0]) (pk E a : Nat) (pk E b : Nat) (pk E c : Nat) (pk E n) f := by
  rw [pk_no hE, pk_no hE, pk_no hE, pk_no hE]
  exact ⟨_, rfl, hf, none, 0, rfl, Nat.le_refl _, Nat.zero_le _, fun i hi => absurd hi (Nat.not_lt_zero i)⟩

theorem parse_any (v : Value) (n : Nat) (g : Nat → Nat) (w : World) (hx : Byts w v n g) :
    Calls Tryz.prog 92 #[v] w fun e w' => ∃ v', e = .returned (.tuple #[v', .int .i64 (Crc.parseE g n : Nat)]) ∧
      Blk w' v' (pk (Crc.parseE g n) (g 1) : Nat) (pk (Crc.parseE g n) (g 2) : Nat) (pk (Crc.parseE g n) (g 3 * 256 + g 4) : Nat) (pk (Crc.parseE g n) (n - 11)) (fun k => g (k + 7)) ∧ Below w.heap.size w w' := by
  have hbd := hx.bd
  have hbd7 : Bd (fun k => g (k + 7)) := fun k => hbd _
  by_cases hF : BadForm g n
  · have hE : Crc.parseE g n = 2 := Crc.parse_form hF
    refine (parse_bad v n g w hx hF).mono ?_
    rintro e w' ⟨rfl, hb⟩
    exact ⟨_, by rw [hE]; rfl, blk_none (by omega) _ _ _ _ hbd7, hb⟩
  · have hn : 12 ≤ n := by unfold BadForm at hF; omega
    obtain ⟨b, o, cap, rfl, hcap, _, _⟩ := hx.some (by omega)
    obtain ⟨e, rfl⟩ : ∃ e, n = e + 4 := ⟨n - 4, by omega⟩
    by_cases hs : Crc.sum g e = Crc.four g e
    · have hE : Crc.parseE g (e + 4) = Crc.wrongB (g 1) (g 2) (g 3 * 256 + g 4 : Nat) (e - 7) := by
        rw [Crc.parse_else hF (by rw [Nat.add_sub_cancel]; exact hs), show e + 4 - 11 = e - 7 by omega]
      refine (parse_rest b o (e + 4) e cap g w hx rfl (by omega) hF hs).mono ?_
      rintro r w' ⟨v', rfl, hv, hb⟩
      rw [← hE] at hv ⊢
      rw [show e + 4 - 11 = e - 7 by omega]
      rcases hv with ⟨h0, d, rfl, hd⟩ | ⟨h0, rfl⟩
      · rw [pk_ok h0, pk_ok h0, pk_ok h0, pk_ok h0]
        exact ⟨_, rfl, ⟨d, rfl, hd.byts hbd7⟩, hb⟩
      · exact ⟨_, rfl, blk_none h0 _ _ _ _ hbd7, hb⟩
    · have hE : Crc.parseE g (e + 4) = 9 := Crc.parse_sum hF (by rw [Nat.add_sub_cancel]; exact hs)
      refine (parse_bsum b o e cap g w hx hcap hF hs).mono ?_
      rintro r w' ⟨rfl, hb⟩
      exact ⟨_, by rw [hE]; rfl, blk_none (by omega) _ _ _ _ hbd7, hb⟩

/-- Of a right block: its data are the call's own. -/
theorem parse_made (v : Value) (n : Nat) (g : Nat → Nat) (w : World) (hx : Byts w v n g) (hE : Crc.parseE g n = 0) :
    Calls Tryz.prog 92 #[v] w fun e w' => ∃ d, e = .returned (.tuple #[.agg #[.int .i64 (g 1 : Nat), .int .i64 (g 2 : Nat), .int .i64 (g 3 * 256 + g 4 : Nat), d], .int .i64 0]) ∧ Made w' w.heap.size d (n - 11) (fun k => g (k + 7)) ∧ Below w.heap.size w w' := by
  have hF : ¬ BadForm g n := fun q => by
    rw [Crc.parse_form q] at hE
    cases hE
  have hn : 12 ≤ n := by unfold BadForm at hF; omega
  obtain ⟨b, o, cap, rfl, hcap, _, _⟩ := hx.some (by omega)
  obtain ⟨e, rfl⟩ : ∃ e, n = e + 4 := ⟨n - 4, by omega⟩
  have hs : Crc.sum g e = Crc.four g e := Classical.byContradiction fun q => by
    rw [Crc.parse_sum hF (by rw [Nat.add_sub_cancel]; exact q)] at hE
    cases hE
  have hW : Crc.wrongB (g 1) (g 2) (g 3 * 256 + g 4 : Nat) (e - 7) = 0 := by
    rw [Crc.parse_else hF (by rw [Nat.add_sub_cancel]; exact hs), show e + 4 - 11 = e - 7 by omega] at hE
    exact hE
  refine (parse_rest b o (e + 4) e cap g w hx rfl (by omega) hF hs).mono ?_
  rintro r w' ⟨v', rfl, hv, hb⟩
  rw [show e + 4 - 11 = e - 7 by omega]
  rcases hv with ⟨_, d, rfl, hd⟩ | ⟨h0, _⟩
  · exact ⟨d, by rw [hW]; rfl, hd, hb⟩
  · exact absurd hW h0

end Go.Proofs.YtleekmmoanlpfaaGreat

namespace Go.Proofs.YtleekmmoanlpfaaGreat
open Go.RowKit

/-- Numbers that the call has made, in a list. -/
def Nums (w : World) (N : Nat) (v : Value) (l : List Nat) : Prop := w.ownsRow N 3 1 v l.length (l.map fun x : Nat => Value.int .i64 (x : Int))
theorem Tryz.infoInt : (Tryz.prog.info? 3).map (fun i => (i.zero, i.size, i.bytes)) = some (some (.int .i64 0), 1, 8) := by kernel_rfl

theorem Nums.nil (w : World) (N : Nat) : Nums w N (.slice none 0 0) [] := World.ownsRow_nil w N _ 1
theorem Nums.below {w w' : World} {N : Nat} {v : Value} {l : List Nat} (h : Nums w N v l) (hb : Below w.heap.size w w') : Nums w' N v l := owns_below h hb
theorem Nums.one {w : World} {N : Nat} {v : Value} {l : List Nat} {x : Nat} (h : w.ownsRow N 3 1 v (l.length + 1) ((l.map fun x : Nat => Value.int .i64 (x : Int)) ++ [.int .i64 (x : Int)])) : Nums w N v (l ++ [x]) := by
  unfold Nums
  rw [List.length_append, List.map_append]
  exact h
theorem badL_len (s : Int) (L : Nat → Nat) (g : Nat → Nat → Nat) (k : Nat) : (Seg.badL s L g k).length ≤ k := by
  unfold Seg.badL
  exact Nat.le_trans (List.length_filter_le _ _) (by simp)

/-- Rows that are appended to are lists. -/
theorem Acc.lls {w : World} {N : Nat} {v : Value} {k c : Nat} {G K : Nat → Nat} {f : Nat → Nat → Nat} (h : Acc w N v k c G K f) (bd : Gf.Bd2 f) (hK : ∀ i, i < k → c ≤ K i ∧ K i ≤ maxLen) : Lls w v k (fun _ => c) f := by
  rcases h.own.2 with ⟨rfl, h0⟩ | ⟨g, cap, cur, rfl, _, _, h1, h2, _, _⟩
  · subst h0
    exact ⟨bd, none, 0, rfl, Nat.le_refl _, Nat.zero_le _, fun r hr => absurd hr (Nat.not_lt_zero r)⟩
  · refine ⟨bd, some ⟨g, 0, none⟩, cap, rfl, h1, h2, fun r hr => ⟨g, 0, .slice (some ⟨G r, 0, none⟩) c (K r), rfl, ?_, ?_⟩⟩
    · have := h.own.cells (g := g) rfl r (.slice (some ⟨G r, 0, none⟩) c (K r)) (by simp [hr])
      rw [WideShapes.add_plain] at this
      exact this
    · exact byts_of_row (bd r) (h.row r hr).2 (hK r hr).1 (hK r hr).2

theorem shard_data {d : Nat} {D : Nat → Nat → Nat} (hD : Gf.Bd2 D) {i : Nat} (hi : i < d) (k : Nat) : Gf.mm d (Gf.rowF d) D i k = D i k := by
  refine Eq.trans (Gf.mm_congr (a' := Gf.one) (b' := D) (fun j _ => if_pos hi) (fun _ _ => rfl)) (Gf.one_mm hD k hi)
theorem lls_congr {w : World} {v : Value} {n : Nat} {L : Nat → Nat} {f f' : Nat → Nat → Nat} (h : Lls w v n L f) (bd : Gf.Bd2 f') (e : ∀ i, i < n → ∀ k, k < L i → f i k = f' i k) : Lls w v n L f' := by
  obtain ⟨A, cap, hv, h1, h2, hr⟩ := h.lies
  refine ⟨bd, A, cap, hv, h1, h2, fun r hrn => ?_⟩
  obtain ⟨b, o, u, e1, e2, _, A', C', e3, e4, e5, e6⟩ := hr r hrn
  refine ⟨b, o, u, e1, e2, bd r, A', C', e3, e4, e5, fun k hk => ?_⟩
  obtain ⟨b', o', e7, e8⟩ := e6 k hk
  exact ⟨b', o', e7, by rw [← e r hrn k hk]; exact e8⟩

/-- What Lay tells beside a number. -/
def LayO (w : World) (E : Nat) (v : Value) (N m : Nat) (F : Nat → Nat → Nat) : Prop := (E = 0 ∧ Lls w v N (fun _ => m) F) ∨ (E ≠ 0 ∧ v = .slice none 0 0)
theorem layE_ok {L seg d s : Nat} (h1 : 1 ≤ d) (h2 : d ≤ 8) (h3 : s ≤ 4) (h4 : seg ≤ 39) (h5 : L ≤ 400 * d) : Seg.layE L seg d s = 0 := by
  unfold Seg.layE
  rw [if_neg (by omega), if_neg (by omega), if_neg (by omega)]

/-- What is told of blocks that are read. -/
def readE (seg : Int) (d : Int) (N : Nat) (L : Nat → Nat) (g : Nat → Nat → Nat) : Nat :=
  if wrongC d ((N : Int) - d) ≠ 0 then 5 else if ¬ Seg.sizes seg L g N then 8 else if mendE d N (Seg.rl seg L g) ≠ 0 then mendE d N (Seg.rl seg L g)
  else if d.toNat * Seg.rl seg L g (thr (Seg.rl seg L g) N 0) < Seg.rz g (thr (Seg.rl seg L g) N 0) then 8 else 0
/-- What is read. -/
def ReadO (w : World) (E : Nat) (v : Value) (n N : Nat) (L : Nat → Nat) (f : Nat → Nat → Nat) (z : Nat) : Prop :=
  (E = 0 ∧ ∃ r, Gf.Bd2 r ∧ Gf.Und n (fun p => Gf.rowF n (thr L N p)) r ∧ Byts w v z (fun k => Gf.mm n (Gf.rowF n) (Gf.mm n r (fun p => f (thr L N p))) (k / L (thr L N 0)) (k % L (thr L N 0)))) ∨ (E ≠ 0 ∧ v = .slice none 0 0)
def updV {α : Type} (Q : Nat → α) (k : Nat) (e : α) (i : Nat) : α := if i = k then e else Q i
theorem updV_at {α : Type} (Q : Nat → α) (k : Nat) (e : α) : updV Q k e k = e := if_pos rfl
theorem updV_ne {α : Type} (Q : Nat → α) {k i : Nat} (e : α) (h : i ≠ k) : updV Q k e i = Q i := if_neg h
theorem range_upd (U : Nat → Value) (k : Nat) (u : Value) : (List.range (k + 1)).map (updV U k u) = (List.range k).map U ++ [u] := by
  rw [List.range_succ, List.map_append]
  refine congr (congrArg _ ?_) ?_
  · refine List.map_congr_left (fun i hi => updV_ne _ _ ?_)
    have := List.mem_range.1 hi
    omega
  · show [updV U k u k] = [u]
    rw [updV_at]
theorem Byts.none (w : World) {f : Nat → Nat} (hf : Bd f) : Byts w (.slice Option.none 0 0) 0 f := ⟨hf, Option.none, 0, rfl, Nat.le_refl _, Nat.zero_le _, fun i hi => absurd hi (Nat.not_lt_zero i)⟩
theorem lls_own {w wr : World} {N n : Nat} {y : Value} {U : Nat → Value} {L : Nat → Nat} {f : Nat → Nat → Nat} (ho : wr.ownsRow N 97 1 y n ((List.range n).map U)) (hU : ∀ i, i < n → Byts w (U i) (L i) (f i)) (hb : Below w.heap.size w wr) (bd : Gf.Bd2 f) : Lls wr y n L f := by
  rcases ho.2 with ⟨rfl, h0⟩ | ⟨g, cap, cur, rfl, _, _, h1, h2, _, _⟩
  · subst h0
    exact ⟨bd, none, 0, rfl, Nat.le_refl _, Nat.zero_le _, fun r hr => absurd hr (Nat.not_lt_zero r)⟩
  · refine ⟨bd, some ⟨g, 0, none⟩, cap, rfl, h1, h2, fun r hr => ⟨g, 0, U r, rfl, ?_, (hU r hr).below hb⟩⟩
    have := ho.cells (g := g) rfl r (U r) (by simp [hr])
    rw [WideShapes.add_plain] at this
    exact this

/-- The bytes that are read. -/
def readF (n N : Nat) (L : Nat → Nat) (f r : Nat → Nat → Nat) (k : Nat) : Nat := Gf.mm n (Gf.rowF n) (Gf.mm n r (fun p => f (thr L N p))) (k / L (thr L N 0)) (k % L (thr L N 0))
end Go.Proofs.YtleekmmoanlpfaaGreat

namespace Go.Proofs.YtleekmmoanlpfaaGreat
open Go.RowKit

/-- How many of the first N are gone. -/
def cnt (M : Nat → Bool) : Nat → Nat
  | 0 => 0
  | N + 1 => cnt M N + if M N then 1 else 0
theorem cnt_none : (N : Nat) → cnt (fun _ => false) N = 0
  | 0 => rfl
  | N + 1 => by
    show cnt (fun _ => false) N + 0 = 0
    rw [cnt_none N]
/-- One more. -/
def lose (k : Nat) (M : Nat → Bool) (i : Nat) : Bool := if i = k then true else M i
theorem cnt_same {k : Nat} {M : Nat → Bool} : (N : Nat) → N ≤ k → cnt (lose k M) N = cnt M N
  | 0, _ => rfl
  | N + 1, h => by
    show cnt (lose k M) N + (if lose k M N then 1 else 0) = cnt M N + (if M N then 1 else 0)
    rw [cnt_same N (by omega), show lose k M N = M N from if_neg (by omega)]
theorem cnt_lose {k : Nat} {M : Nat → Bool} (hM : M k = false) : (N : Nat) → k < N → cnt (lose k M) N = cnt M N + 1
  | 0, h => absurd h (Nat.not_lt_zero k)
  | N + 1, h => by
    show cnt (lose k M) N + (if lose k M N then 1 else 0) = cnt M N + (if M N then 1 else 0) + 1
    by_cases e : N = k
    · subst e
      rw [cnt_same N (Nat.le_refl _), show lose N M N = true from if_pos rfl, hM]
      rfl
    · rw [cnt_lose hM N (by omega), show lose k M N = M N from if_neg e]
      omega
/-- How long each shard is, those that are gone having no bytes. -/
def goneL (M : Nat → Bool) (c i : Nat) : Nat := if M i then 0 else c
theorem there_gone {M : Nat → Bool} {c : Nat} (hc : 1 ≤ c) : (N : Nat) → (there (goneL M c) N).length + cnt M N = N
  | 0 => rfl
  | N + 1 => by
    have ih := there_gone (M := M) hc N
    show _ + (cnt M N + (if M N then 1 else 0)) = N + 1
    cases h : M N with
    | true =>
      have e : goneL M c N = 0 := if_pos h
      rw [there_no (by omega)]
      simp
      omega
    | false =>
      have e : goneL M c N = c := if_neg (by rw [h]; decide)
      rw [there_yes (by omega)]
      simp
      omega
end Go.Proofs.YtleekmmoanlpfaaGreat

namespace Go.Proofs.YtleekmmoanlpfaaGreat
open Go.RowKit

theorem there_congr {L L' : Nat → Nat} {N : Nat} (h : ∀ i, i < N → L i = L' i) : there L N = there L' N := by
  unfold there
  refine List.filter_congr (fun i hi => ?_)
  rw [h i (List.mem_range.1 hi)]
/-- Blocks of a segment: those that M strikes are not right, the others are as they were laid. -/
structure Hurt (r : Nat → Nat) (L seg d s : Nat) (M : Nat → Bool) (Ls : Nat → Nat) (g : Nat → Nat → Nat) : Prop where
  ok : ∀ i, i < d + s → M i = false → Ls i = Seg.layN L d + 11 ∧ g i = Seg.blk r L seg d i
  bad : ∀ i, i < d + s → M i = true → ¬ Seg.right seg Ls g i
section
variable {r : Nat → Nat} {L seg d s : Nat} {M : Nat → Bool} {Ls : Nat → Nat} {g : Nat → Nat → Nat}
theorem Hurt.right (h : Hurt r L seg d s M Ls g) (h1 : 1 ≤ d) (h2 : d ≤ 8) (h3 : s ≤ 4) (h4 : seg ≤ 39) (h5 : L ≤ 400 * d) {i : Nat} (hi : i < d + s) : Seg.right seg Ls g i ↔ M i = false := by
  constructor
  · intro q
    cases hM : M i with
    | false => rfl
    | true => exact absurd q (h.bad i hi hM)
  · intro q
    obtain ⟨e1, e2⟩ := h.ok i hi q
    obtain ⟨q1, q2, q3⟩ := Seg.blk_right (r := r) (L := L) (seg := seg) (d := d) (i := i) h1 h5 h4 (by omega) h2
    refine ⟨by rw [e1, e2]; exact q1, by rw [e2, q2], by rw [e2, q3]⟩
theorem Hurt.len (h : Hurt r L seg d s M Ls g) (h1 : 1 ≤ d) (h2 : d ≤ 8) (h3 : s ≤ 4) (h4 : seg ≤ 39) (h5 : L ≤ 400 * d) {i : Nat} (hi : i < d + s) : Seg.rl seg Ls g i = goneL M (Seg.layN L d) i := by
  have hr := h.right h1 h2 h3 h4 h5 hi
  unfold goneL
  cases hM : M i with
  | false =>
    rw [Seg.rl_yes (hr.2 hM), (h.ok i hi hM).1, Nat.add_sub_cancel]
    rfl
  | true =>
    rw [Seg.rl_no (h.bad i hi hM)]
    rfl
theorem Hurt.size (h : Hurt r L seg d s M Ls g) (h1 : 1 ≤ d) (h2 : d ≤ 8) (h3 : s ≤ 4) (h4 : seg ≤ 39) (h5 : L ≤ 400 * d) {i : Nat} (hi : i < d + s) (hr : Seg.right seg Ls g i) : Seg.rz g i = L := by
  obtain ⟨_, e2⟩ := h.ok i hi ((h.right h1 h2 h3 h4 h5 hi).1 hr)
  unfold Seg.rz
  rw [e2, Seg.blk_in (by omega), Crc.enc_hd (by omega), Crc.enc_hd (by omega)]
  show L / 256 * 256 + L % 256 = L
  omega
theorem Hurt.there (h : Hurt r L seg d s M Ls g) (h1 : 1 ≤ d) (h2 : d ≤ 8) (h3 : s ≤ 4) (h4 : seg ≤ 39) (h5 : L ≤ 400 * d) : (there (Seg.rl seg Ls g) (d + s)).length + cnt M (d + s) = d + s := by
  rw [there_congr (fun i hi => h.len h1 h2 h3 h4 h5 hi)]
  exact there_gone (Seg.layN_pos L d h1) _
/-- More are struck than there are spare ones: it is lost. -/
theorem read_lost (h : Hurt r L seg d s M Ls g) (h1 : 1 ≤ d) (h2 : d ≤ 8) (h3 : s ≤ 4) (h4 : seg ≤ 39) (h5 : L ≤ 400 * d) (hc : s < cnt M (d + s)) : readE seg d (d + s) Ls g = 10 := by
  have ht := h.there h1 h2 h3 h4 h5
  have hw : wrongC (d : Int) (((d + s : Nat) : Int) - (d : Int)) = 0 := wrongC_ok (by omega)
  have hm : mendE (d : Int) (d + s) (Seg.rl seg Ls g) = 10 := by
    unfold mendE
    rw [if_neg (fun q => q hw), if_pos (by rw [Int.toNat_natCast]; omega)]
  unfold readE
  rw [if_neg (fun q => q hw), if_neg (fun q => q (fun i hi j hj q1 q2 => by rw [h.size h1 h2 h3 h4 h5 hi q1, h.size h1 h2 h3 h4 h5 hj q2])), if_pos (by rw [hm]; decide), hm]
/-- No more are struck: it is read. -/
theorem read_kept (h : Hurt r L seg d s M Ls g) (h1 : 1 ≤ d) (h2 : d ≤ 8) (h3 : s ≤ 4) (h4 : seg ≤ 39) (h5 : L ≤ 400 * d) (hc : cnt M (d + s) ≤ s) (hr : ∀ k, r k < 256) :
    readE seg d (d + s) Ls g = 0 ∧ Seg.rz g (thr (Seg.rl seg Ls g) (d + s) 0) = L ∧ ∀ r', Gf.Bd2 r' → Gf.Und d (fun p => Gf.rowF d (thr (Seg.rl seg Ls g) (d + s) p)) r' → ∀ k, k < L → readF d (d + s) (Seg.rl seg Ls g) (Seg.rf g) r' k = r k := by
  have ht := h.there h1 h2 h3 h4 h5
  have hn1 := Seg.layN_pos L d h1
  have hn2 := Seg.layN_le h1 h5
  have hw : wrongC (d : Int) (((d + s : Nat) : Int) - (d : Int)) = 0 := wrongC_ok (by omega)
  have hp : ∀ p, p < (there (Seg.rl seg Ls g) (d + s)).length → thr (Seg.rl seg Ls g) (d + s) p < d + s ∧ Seg.right seg Ls g (thr (Seg.rl seg Ls g) (d + s) p) ∧ Seg.rl seg Ls g (thr (Seg.rl seg Ls g) (d + s) p) = Seg.layN L d := fun p hp => by
    obtain ⟨q1, q2⟩ := thr_mem hp
    have q3 := Seg.rl_right q2
    refine ⟨q1, q3, ?_⟩
    rw [Seg.rl_yes q3, (h.ok _ q1 ((h.right h1 h2 h3 h4 h5 q1).1 q3)).1, Nat.add_sub_cancel]
  obtain ⟨a1, a2, a3⟩ := hp 0 (by omega)
  have hm : mendE (d : Int) (d + s) (Seg.rl seg Ls g) = 0 := by
    unfold mendE
    rw [if_neg (fun q => q hw), if_neg (by rw [Int.toNat_natCast]; omega), if_pos ⟨by rw [a3]; exact hn2, fun p q => by rw [(hp p q).2.2, a3]⟩]
  have hz := h.size h1 h2 h3 h4 h5 a1 a2
  refine ⟨?_, hz, fun r' hb' hu k hk => ?_⟩
  · unfold readE
    rw [if_neg (fun q => q hw), if_neg (fun q => q (fun i hi j hj q1 q2 => by rw [h.size h1 h2 h3 h4 h5 hi q1, h.size h1 h2 h3 h4 h5 hj q2])), if_neg (fun q => q hm), hz, a3, Int.toNat_natCast, if_neg]
    have := Seg.layN_room L d h1
    rw [Nat.mul_comm] at this
    omega
  · unfold readF
    rw [a3]
    have hk1 : k / Seg.layN L d < d := by
      rw [Nat.div_lt_iff_lt_mul (by omega), Nat.mul_comm]
      exact Nat.lt_of_lt_of_le hk (Seg.layN_room L d h1)
    have hk2 : k % Seg.layN L d < Seg.layN L d := Nat.mod_lt _ (by omega)
    have hD := Seg.layD_bd hr L (Seg.layN L d)
    rw [mended (D := Seg.layD r L (Seg.layN L d)) hD hb' hu (fun p q => ?_), shard_data hD hk1, Seg.layD_in hk2]
    · rw [Nat.mul_comm, Nat.div_add_mod]
    · rw [Nat.mul_comm, Nat.div_add_mod]; exact hk
    · obtain ⟨b1, b2, _⟩ := hp p (by omega)
      obtain ⟨_, e2⟩ := h.ok _ b1 ((h.right h1 h2 h3 h4 h5 b1).1 b2)
      show g _ (k % Seg.layN L d + 7) = _
      rw [e2, Seg.blk_in (by omega), Crc.enc_hd (by omega)]
      rfl
end

end Go.Proofs.YtleekmmoanlpfaaGreat

namespace Go.Proofs.YtleekmmoanlpfaaGreat
open Go.RowKit

/-- A string's bytes. -/
def nb (s : ByteArray) : List Nat := s.data.toList.map fun b => b.toNat
def ch (s : ByteArray) (k : Nat) : Nat := (s.data.toList.getD k 0).toNat
theorem nb_len (s : ByteArray) : (nb s).length = s.size := by simp [nb]
theorem nb_get (s : ByteArray) {k : Nat} (h : k < s.size) : (nb s)[k]? = some (ch s k) := by
  have h' : k < s.data.toList.length := by simpa using h
  unfold nb ch
  generalize s.data.toList = l at h'
  simp [List.getD, h']
theorem nb_mem {s : ByteArray} {c : Nat} (h : c ∈ nb s) : ∃ k, k < s.size ∧ c = ch s k := by
  obtain ⟨k, hk, e⟩ := List.mem_iff_getElem.1 h
  rw [nb_len] at hk
  refine ⟨k, hk, ?_⟩
  have := nb_get s hk
  rw [List.getElem?_eq_getElem (by rw [nb_len]; exact hk), Option.some.injEq] at this
  rw [← e, this]
theorem not_named {s : ByteArray} {k : Nat} (hk : k < s.size) (h : ¬ Evt.letter (ch s k) = true) : ¬ Evt.named (nb s) := fun q =>
  h (List.all_eq_true.1 q.1 _ (List.mem_of_getElem? (nb_get s hk)))
theorem named_iff (s : ByteArray) (h : ∀ j, j < s.size → Evt.letter (ch s j) = true) : Evt.named (nb s) ↔ 1 ≤ s.size ∧ s.size ≤ 10 := by
  unfold Evt.named
  rw [nb_len]
  refine ⟨fun q => q.2, fun q => ⟨List.all_eq_true.2 (fun c hc => ?_), q⟩⟩
  obtain ⟨k, hk, rfl⟩ := nb_mem hc
  exact h k hk

end Go.Proofs.YtleekmmoanlpfaaGreat

namespace Go.Proofs.YtleekmmoanlpfaaGreat
open Go.RowKit

/-- The three cells of an event's variable. -/
structure VarE (w : World) (p : Nat) (a b c : Value) : Prop where
  c0 : w.cell? ⟨p, 0, none⟩ = some a
  c1 : w.cell? ⟨p, 1, none⟩ = some b
  c2 : w.cell? ⟨p, 2, none⟩ = some c
theorem varE_new (w : World) (a b c : Value) : VarE (w.alloc (.cells #[a, b, c] 32)) w.heap.size a b c := by
  have hr := World.rowIs_alloc w #[a, b, c] 32 (fun k => #[a, b, c].getD k a) (fun i hi => by simp only [Array.getElem?_eq_getElem hi, Array.getD, hi, dif_pos]; rfl)
  exact ⟨hr.cell (i := 0) (by simp), hr.cell (i := 1) (by simp), hr.cell (i := 2) (by simp)⟩
theorem VarE.below {w w' : World} {p : Nat} {a b c : Value} (h : VarE w p a b c) (hb : Below w.heap.size w w') : VarE w' p a b c := by
  have hp : p < w.heap.size := World.block_lt_of_cell? _ _ h.c0
  exact ⟨(hb.cell (p := ⟨p, 0, none⟩) hp).trans h.c0, (hb.cell (p := ⟨p, 1, none⟩) hp).trans h.c1, (hb.cell (p := ⟨p, 2, none⟩) hp).trans h.c2⟩

end Go.Proofs.YtleekmmoanlpfaaGreat
