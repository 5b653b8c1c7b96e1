/-
  Whatever view and events there are: events that come in two parts come to what all come to at once; beside an error no view is told. No condition.
-/
import Derived.Test.YtabolanakcmgfaeRows
import Derived.Test.YtabolanakcmgfaeOpenV
import Derived.Test.YtabolanakcmgfaeVAlive
import Derived.Test.YtabolanakcmgfaeVSame
import Derived.ProofKit
import Derived.OpenShut
import Derived.Carry
import Derived.Deep.Cut
import Derived.Deep.CutRange
namespace Go.Proofs.Ytabolanakcmgfae.viewParts
open Go.ChangeShapes Go.WideShapes Go.ChangeAt Go.RowKit
set_option linter.unusedVariables false

theorem own : ownKnob Try.prog.godebug = none := by kernel_rfl

theorem keepD {N : Nat} {p q : Value} {w0 wX w3 : World} (b3 : Below wX.heap.size wX w3) (h : wX.cell? ⟨N, 0, none⟩ = some p ∧ wX.cell? ⟨N, 1, none⟩ = some q ∧ Below w0.heap.size w0 wX) : w3.cell? ⟨N, 0, none⟩ = some p ∧ w3.cell? ⟨N, 1, none⟩ = some q ∧ Below w0.heap.size w0 w3 := by
  have p0 : N < wX.heap.size := World.block_lt_of_cell? _ _ h.1
  exact ⟨(b3.cell (p := ⟨N, 0, none⟩) p0).trans h.1, (b3.cell (p := ⟨N, 1, none⟩) p0).trans h.2.1, bt h.2.2 b3⟩
theorem keepDa {N : Nat} {p q : Value} {w0 wX : World} {o : Obj} (h : wX.cell? ⟨N, 0, none⟩ = some p ∧ wX.cell? ⟨N, 1, none⟩ = some q ∧ Below w0.heap.size w0 wX) : (wX.alloc o).cell? ⟨N, 0, none⟩ = some p ∧ (wX.alloc o).cell? ⟨N, 1, none⟩ = some q ∧ Below w0.heap.size w0 (wX.alloc o) :=
  keepD ((Below.refl _ _).alloc (Nat.le_refl _) o) h
theorem keepDd {N : Nat} {p q : Value} {w0 wX : World} {o : Obj} (h : wX.drew.cell? ⟨N, 0, none⟩ = some p ∧ wX.drew.cell? ⟨N, 1, none⟩ = some q ∧ Below w0.heap.size w0 wX.drew) : (wX.alloc o).drew.cell? ⟨N, 0, none⟩ = some p ∧ (wX.alloc o).drew.cell? ⟨N, 1, none⟩ = some q ∧ Below w0.heap.size w0 (wX.alloc o).drew :=
  keepD (w3 := (wX.alloc o).drew) (show Below wX.drew.heap.size wX.drew (wX.drew.alloc o) from (Below.refl wX.drew.heap.size wX.drew).alloc (Nat.le_refl _) o) h
theorem keepDs {N B : Nat} {p q a b : Value} {w0 wX : World} (h : wX.cell? ⟨N, 0, none⟩ = some p ∧ wX.cell? ⟨N, 1, none⟩ = some q ∧ Below w0.heap.size w0 wX) (hB : N < B) (hw : w0.heap.size ≤ B) : ((wX.setCell ⟨B, 0, none⟩ a).setCell ⟨B, 1, none⟩ b).cell? ⟨N, 0, none⟩ = some p ∧ ((wX.setCell ⟨B, 0, none⟩ a).setCell ⟨B, 1, none⟩ b).cell? ⟨N, 1, none⟩ = some q ∧ Below w0.heap.size w0 ((wX.setCell ⟨B, 0, none⟩ a).setCell ⟨B, 1, none⟩ b) := by
  obtain ⟨h0, h1, hb⟩ := h
  have hne : N ≠ B := by omega
  have hne2 : B ≠ N := by omega
  exact ⟨by go_simp, by go_simp, (hb.setCell hw _).setCell hw _⟩

theorem two_below {w0 wX : World} {F : Nat} (hb : Below w0.heap.size w0 wX) (hF : w0.heap.size ≤ F) (a b : Value) : Below w0.heap.size w0 ((wX.setCell ⟨F, 0, none⟩ a).setCell ⟨F, 1, none⟩ b) := (hb.setCell hF _).setCell hF _
/-- The view's variable is made behind the call. -/
theorem cutA {w2 w5 : World} {F : Nat} {t : TypeId} {a b c d p v : Value} {l : List Vw.Acc} (W5 : VarF w5 F a b) (A5 : Accs w5 v l) (P5 : Past (F + 1) v) (hb : Below w2.heap.size w2 w5) (hF : w2.heap.size ≤ F) {G : Nat} {r s : Value} (hG : VarF w5 G r s) (hGF : G ≠ F) :
    VarF (((w5.setCell ⟨F, 0, none⟩ c).setCell ⟨F, 1, none⟩ d).alloc (.cells #[p, v] t)) G r s ∧ VarF (((w5.setCell ⟨F, 0, none⟩ c).setCell ⟨F, 1, none⟩ d).alloc (.cells #[p, v] t)) w5.heap.size p v ∧ VarF (((w5.setCell ⟨F, 0, none⟩ c).setCell ⟨F, 1, none⟩ d).alloc (.cells #[p, v] t)) F c d ∧ Accs (((w5.setCell ⟨F, 0, none⟩ c).setCell ⟨F, 1, none⟩ d).alloc (.cells #[p, v] t)) v l ∧ Below w2.heap.size w2 (((w5.setCell ⟨F, 0, none⟩ c).setCell ⟨F, 1, none⟩ d).alloc (.cells #[p, v] t)) := by
  have hs : ((w5.setCell ⟨F, 0, none⟩ c).setCell ⟨F, 1, none⟩ d).heap.size = w5.heap.size := by rw [Deep.nblk_setCell, Deep.nblk_setCell]
  have ba : Below ((w5.setCell ⟨F, 0, none⟩ c).setCell ⟨F, 1, none⟩ d).heap.size ((w5.setCell ⟨F, 0, none⟩ c).setCell ⟨F, 1, none⟩ d) (((w5.setCell ⟨F, 0, none⟩ c).setCell ⟨F, 1, none⟩ d).alloc (.cells #[p, v] t)) := (Below.refl _ _).alloc (Nat.le_refl _) _
  have h1 := varF_new ((w5.setCell ⟨F, 0, none⟩ c).setCell ⟨F, 1, none⟩ d) t p v
  rw [hs] at h1
  exact ⟨(hG.off (off_two w5 F c d) hGF).below ba, h1, (W5.set2 c d).below ba, (A5.off (off_two w5 F c d) (fun g hg e => by have := P5 g hg; omega)).below ba, bt (two_below hb hF c d) ba⟩
/-- The view's variable is made ahead of the call. -/
theorem cutB {w2 w5 : World} {F B : Nat} {a b a' b' c d p v : Value} {l : List Vw.Acc} (W5 : VarF w5 F a b) (X5 : VarF w5 B a' b') (A5 : Accs w5 v l) (P5 : Past (B + 1) v) (hb : Below w2.heap.size w2 w5) (hF : w2.heap.size ≤ F) (hB : F < B) {G : Nat} {r s : Value} (hG : VarF w5 G r s) (hGF : G < F) :
    VarF ((((w5.setCell ⟨B, 0, none⟩ p).setCell ⟨B, 1, none⟩ v).setCell ⟨F, 0, none⟩ c).setCell ⟨F, 1, none⟩ d) G r s ∧ VarF ((((w5.setCell ⟨B, 0, none⟩ p).setCell ⟨B, 1, none⟩ v).setCell ⟨F, 0, none⟩ c).setCell ⟨F, 1, none⟩ d) B p v ∧ VarF ((((w5.setCell ⟨B, 0, none⟩ p).setCell ⟨B, 1, none⟩ v).setCell ⟨F, 0, none⟩ c).setCell ⟨F, 1, none⟩ d) F c d ∧ Accs ((((w5.setCell ⟨B, 0, none⟩ p).setCell ⟨B, 1, none⟩ v).setCell ⟨F, 0, none⟩ c).setCell ⟨F, 1, none⟩ d) v l ∧ Below w2.heap.size w2 ((((w5.setCell ⟨B, 0, none⟩ p).setCell ⟨B, 1, none⟩ v).setCell ⟨F, 0, none⟩ c).setCell ⟨F, 1, none⟩ d) :=
  ⟨(hG.off (off_two w5 B p v) (by omega)).off (off_two _ F c d) (by omega), (X5.set2 p v).off (off_two _ F c d) (by omega), (W5.off (off_two w5 B p v) (by omega)).set2 c d, (A5.off (off_two w5 B p v) (fun g hg e => by have := P5 g hg; omega)).off (off_two _ F c d) (fun g hg e => by have := P5 g hg; omega), two_below (two_below hb (by omega) p v) hF c d⟩

theorem twoA {w0 w7 : World} {t t' : TypeId} {p q c d v : Value} {l : List Vw.Acc} (A7 : Accs w7 v l) (hb : Below w0.heap.size w0 w7) :
    VarF ((w7.alloc (.cells #[p, q] t)).alloc (.cells #[c, d] t')) w7.heap.size p q ∧ VarF ((w7.alloc (.cells #[p, q] t)).alloc (.cells #[c, d] t')) (w7.heap.size + 1) c d ∧ Accs ((w7.alloc (.cells #[p, q] t)).alloc (.cells #[c, d] t')) v l ∧ Below w0.heap.size w0 ((w7.alloc (.cells #[p, q] t)).alloc (.cells #[c, d] t')) := by
  have b1 : Below w7.heap.size w7 (w7.alloc (.cells #[p, q] t)) := (Below.refl _ _).alloc (Nat.le_refl _) _
  have b2 : Below (w7.alloc (.cells #[p, q] t)).heap.size (w7.alloc (.cells #[p, q] t)) ((w7.alloc (.cells #[p, q] t)).alloc (.cells #[c, d] t')) := (Below.refl _ _).alloc (Nat.le_refl _) _
  have h := varF_new (w7.alloc (.cells #[p, q] t)) t' c d
  rw [show (w7.alloc (.cells #[p, q] t)).heap.size = w7.heap.size + 1 by simp] at h
  exact ⟨(varF_new w7 t p q).below b2, h, A7.below (bt b1 b2), bt hb (bt b1 b2)⟩
theorem oneA {w0 w7 : World} {B : Nat} {t : TypeId} {a b p q c d v : Value} {l : List Vw.Acc} (W7 : VarF w7 B a b) (A7 : Accs w7 v l) (P7 : Past (B + 1) v) (hb : Below w0.heap.size w0 w7) (hB : w0.heap.size ≤ B) :
    VarF (((w7.setCell ⟨B, 0, none⟩ p).setCell ⟨B, 1, none⟩ q).alloc (.cells #[c, d] t)) B p q ∧ VarF (((w7.setCell ⟨B, 0, none⟩ p).setCell ⟨B, 1, none⟩ q).alloc (.cells #[c, d] t)) w7.heap.size c d ∧ Accs (((w7.setCell ⟨B, 0, none⟩ p).setCell ⟨B, 1, none⟩ q).alloc (.cells #[c, d] t)) v l ∧ Below w0.heap.size w0 (((w7.setCell ⟨B, 0, none⟩ p).setCell ⟨B, 1, none⟩ q).alloc (.cells #[c, d] t)) := by
  have hs : ((w7.setCell ⟨B, 0, none⟩ p).setCell ⟨B, 1, none⟩ q).heap.size = w7.heap.size := by rw [Deep.nblk_setCell, Deep.nblk_setCell]
  have ba : Below ((w7.setCell ⟨B, 0, none⟩ p).setCell ⟨B, 1, none⟩ q).heap.size ((w7.setCell ⟨B, 0, none⟩ p).setCell ⟨B, 1, none⟩ q) (((w7.setCell ⟨B, 0, none⟩ p).setCell ⟨B, 1, none⟩ q).alloc (.cells #[c, d] t)) := (Below.refl _ _).alloc (Nat.le_refl _) _
  have h1 := varF_new ((w7.setCell ⟨B, 0, none⟩ p).setCell ⟨B, 1, none⟩ q) t c d
  rw [hs] at h1
  exact ⟨(W7.set2 p q).below ba, h1, (A7.off (off_two w7 B p q) (fun g hg e => by have := P7 g hg; omega)).below ba, bt (two_below hb hB p q) ba⟩
theorem noA {w0 w7 : World} {B G N : Nat} {a b a' b' p q c d v : Value} {l : List Vw.Acc} (W7 : VarF w7 B a b) (W8 : VarF w7 G a' b') (A7 : Accs w7 v l) (P7 : Past N v) (hb : Below w0.heap.size w0 w7) (hB : w0.heap.size ≤ B) (hG : w0.heap.size ≤ G) (hBG : B ≠ G) (hBN : B < N) (hGN : G < N) :
    VarF ((((w7.setCell ⟨B, 0, none⟩ p).setCell ⟨B, 1, none⟩ q).setCell ⟨G, 0, none⟩ c).setCell ⟨G, 1, none⟩ d) B p q ∧ VarF ((((w7.setCell ⟨B, 0, none⟩ p).setCell ⟨B, 1, none⟩ q).setCell ⟨G, 0, none⟩ c).setCell ⟨G, 1, none⟩ d) G c d ∧ Accs ((((w7.setCell ⟨B, 0, none⟩ p).setCell ⟨B, 1, none⟩ q).setCell ⟨G, 0, none⟩ c).setCell ⟨G, 1, none⟩ d) v l ∧ Below w0.heap.size w0 ((((w7.setCell ⟨B, 0, none⟩ p).setCell ⟨B, 1, none⟩ q).setCell ⟨G, 0, none⟩ c).setCell ⟨G, 1, none⟩ d) :=
  ⟨(W7.set2 p q).off (off_two _ G c d) hBG, (W8.off (off_two w7 B p q) (fun e => hBG e.symm)).set2 c d, (A7.off (off_two w7 B p q) (fun g hg e => by have := P7 g hg; omega)).off (off_two _ G c d) (fun g hg e => by have := P7 g hg; omega), two_below (two_below hb hB p q) hG c d⟩

set_option maxHeartbeats 2000000 in
set_option maxRecDepth 100000 in
theorem main (w : World) (u : Int) (vs : Value) (l : List Vw.Acc) (hl : Accs w vs l) (E : Option Addr) (D : Nat) (es : List Evt.Ev) (he : Evs w (.slice E es.length D) es) (k : Nat) (hk : k ≤ es.length) (hD : k ≤ D) (hD2 : D ≤ 9223372036854775807) (L2 : Value) (hs2 : ∀ w, (Instr.slice 34 (.slice E es.length D) (some (.int .i64 (k : Int))) none none).run Try.prog w = .ok L2 w) (h1 : Evs w (.slice E k D) (es.take k)) (h2 : Evs w L2 (es.drop k)) :
    Calls Try.prog 5 #[.agg #[.int .i64 u, vs], .slice E es.length D, .int .i64 (k : Int)] w fun e w' => e = .returned (.bool true) ∧ Below w.heap.size w w' := by
  obtain ⟨A, C, rfl⟩ := hl.shape
  have bA : Below w.heap.size w (w.alloc (.cells #[.int .i64 u, .slice A l.length C] 33)) := (Below.refl _ _).alloc (Nat.le_refl _) _
  have VV := varF_new w 33 (.int .i64 u) (.slice A l.length C)
  have HL : Hid (∀ w', Below w.heap.size w w' → Accs w' (.slice A l.length C) l) := fun w' hb => hl.below hb
  have HFO := fun w' (hb : Below w.heap.size w w') => fold_any u (.slice A l.length C) _ l es w' (HL.out w' hb) (he.below hb)
  have HF1 := fun w' (hb : Below w.heap.size w w') => fold_any u (.slice A l.length C) _ l _ w' (HL.out w' hb) (h1.below hb)
  have HF2 := fun u' v' l' w' (hb : Below w.heap.size w w') (ha : Accs w' v' l') => fold_any u' v' _ l' _ w' ha (h2.below hb)
  have HP : Hid ((Vw.fold u l es).1.1 = 0 → (Vw.fold u l (es.take k)).1.1 = 0 ∧ (Vw.fold (Vw.fold u l (es.take k)).2.1 (Vw.fold u l (es.take k)).2.2 (es.drop k)).1.1 = 0 ∧ (Vw.fold (Vw.fold u l (es.take k)).2.1 (Vw.fold u l (es.take k)).2.2 (es.drop k)).2 = (Vw.fold u l es).2) := fun h => Vw.fold_parts h k
  clear hl he h1 h2
  go_enter Try.func5, Try.ntmps5
  go_wp2_with fail
  generalize w.alloc (.cells #[.int .i64 u, .slice A l.length C] 33) = w0 at bA VV ⊢
  refine (alive7_any w0).mono ?_
  rintro e w1 ⟨rfl, b1⟩
  have VV := VV.below b1
  have b1 := bt bA b1
  have v0 := VV.c0
  have v1 := VV.c1
  clear bA
  go_wp2_with fail
  refine (HFO _ b1).mono ?_
  rintro e w2 ⟨⟨v2, rfl, A2, _⟩, b2⟩
  have VV := VV.below b2
  have hw2 : w.heap.size < w2.heap.size := World.block_lt_of_cell? _ _ VV.c0
  have b2 := bt b1 b2
  have HNO : Hid ((Vw.fold u l es).1.1 ≠ 0 → (Vw.fold u l es).2 = (0, [])) := fun h => Vw.fold_none h
  unfold faultV
  generalize (Vw.fold u l es).1.1 = x at HP HNO ⊢
  generalize (Vw.fold u l es).1.2 = y
  obtain ⟨⟨u2, l2⟩, h22⟩ : ∃ q, (Vw.fold u l es).2 = q := ⟨_, rfl⟩
  rw [h22] at HP HNO A2 ⊢
  have A2 : Accs w2 v2 l2 := A2
  clear h22
  obtain ⟨Q2, C2, rfl⟩ := A2.shape
  clear HFO v0 v1 b1
  have h1 : Below w2.heap.size w2 (w2.alloc (.cells #[.int .i64 u2, .slice Q2 l2.length C2] 33)) := (Below.refl _ _).alloc (Nat.le_refl _) _
  have h2 := h1.alloc h1.size (.cells #[.int .i64 (x : Nat), .int .i64 (y : Nat)] 36)
  have hb2 : Below (w2.alloc (.cells #[.int .i64 u2, .slice Q2 l2.length C2] 33)).heap.size (w2.alloc (.cells #[.int .i64 u2, .slice Q2 l2.length C2] 33)) ((w2.alloc (.cells #[.int .i64 u2, .slice Q2 l2.length C2] 33)).alloc (.cells #[.int .i64 (x : Nat), .int .i64 (y : Nat)] 36)) := (Below.refl _ _).alloc (Nat.le_refl _) _
  have VA := (varF_new w2 33 (.int .i64 u2) (.slice Q2 l2.length C2)).below hb2
  have VF := varF_new (w2.alloc (.cells #[.int .i64 u2, .slice Q2 l2.length C2] 33)) 36 (.int .i64 (x : Nat)) (.int .i64 (y : Nat))
  have z1 : (w2.alloc (.cells #[.int .i64 u2, .slice Q2 l2.length C2] 33)).heap.size = w2.heap.size + 1 := by simp
  rw [z1] at VF
  have VV := VV.below h2
  have A3 := A2.below h2
  have b3 := bt b2 h2
  have bz2 := h2
  clear h1 h2 hb2 z1
  by_cases hx : x = 0
  case neg =>
    have hxe : ((x : Int) != 0) = true := by rw [bne_iff_ne]; omega
    have h0 := HNO.out hx
    cases h0
    have HSM := sameView_any 0 0 _ _ [] [] _ A3 (Accs.nil _)
    have d0 := VA.c0
    have d1 := VA.c1
    clear hx
    go_wp2_with fail
    refine HSM.mono ?_
    rintro e w4 ⟨⟨y4, rfl, hy4⟩, b4⟩
    obtain rfl : y4 = true := hy4.2 (by simp)
    clear HSM hy4
    go_wp2_with fail
    go_ret
    exact ⟨rfl, bt b3 b4⟩
  have hxe : ((x : Int) != 0) = false := by rw [bne_eq_false_iff_eq]; omega
  have hP := HP.out hx
  clear HP hx HNO
  obtain ⟨⟨⟨x1, y1⟩, u3, l3⟩, hr1⟩ : ∃ q, Vw.fold u l (es.take k) = q := ⟨_, rfl⟩
  rw [hr1] at hP HF1
  obtain ⟨p1, hP⟩ := hP
  have p1 : x1 = 0 := p1
  subst p1
  have HF2 := HF2 u3
  have hP : (Vw.fold u3 l3 (es.drop k)).1.1 = 0 ∧ (Vw.fold u3 l3 (es.drop k)).2 = (u2, l2) := hP
  have HF2 := fun v' w' hb ha => HF2 v' l3 w' hb ha
  obtain ⟨⟨⟨x4, y4⟩, u4, l4⟩, hr2⟩ : ∃ q, Vw.fold u3 l3 (es.drop k) = q := ⟨_, rfl⟩
  rw [hr2] at hP HF2
  obtain ⟨p2, p3⟩ := hP
  have p2 : x4 = 0 := p2
  subst p2
  have p3 : (u4, l4) = (u2, l2) := p3
  cases p3
  clear hr1 hr2
  unfold FoO faultV at HF1 HF2
  have hkk : ¬ (k : Int) < 0 := by omega
  have hkn : ¬ (es.length : Int) < (k : Int) := by omega
  have hkD : (k : Int) ≤ (D : Int) := by omega
  have hd1 : decide ((k : Int) < 0) = false := decide_eq_false (by omega)
  have hd3 : decide (es.length < k) = false := decide_eq_false (by omega)
  have hd2 : decide ((es.length : Int) < (k : Int)) = false := decide_eq_false (by omega)
  go_wp2_with fail
  generalize (w2.alloc (.cells #[.int .i64 u2, .slice Q2 l2.length C2] 33)).alloc (.cells #[.int .i64 (x : Nat), .int .i64 (y : Nat)] 36) = wz at VV VA VF A3 b3 bz2 ⊢
  have hz1 : w2.heap.size + 1 < wz.heap.size := World.block_lt_of_cell? _ _ VF.c0
  have TD : wz.drew.cell? ⟨w.heap.size, 0, none⟩ = some (.int .i64 u) ∧ wz.drew.cell? ⟨w.heap.size, 1, none⟩ = some (.slice A l.length C) ∧ Below w.heap.size w wz.drew := ⟨VV.c0, VV.c1, b3.drew⟩
  have HF1 := fun w' (hS : w'.cell? ⟨w.heap.size, 0, none⟩ = some (.int .i64 u) ∧ w'.cell? ⟨w.heap.size, 1, none⟩ = some (.slice A l.length C) ∧ Below w.heap.size w w') => HF1 w' hS.2.2
  have VFd : VarF wz.drew (w2.heap.size + 1) (.int .i64 (x : Nat)) (.int .i64 (y : Nat)) := VF.below (Below.refl _ _).drew
  have VFa : ∀ o, VarF (wz.alloc o).drew (w2.heap.size + 1) (.int .i64 (x : Nat)) (.int .i64 (y : Nat)) := fun o => (VF.below ((Below.refl _ _).alloc (Nat.le_refl _) o)).below (Below.refl _ _).drew
  have VAd : VarF wz.drew w2.heap.size (.int .i64 u2) (.slice Q2 l2.length C2) := VA.below (Below.refl _ _).drew
  have VAa : ∀ o, VarF (wz.alloc o).drew w2.heap.size (.int .i64 u2) (.slice Q2 l2.length C2) := fun o => (VA.below ((Below.refl _ _).alloc (Nat.le_refl _) o)).below (Below.refl _ _).drew
  have VBa : VarF (wz.alloc (.cells #[.int .i64 0, .slice none 0 0] 33)).drew wz.heap.size (.int .i64 0) (.slice none 0 0) := (varF_new wz 33 _ _).below (Below.refl _ _).drew
  have bzd : Below w2.heap.size w2 wz.drew := bz2.drew
  have bza : ∀ o, Below w2.heap.size w2 (wz.alloc o).drew := fun o => (bt bz2 ((Below.refl _ _).alloc (Nat.le_refl _) o)).drew
  have hsa : ∀ o, (wz.alloc o).drew.heap.size = wz.heap.size + 1 := fun o => by simp [World.drew]
  have hsd : wz.drew.heap.size = wz.heap.size := rfl
  have hnz : w2.heap.size + 1 ≠ wz.heap.size := by omega
  have hnz2 : wz.heap.size ≠ w2.heap.size + 1 := by omega
  go_cut [9] from 34 to 41 (fun p9 wx => ∃ (B : Nat) (v3 : Value), p9 = .pointer (some ⟨B, 0, none⟩) ∧ VarF wx B (.int .i64 u3) v3 ∧ VarF wx (w2.heap.size + 1) (.int .i64 0) (.int .i64 (y1 : Nat)) ∧ VarF wx w2.heap.size (.int .i64 u2) (.slice Q2 l2.length C2) ∧ Accs wx v3 l3 ∧ Below w2.heap.size w2 wx)
  case first =>
    go_region_held3 (fun w' => w'.cell? ⟨w.heap.size, 0, none⟩ = some (.int .i64 u) ∧ w'.cell? ⟨w.heap.size, 1, none⟩ = some (.slice A l.length C) ∧ Below w.heap.size w w')
      (first | with_reducible exact TD | with_reducible assumption | with_reducible exact keepD (by assumption) (by assumption) | with_reducible exact keepDa (by assumption) | with_reducible exact keepDd (by assumption) | with_reducible exact keepDs (by assumption) (by omega) (by omega) | with_reducible exact keepDa (keepDs (by assumption) (by omega) (by omega)))
      (first | (go_at_call 21; refine (HF1 _ (by assumption)).mono ?_; rintro e5 w5 ⟨⟨v5, rfl, A5, P5⟩, b5⟩; obtain ⟨Q5, C5, rfl⟩ := A5.shape; have S5 := keepD b5 (by assumption); have hz5 : w.heap.size < w5.heap.size := World.block_lt_of_cell? _ _ S5.1; (first | (have V5 := VFd.below b5; have bb5 := bt bzd b5; have VA5 := VAd.below b5) | (have V5 := (VFa _).below b5; have bb5 := bt (bza _) b5; have VA5 := (VAa _).below b5)); have hn5 : w2.heap.size + 1 < w5.heap.size := World.block_lt_of_cell? _ _ V5.c0; have hn6 : w2.heap.size + 1 ≠ w5.heap.size := (by omega); have hn7 : w5.heap.size ≠ w2.heap.size + 1 := (by omega); have W5 := V5; obtain ⟨c0, c1, fr⟩ := V5; have f0 := fr 0; have f1 := fr 1; try (have X5 := VBa.below b5; obtain ⟨m0, m1, mr⟩ := X5; have g0 := mr 0; have g1 := mr 1; have X5 := VBa.below b5)))
    all_goals go_wp2_with fail
    all_goals go_meet
    · obtain ⟨q0, q1, q2, q3, q4⟩ := cutA (t := 33) (c := .int .i64 0) (d := .int .i64 (y1 : Nat)) (p := .int .i64 u3) W5 A5 (P5.mono (by rw [hsd]; omega)) bb5 (by omega) VA5 (by omega)
      exact ⟨w5.heap.size, _, rfl, q1, q2, q0, q3, q4⟩
    · obtain ⟨q0, q1, q2, q3, q4⟩ := cutB (c := .int .i64 0) (d := .int .i64 (y1 : Nat)) (p := .int .i64 u3) W5 X5 A5 (P5.mono (by rw [hsa]; omega)) bb5 (by omega) (by omega) VA5 (by omega)
      exact ⟨wz.heap.size, _, rfl, q1, q2, q0, q3, q4⟩
  case rest =>
    obtain ⟨B, v3, rfl, VB, VF3, VA3, A6, bc⟩ := hcut
    obtain ⟨Q6, C6, rfl⟩ := A6.shape
    have bw : Below w.heap.size w wc := bt b2 bc
    clear TD HF1 VFd VFa VBa VAd VAa bzd bza hsa hsd hnz hnz2 hz1 VV VA VF A3 b3 bz2 hxe hd1 hd2 hd3 hkk hkn hkD
    go_wp2_with fail
    have TD : wc.drew.cell? ⟨B, 0, none⟩ = some (.int .i64 u3) ∧ wc.drew.cell? ⟨B, 1, none⟩ = some (.slice Q6 l3.length C6) ∧ Below wc.heap.size wc wc.drew := ⟨VB.c0, VB.c1, (Below.refl _ _).drew⟩
    have hBc : B < wc.heap.size := World.block_lt_of_cell? _ _ VB.c0
    have HF2 := fun w' (hS : w'.cell? ⟨B, 0, none⟩ = some (.int .i64 u3) ∧ w'.cell? ⟨B, 1, none⟩ = some (.slice Q6 l3.length C6) ∧ Below wc.heap.size wc w') => HF2 _ w' (bt bw hS.2.2) (A6.below hS.2.2)
    have bD : ∀ X : World, Below X.heap.size X X.drew := fun X => (Below.refl _ _).drew
    have bAl : ∀ (X : World) (o : Obj), Below X.heap.size X (X.alloc o) := fun X o => (Below.refl _ _).alloc (Nat.le_refl _) o
    have sz1 : ∀ o, (wc.alloc o).heap.size = wc.heap.size + 1 := fun o => by simp
    have E1 : VarF (wc.alloc (.cells #[.int .i64 0, .slice none 0 0] 33)).drew wc.heap.size (.int .i64 0) (.slice none 0 0) := (varF_new wc 33 _ _).below (bD _)
    have E2 : VarF (wc.alloc (.cells #[.int .i64 0, .int .i64 0] 36)).drew wc.heap.size (.int .i64 0) (.int .i64 0) := (varF_new wc 36 _ _).below (bD _)
    have E3 : VarF ((wc.alloc (.cells #[.int .i64 0, .slice none 0 0] 33)).alloc (.cells #[.int .i64 0, .int .i64 0] 36)).drew wc.heap.size (.int .i64 0) (.slice none 0 0) := ((varF_new wc 33 _ _).below (bAl _ _)).below (bD _)
    have E4 : VarF ((wc.alloc (.cells #[.int .i64 0, .slice none 0 0] 33)).alloc (.cells #[.int .i64 0, .int .i64 0] 36)).drew (wc.heap.size + 1) (.int .i64 0) (.int .i64 0) := by
      have h := (varF_new (wc.alloc (.cells #[.int .i64 0, .slice none 0 0] 33)) 36 (.int .i64 0) (.int .i64 0)).below (bD _)
      rw [sz1] at h
      exact h
    have E5 : VarF ((wc.alloc (.cells #[.int .i64 0, .int .i64 0] 36)).alloc (.cells #[.int .i64 0, .slice none 0 0] 33)).drew wc.heap.size (.int .i64 0) (.int .i64 0) := ((varF_new wc 36 _ _).below (bAl _ _)).below (bD _)
    have E6 : VarF ((wc.alloc (.cells #[.int .i64 0, .int .i64 0] 36)).alloc (.cells #[.int .i64 0, .slice none 0 0] 33)).drew (wc.heap.size + 1) (.int .i64 0) (.slice none 0 0) := by
      have h := (varF_new (wc.alloc (.cells #[.int .i64 0, .int .i64 0] 36)) 33 (.int .i64 0) (.slice none 0 0)).below (bD _)
      rw [sz1] at h
      exact h
    go_cut [10, 11] from 42 to 49 (fun p10 p11 wx => ∃ (X G : Nat) (v7 : Value), p10 = .pointer (some ⟨X, 0, none⟩) ∧ p11 = .pointer (some ⟨G, 0, none⟩) ∧ VarF wx X (.int .i64 u2) v7 ∧ VarF wx G (.int .i64 0) (.int .i64 (y4 : Nat)) ∧ Accs wx v7 l2 ∧ Below wc.heap.size wc wx)
    case first =>
      go_region_held3 (fun w' => w'.cell? ⟨B, 0, none⟩ = some (.int .i64 u3) ∧ w'.cell? ⟨B, 1, none⟩ = some (.slice Q6 l3.length C6) ∧ Below wc.heap.size wc w')
        (first | with_reducible exact TD | with_reducible assumption | with_reducible exact keepD (by assumption) (by assumption) | with_reducible exact keepDa (by assumption) | with_reducible exact keepDd (by assumption) | with_reducible exact keepDs (by assumption) (by omega) (by omega) | with_reducible exact keepDa (keepDa (by assumption)) | with_reducible exact keepDa (keepDs (by assumption) (by omega) (by omega)) | with_reducible exact keepDs (keepDs (by assumption) (by omega) (by omega)) (by omega) (by omega))
        (first | (go_at_call 21; refine (HF2 _ (by assumption)).mono ?_; rintro e7 w7 ⟨⟨v7, rfl, A7, P7⟩, b7⟩; obtain ⟨Q7, C7, rfl⟩ := A7.shape; have S7 := keepD b7 (by assumption); have h7 : wc.heap.size ≤ w7.heap.size := S7.2.2.size; (first | (have Y := E3.below b7; obtain ⟨Y0, Y1, Yr⟩ := Y; have Yf := Yr 0; have Yg := Yr 1; have Yl : _ < w7.heap.size := World.block_lt_of_cell? _ _ Y0; have Yn := Nat.ne_of_lt Yl; have Ym := Nat.ne_of_gt Yl; have Y := E3.below b7; have Z := E4.below b7; obtain ⟨Z0, Z1, Zr⟩ := Z; have Zf := Zr 0; have Zg := Zr 1; have Zl : _ < w7.heap.size := World.block_lt_of_cell? _ _ Z0; have Zn := Nat.ne_of_lt Zl; have Zm := Nat.ne_of_gt Zl; have Z := E4.below b7) | (have Y := E6.below b7; obtain ⟨Y0, Y1, Yr⟩ := Y; have Yf := Yr 0; have Yg := Yr 1; have Yl : _ < w7.heap.size := World.block_lt_of_cell? _ _ Y0; have Yn := Nat.ne_of_lt Yl; have Ym := Nat.ne_of_gt Yl; have Y := E6.below b7; have Z := E5.below b7; obtain ⟨Z0, Z1, Zr⟩ := Z; have Zf := Zr 0; have Zg := Zr 1; have Zl : _ < w7.heap.size := World.block_lt_of_cell? _ _ Z0; have Zn := Nat.ne_of_lt Zl; have Zm := Nat.ne_of_gt Zl; have Z := E5.below b7) | (have Y := E1.below b7; obtain ⟨Y0, Y1, Yr⟩ := Y; have Yf := Yr 0; have Yg := Yr 1; have Yl : _ < w7.heap.size := World.block_lt_of_cell? _ _ Y0; have Yn := Nat.ne_of_lt Yl; have Ym := Nat.ne_of_gt Yl; have Y := E1.below b7) | (have Z := E2.below b7; obtain ⟨Z0, Z1, Zr⟩ := Z; have Zf := Zr 0; have Zg := Zr 1; have Zl : _ < w7.heap.size := World.block_lt_of_cell? _ _ Z0; have Zn := Nat.ne_of_lt Zl; have Zm := Nat.ne_of_gt Zl; have Z := E2.below b7) | skip)))
      all_goals go_wp2_with fail
      all_goals go_meet
      · obtain ⟨q1, q2, q3, q4⟩ := twoA (t := 33) (t' := 36) (p := .int .i64 u2) (q := .slice Q7 l2.length C7) (c := .int .i64 0) (d := .int .i64 (y4 : Nat)) A7 S7.2.2
        exact ⟨_, _, _, rfl, rfl, q1, q2, q3, q4⟩
      · obtain ⟨q1, q2, q3, q4⟩ := twoA (t := 36) (t' := 33) (p := .int .i64 0) (q := .int .i64 (y4 : Nat)) (c := .int .i64 u2) (d := .slice Q7 l2.length C7) A7 S7.2.2
        exact ⟨_, _, _, rfl, rfl, q2, q1, q3, q4⟩
      · obtain ⟨q1, q2, q3, q4⟩ := oneA (t := 36) (p := .int .i64 u2) (q := .slice Q7 l2.length C7) (c := .int .i64 0) (d := .int .i64 (y4 : Nat)) Y A7 (P7.mono (by simp [World.drew] <;> omega)) S7.2.2 (Nat.le_refl _)
        exact ⟨_, _, _, rfl, rfl, q1, q2, q3, q4⟩
      · obtain ⟨q1, q2, q3, q4⟩ := noA (p := .int .i64 u2) (q := .slice Q7 l2.length C7) (c := .int .i64 0) (d := .int .i64 (y4 : Nat)) Y Z A7 P7 S7.2.2 (Nat.le_refl _) (by omega) (by omega) (by simp [World.drew] <;> omega) (by simp [World.drew] <;> omega)
        exact ⟨_, _, _, rfl, rfl, q1, q2, q3, q4⟩
      · obtain ⟨q1, q2, q3, q4⟩ := oneA (t := 33) (p := .int .i64 0) (q := .int .i64 (y4 : Nat)) (c := .int .i64 u2) (d := .slice Q7 l2.length C7) Z A7 (P7.mono (by simp [World.drew] <;> omega)) S7.2.2 (Nat.le_refl _)
        exact ⟨_, _, _, rfl, rfl, q2, q1, q3, q4⟩
      · obtain ⟨q1, q2, q3, q4⟩ := noA (p := .int .i64 u2) (q := .slice Q7 l2.length C7) (c := .int .i64 0) (d := .int .i64 (y4 : Nat)) Y Z A7 P7 S7.2.2 (by omega) (Nat.le_refl _) (by omega) (by simp [World.drew] <;> omega) (by simp [World.drew] <;> omega)
        exact ⟨_, _, _, rfl, rfl, q1, q2, q3, q4⟩
    case rest =>
      obtain ⟨X, G, v7, rfl, rfl, VX, VG, A8, bq⟩ := hcut
      obtain ⟨wd, rfl⟩ : ∃ y, y = wc := ⟨wc, rfl⟩
      obtain ⟨Q8, C8, rfl⟩ := A8.shape
      have VF4 := VF3.below bq
      have VA4 := VA3.below bq
      have AL := A2.below (bt bc bq)
      have HSM := sameView_any u2 u2 _ _ l2 l2 _ AL A8
      have bz := bt bw bq
      obtain ⟨f0, _, _⟩ := VF4
      obtain ⟨g0, _, _⟩ := VG
      obtain ⟨a0, a1, _⟩ := VA4
      obtain ⟨x0, x1, _⟩ := VX
      clear AL A8 VF3 VA3 VB A6 TD HF2
      go_wp2_with fail
      refine HSM.mono ?_
      rintro e w9 ⟨⟨y9, rfl, hy9⟩, b9⟩
      obtain rfl : y9 = true := hy9.2 (by simp)
      clear HSM hy9
      go_wp2_with fail
      go_ret
      exact ⟨rfl, bt bz b9⟩

theorem evs_cut {w : World} {E : Option Addr} {n D k : Nat} {es : List Evt.Ev} (h : Evs w (.slice E n D) es) (hk : k ≤ es.length) : Evs w (.slice E k D) (es.take k) := by
  obtain ⟨_, _, hv, h1, h2, h3⟩ := h
  cases hv
  refine ⟨E, D, ?_, ?_, h2, fun i e he => h3 i e ?_⟩
  · rw [List.length_take, Nat.min_eq_left hk]
  · rw [List.length_take]
    omega
  · rw [List.getElem?_take] at he
    split at he
    · exact he
    · cases he
theorem evs_rest {w : World} {E : Option Addr} {n D k : Nat} {es : List Evt.Ev} (h : Evs w (.slice E n D) es) (hk : k ≤ es.length) : Evs w (.slice (if D = k then E else E.map (fun a => a.add (k * 3))) (es.length - k) (D - k)) (es.drop k) := by
  obtain ⟨_, _, hv, h1, h2, h3⟩ := h
  cases hv
  refine ⟨_, D - k, by rw [List.length_drop], by rw [List.length_drop]; omega, by omega, fun i e he => ?_⟩
  rw [List.getElem?_drop] at he
  have hl := (List.getElem?_eq_some_iff.1 he).1
  obtain ⟨b, o, rfl, hin⟩ := h3 (k + i) e he
  refine ⟨b, o + k * 3, ?_, ?_⟩
  · rw [if_neg (by omega)]
    show some ((⟨b, o, none⟩ : Addr).add (k * 3)) = _
    rw [WideShapes.add_plain]
  · rw [show o + k * 3 + i * 3 = o + (k + i) * 3 by omega]
    exact hin
theorem slice_rest (E : Option Addr) (n D k : Nat) (hk : k ≤ n) (w : World) : (Instr.slice 34 (.slice E n D) (some (.int .i64 (k : Int))) none none).run Try.prog w = .ok (.slice (if D = k then E else E.map (fun a => a.add (k * 3))) (n - k) (D - k)) w := by
  have u := Try.underlying34
  have z := Try.sizeOf42
  simp [Instr.slice, Instr.sliceBounds, Instr.sliceBound, run_underlying u, z, asIntOf, hk]

set_option maxHeartbeats 1000000 in
set_option maxRecDepth 100000 in
theorem out (w : World) (u : Int) (vs : Value) (l : List Vw.Acc) (hl : Accs w vs l) (ve : Value) (es : List Evt.Ev) (he : Evs w ve es) (at_ : Int) (ho : at_ < 0 ∨ (es.length : Int) < at_) :
    Calls Try.prog 5 #[.agg #[.int .i64 u, vs], ve, .int .i64 at_] w fun e w' => e = .returned (.bool true) ∧ Below w.heap.size w w' := by
  obtain ⟨A, C, rfl⟩ := hl.shape
  have bA : Below w.heap.size w (w.alloc (.cells #[.int .i64 u, .slice A l.length C] 33)) := (Below.refl _ _).alloc (Nat.le_refl _) _
  have VV := varF_new w 33 (.int .i64 u) (.slice A l.length C)
  have HFO := fun w' (hb : Below w.heap.size w w') => fold_any u (.slice A l.length C) _ l es w' (hl.below hb) (he.below hb)
  obtain ⟨E, D, rfl⟩ := he.shape
  clear hl he
  go_enter Try.func5, Try.ntmps5
  go_wp2_with fail
  generalize w.alloc (.cells #[.int .i64 u, .slice A l.length C] 33) = w0 at bA VV ⊢
  refine (alive7_any w0).mono ?_
  rintro e w1 ⟨rfl, b1⟩
  have VV := VV.below b1
  have b1 := bt bA b1
  have v0 := VV.c0
  have v1 := VV.c1
  clear bA
  go_wp2_with fail
  refine (HFO _ b1).mono ?_
  rintro e w2 ⟨⟨v2, rfl, A2, _⟩, b2⟩
  have b2 := bt b1 b2
  have HNO : Hid ((Vw.fold u l es).1.1 ≠ 0 → (Vw.fold u l es).2 = (0, [])) := fun h => Vw.fold_none h
  unfold faultV
  generalize (Vw.fold u l es).1.1 = x at HNO ⊢
  generalize (Vw.fold u l es).1.2 = y
  obtain ⟨⟨u2, l2⟩, h22⟩ : ∃ q, (Vw.fold u l es).2 = q := ⟨_, rfl⟩
  rw [h22] at HNO A2 ⊢
  have A2 : Accs w2 v2 l2 := A2
  clear h22
  obtain ⟨Q2, C2, rfl⟩ := A2.shape
  clear HFO v0 v1 b1
  have h1 : Below w2.heap.size w2 (w2.alloc (.cells #[.int .i64 u2, .slice Q2 l2.length C2] 33)) := (Below.refl _ _).alloc (Nat.le_refl _) _
  have h2 := h1.alloc h1.size (.cells #[.int .i64 (x : Nat), .int .i64 (y : Nat)] 36)
  have hb2 : Below (w2.alloc (.cells #[.int .i64 u2, .slice Q2 l2.length C2] 33)).heap.size (w2.alloc (.cells #[.int .i64 u2, .slice Q2 l2.length C2] 33)) ((w2.alloc (.cells #[.int .i64 u2, .slice Q2 l2.length C2] 33)).alloc (.cells #[.int .i64 (x : Nat), .int .i64 (y : Nat)] 36)) := (Below.refl _ _).alloc (Nat.le_refl _) _
  have VA := (varF_new w2 33 (.int .i64 u2) (.slice Q2 l2.length C2)).below hb2
  have A3 := A2.below h2
  have b3 := bt b2 h2
  clear h1 h2 hb2
  by_cases hx : x = 0
  case neg =>
    have hxe : ((x : Int) != 0) = true := by rw [bne_iff_ne]; omega
    have h0 := HNO.out hx
    cases h0
    have HSM := sameView_any 0 0 _ _ [] [] _ A3 (Accs.nil _)
    have d0 := VA.c0
    have d1 := VA.c1
    clear hx
    go_wp2_with fail
    refine HSM.mono ?_
    rintro e w4 ⟨⟨y4, rfl, hy4⟩, b4⟩
    obtain rfl : y4 = true := hy4.2 (by simp)
    clear HSM hy4
    go_wp2_with fail
    go_ret
    exact ⟨rfl, bt b3 b4⟩
  have hxe : ((x : Int) != 0) = false := by rw [bne_eq_false_iff_eq]; omega
  clear hx HNO
  by_cases hneg : at_ < 0
  · clear ho
    go_wp2_with fail
    go_ret
    exact ⟨rfl, b3⟩
  · have hgt : (es.length : Int) < at_ := by omega
    clear ho
    go_wp2_with fail
    go_ret
    exact ⟨rfl, b3⟩

theorem walk (w : World) (u : Int) (vs : Value) (l : List Vw.Acc) (hl : Accs w vs l) (ve : Value) (es : List Evt.Ev) (he : Evs w ve es) (at_ : Int) (_ : (Lit.int .i64 at_).wf = true) :
    Calls Try.prog 5 #[.agg #[.int .i64 u, vs], ve, .int .i64 at_] w fun e w' => e = .returned (.bool true) ∧ Below w.heap.size w w' := by
  by_cases ho : at_ < 0 ∨ (es.length : Int) < at_
  · exact out w u vs l hl ve es he at_ ho
  · obtain ⟨k, rfl⟩ : ∃ k : Nat, at_ = (k : Int) := ⟨at_.toNat, by omega⟩
    have he' := he
    obtain ⟨E, D, rfl, h1, h2, _⟩ := he'
    unfold maxLen at h2
    exact main w u vs l hl E D es he k (by omega) (by omega) (by omega) _ (slice_rest E es.length D k (by omega)) (evs_cut he (by omega)) (evs_rest he (by omega))

set_option maxRecDepth 100000 in
theorem lifted (os : Os) (started : os.Started) (H : Type) (enc : TypeId × Value → H) :
    ReturnsInHanded {} Try.checked os 5 .any (Rows.viewPartsSpec.pre6 enc Try.prog Try.f5 Rows.viewPartsRow.domain false) (Rows.viewPartsSpec.post enc Try.prog Try.f5 false true false false) := by
  refine returnsInHanded_of_change (C := Try.checked) own started (by kernel_rfl) Try.func5
    (ChangeSpec.witness6 (enc := enc) (C := Try.checked) false ⟨#[], #[.agg #[.int .i64 0, .slice none 0 0], .slice none 0 0, .int .i64 0], []⟩ 8 (by kernel_rfl) (by kernel_rfl) (by kernel_rfl) (by kernel_rfl)) ?_
  intro W base args ds gs before hval0 hW hcnd _
  have hval : ∀ (j : Nat) t v, Try.f5.params[j]? = some t → args[j]? = some v → Value.okWide Try.prog W .any base t v := hval0
  have hW' := hW
  obtain ⟨p, q, hA0, hV, rfl, hfz, hnd⟩ := hW
  have hA : DataW.TrodAll enc Try.prog W 0 (fun _ => true) true Try.f5.params.toList args.toList ds p := hA0
  rw [Try.params5] at hA hval
  obtain ⟨v0, vs0, d0, ds0, p0, q0, hargs, rfl, rfl, h0, r0⟩ := trodAll_cons hA
  obtain ⟨v1, vs1, d1, ds1, p1, q1, rfl, rfl, rfl, h1, r1⟩ := trodAll_cons r0
  obtain ⟨v2, vs2, d2, ds2, p2, q2, rfl, rfl, rfl, h2, r2⟩ := trodAll_cons r1
  obtain ⟨rfl, rfl, rfl⟩ := trodAll_nil r2
  obtain rfl : args = #[v0, v1, v2] := by cases args; simp_all
  obtain ⟨rfl, rfl⟩ := trodVars_none hV
  have k0 := h0
  have lt0 : ∀ x ∈ p0, x.block < W.heap.size := by obtain ⟨m, hm⟩ := k0; exact DataW.trod_lt m _ _ _ hm
  obtain ⟨s0, t0, z0, rfl, g0⟩ := view_of (hval 0 33 v0 rfl rfl) h0
  obtain ⟨a1, l1, c1, rfl⟩ := okWide_slice Try.underlying34 (hval 1 34 v1 rfl rfl)
  have k1 := h1
  have lt1 : ∀ x ∈ p1, x.block < W.heap.size := by obtain ⟨m, hm⟩ := k1; exact DataW.trod_lt m _ _ _ hm
  obtain ⟨f1, g1⟩ := evs_of h1
  obtain ⟨a2, rfl, rfl, rfl, g2⟩ := open_int Try.underlying3 (hval 2 3 v2 rfl rfl) h2
  clear hA0 hval0
  refine (walk W s0 t0 z0 g0 _ _ g1 a2 g2).mono fun e W' ⟨he, bel⟩ => ?_
  subst he
  exact ⟨_, rfl, _, _, _, [], _, [], hW', trodAll_mk1 (shut_bool Try.underlying4 _), (trodAll_cons_mk (Below.trod Try.laidOut (by kernel_rfl) (of_decide_eq_true (by kernel_rfl)) k0 bel lt0) (trodAll_cons_mk (Below.trod Try.laidOut (by kernel_rfl) (of_decide_eq_true (by kernel_rfl)) k1 bel lt1) (trodAll_cons_mk (shut_int Try.underlying3 g2) trodAll_mk0))), rfl, bel.frame _, fun h => by cases h⟩

theorem over : Rows.viewPartsRow.holds Try.pinned (OpenSpec.ofChange Rows.viewPartsSpec) :=
  OpenClaim.holds_of_wide 5 Try.f5 rfl rfl rfl rfl rfl rfl rfl ⟨rfl, rfl, rfl, rfl, rfl⟩ rfl rfl rfl rfl rfl (by kernel_rfl) Try.func5 (by kernel_rfl)
    (of_decide_eq_true (by kernel_rfl)) (by unfold Func.isWrapper; first | (rw [if_pos (by decide +kernel)]; kernel_rfl) | (rw [if_neg (by decide +kernel)]; exact ⟨rfl, rfl⟩))
    (fun os started H enc _ => lifted os started H enc)
end Go.Proofs.Ytabolanakcmgfae.viewParts

namespace Go.Proofs.Ytabolanakcmgfae
theorem viewParts_holds : Rows.ViewPartsSaid := viewParts.over
#print axioms viewParts_holds
end Go.Proofs.Ytabolanakcmgfae
