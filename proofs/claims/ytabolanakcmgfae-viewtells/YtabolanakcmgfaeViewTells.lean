/-
  Whatever view, events and stream there are: what view's Wrong, Get, May, Apply and Fold tell is what the document's own text tells. No condition.
-/
import Derived.Test.YtabolanakcmgfaeRows
import Derived.Test.YtabolanakcmgfaeOpenV
import Derived.Test.YtabolanakcmgfaeVRefF
import Derived.Test.YtabolanakcmgfaeVSame
import Derived.ProofKit
import Derived.OpenShut
import Derived.Carry
import Derived.Deep.Cut
import Derived.Deep.CutRange
namespace Go.Proofs.Ytabolanakcmgfae.viewTells
open Go.ChangeShapes Go.WideShapes Go.ChangeAt Go.RowKit
set_option linter.unusedVariables false

theorem own : ownKnob Try.prog.godebug = none := by kernel_rfl

theorem nb_ext {s s' : ByteArray} (h : nb s = nb s') : s = s' := by
  have := nb_inj.1 h
  rw [ByteArray.toList_eq, ByteArray.toList_eq] at this
  exact ByteArray.ext (Array.ext' this)
theorem fault_neq (a b c d : Int) (w : World) : (binOp .neq 36 (.agg #[.int .i64 a, .int .i64 b]) (.agg #[.int .i64 c, .int .i64 d])).run Try.prog w = .ok (.bool !(a == c && b == d)) w := by
  have u3 := Try.underlying3
  have u9 := Try.underlying25
  have a3 := Try.isAgg3
  have z3 := Try.sizeOf3
  have a9 := Try.isAgg25
  have z9 := Try.sizeOf25
  have hS : Try.prog.underlying 36 = some (.struct (Try.prog.fieldsOf 36)) := by kernel_rfl
  have hp : Try.prog.stoodInHeld 36 = false := by kernel_rfl
  rw [run_neq_struct, show (10000 : Nat) = 9999 + 1 from rfl, run_equalIn_agg w 9999 36 _ _ hS hp]
  simp only [Program.fieldsOf, Try.underlying36]
  go_simp
  by_cases h1 : a = c <;> by_cases h2 : b = d <;> simp [h1, h2]
theorem fault_same (a b : Int) (w : World) : (binOp .neq 36 (.agg #[.int .i64 a, .int .i64 b]) (.agg #[.int .i64 a, .int .i64 b])).run Try.prog w = .ok (.bool false) w := by
  rw [fault_neq]
  simp
theorem fault_like (a b : Int) (w : World) : (binOp .eql 36 (.agg #[.int .i64 a, .int .i64 b]) (.agg #[.int .i64 a, .int .i64 b])).run Try.prog w = .ok (.bool true) w := by
  rw [fault_eql]
  simp
theorem acc_same (s : ByteArray) (k m : Int) (b : Bool) (w : World) : (binOp .neq 39 (.agg #[.string s, .int .i64 k, .int .i64 m, .bool b]) (.agg #[.string s, .int .i64 k, .int .i64 m, .bool b])).run Try.prog w = .ok (.bool false) w := by
  rw [run_neq_struct, acc_equal]
  simp
theorem get_name (t : ByteArray) (l : List Vw.Acc) {v : Value} (h : AcV v (Vw.get l (nb t))) : v = .agg #[.string t, .int .i64 (Vw.get l (nb t)).sum, .int .i64 (Vw.get l (nb t)).cnt, .bool (Vw.get l (nb t)).opn] := by
  obtain ⟨s, _, h2, rfl⟩ := h
  rw [Vw.get_name] at h2
  rw [nb_ext h2]
theorem get_one (u : Int) (t : ByteArray) (vs : Value) (l : List Vw.Acc) (w : World) (h : Accs w vs l) (ht : t.size ≤ 9223372036854775807) :
    Calls Try.prog 13 #[.agg #[.int .i64 u, vs], .string t] w fun e w' => e = .returned (.agg #[.string t, .int .i64 (Vw.get l (nb t)).sum, .int .i64 (Vw.get l (nb t)).cnt, .bool (Vw.get l (nb t)).opn]) ∧ Below w.heap.size w w' := by
  refine (get_any u t vs l w h ht).mono ?_
  rintro e w' ⟨⟨v, rfl, hv⟩, b⟩
  exact ⟨by rw [get_name t l hv], b⟩
theorem refGet_one (u : Int) (t : ByteArray) (vs : Value) (l : List Vw.Acc) (w : World) (h : Accs w vs l) (ht : t.size ≤ 9223372036854775807) :
    Calls Try.prog 14 #[.agg #[.int .i64 u, vs], .string t] w fun e w' => e = .returned (.agg #[.string t, .int .i64 (Vw.get l (nb t)).sum, .int .i64 (Vw.get l (nb t)).cnt, .bool (Vw.get l (nb t)).opn]) ∧ Below w.heap.size w w' := by
  refine (refGet_any u t vs l w h ht).mono ?_
  rintro e w' ⟨⟨v, rfl, hv⟩, b⟩
  exact ⟨by rw [get_name t l hv], b⟩
theorem keepD {N : Nat} {p q : Value} {w0 wX w3 : World} (b3 : Below wX.heap.size wX w3) (h : wX.cell? ⟨N, 0, none⟩ = some p ∧ wX.cell? ⟨N, 1, none⟩ = some q ∧ Below w0.heap.size w0 wX) : w3.cell? ⟨N, 0, none⟩ = some p ∧ w3.cell? ⟨N, 1, none⟩ = some q ∧ Below w0.heap.size w0 w3 := by
  have p0 : N < wX.heap.size := World.block_lt_of_cell? _ _ h.1
  exact ⟨(b3.cell (p := ⟨N, 0, none⟩) p0).trans h.1, (b3.cell (p := ⟨N, 1, none⟩) p0).trans h.2.1, bt h.2.2 b3⟩

theorem quiet_lit {C : World → Prop} {id : Nat} {Q : Exit → Act → World → Prop} {a : Act} {w : World} {l : List Oper} (hm : Try.prog.follows .mixedOrders = true) (hB : Region.lexB .any l.toArray = true) (hC : C w.drew)
    (h : wpQuiet Try.prog l.toArray C (fun a' => ∀ w', C w' → Q .normal a' w') l a) : (Code.region id l.toArray true).wp Try.prog Q a w :=
  wp_region_quiet (C := C) hm hB hC (by simpa using h)
theorem keepE {N B : Nat} {p q a b c : Value} {w0 wX w3 : World} (b3 : Below wX.heap.size wX w3) (h : wX.cell? ⟨N, 0, none⟩ = some p ∧ wX.cell? ⟨N, 1, none⟩ = some q ∧ wX.cell? ⟨B, 0, none⟩ = some a ∧ wX.cell? ⟨B, 1, none⟩ = some b ∧ wX.cell? ⟨B, 2, none⟩ = some c ∧ Below w0.heap.size w0 wX) : w3.cell? ⟨N, 0, none⟩ = some p ∧ w3.cell? ⟨N, 1, none⟩ = some q ∧ w3.cell? ⟨B, 0, none⟩ = some a ∧ w3.cell? ⟨B, 1, none⟩ = some b ∧ w3.cell? ⟨B, 2, none⟩ = some c ∧ Below w0.heap.size w0 w3 := by
  have p0 : N < wX.heap.size := World.block_lt_of_cell? _ _ h.1
  have p1 : B < wX.heap.size := World.block_lt_of_cell? _ _ h.2.2.1
  exact ⟨(b3.cell (p := ⟨N, 0, none⟩) p0).trans h.1, (b3.cell (p := ⟨N, 1, none⟩) p0).trans h.2.1, (b3.cell (p := ⟨B, 0, none⟩) p1).trans h.2.2.1, (b3.cell (p := ⟨B, 1, none⟩) p1).trans h.2.2.2.1, (b3.cell (p := ⟨B, 2, none⟩) p1).trans h.2.2.2.2.1, bt h.2.2.2.2.2 b3⟩

set_option maxHeartbeats 8000000 in
set_option maxRecDepth 100000 in
theorem walk (w : World) (u : Int) (vs : Value) (l : List Vw.Acc) (hl : Accs w vs l) (ve : Value) (es : List Evt.Ev) (he : Evs w ve es) (t : ByteArray) (ht0 : t.size ≤ maxLen) :
    Calls Try.prog 4 #[.agg #[.int .i64 u, vs], ve, .string t] w fun e w' => e = .returned (.bool true) ∧ Below w.heap.size w w' := by
  have ht : t.size ≤ 9223372036854775807 := by unfold maxLen at ht0; exact ht0
  have hel : es.length ≤ 9223372036854775807 := by
    obtain ⟨_, _, _, q1, q2, _⟩ := he
    unfold maxLen at q2
    omega
  obtain ⟨A, C, rfl⟩ := hl.shape
  have HL : Hid (∀ w', Below w.heap.size w w' → Accs w' (.slice A l.length C) l) := fun w' hb => hl.below hb
  have HFO := fun w' (hb : Below w.heap.size w w') => fold_any u (.slice A l.length C) _ l es w' (HL.out w' hb) (he.below hb)
  have HFR := fun w' (hb : Below w.heap.size w w') => refFold_any u (.slice A l.length C) _ l es w' (HL.out w' hb) (he.below hb)
  have HEV : Hid (∀ i e, es[i]? = some e → ∀ A C, ve = .slice A es.length C → ∃ b o, A = some ⟨b, o, none⟩ ∧ EvIn w b (o + i * 3) e) := fun i e hi A C hv => by
    obtain ⟨A', C', hv', _, _, h3⟩ := he
    rw [hv] at hv'
    cases hv'
    exact h3 i e hi
  obtain ⟨E, D, rfl⟩ := he.shape
  have HEV : Hid (∀ i e, es[i]? = some e → ∃ b o, E = some ⟨b, o, none⟩ ∧ EvIn w b (o + i * 3) e) := fun i e hi => HEV.out i e hi E D rfl
  obtain ⟨⟨⟨fe, fa⟩, uf, lf⟩, hfold⟩ : ∃ q, Vw.fold u l es = q := ⟨_, rfl⟩
  rw [hfold] at HFO HFR
  clear hfold
  have HFO : ∀ w', Below w.heap.size w w' → Calls Try.prog 21 #[.agg #[.int .i64 u, .slice A l.length C], .slice E es.length D] w' fun e w'' => (∃ v, e = .returned (.tuple #[.agg #[.int .i64 uf, v], .agg #[.int .i64 (fe : Nat), .int .i64 (fa : Nat)]]) ∧ Accs w'' v lf) ∧ Below w'.heap.size w' w'' := fun w' hb => (HFO w' hb).mono (fun e w'' ⟨⟨v, h1, h2, _⟩, h3⟩ => ⟨⟨v, h1, h2⟩, h3⟩)
  have HFR : ∀ w', Below w.heap.size w w' → Calls Try.prog 22 #[.agg #[.int .i64 u, .slice A l.length C], .slice E es.length D] w' fun e w'' => (∃ v, e = .returned (.tuple #[.agg #[.int .i64 uf, v], .agg #[.int .i64 (fe : Nat), .int .i64 (fa : Nat)]]) ∧ Accs w'' v lf) ∧ Below w'.heap.size w' w'' := fun w' hb => (HFR w' hb).mono (fun e w'' ⟨⟨v, h1, h2⟩, h3⟩ => ⟨⟨v, h1, h2⟩, h3⟩)
  have bA : Below w.heap.size w (w.alloc (.cells #[.int .i64 u, .slice A l.length C] 33)) := (Below.refl _ _).alloc (Nat.le_refl _) _
  have VV := varF_new w 33 (.int .i64 u) (.slice A l.length C)
  have HW1 := fun w' (hS : w'.cell? ⟨w.heap.size, 0, none⟩ = some (.int .i64 u) ∧ w'.cell? ⟨w.heap.size, 1, none⟩ = some (.slice A l.length C) ∧ Below w.heap.size w w') => viewWrong_any u (.slice A l.length C) l w' (HL.out w' hS.2.2)
  have HW2 := fun w' (hS : w'.cell? ⟨w.heap.size, 0, none⟩ = some (.int .i64 u) ∧ w'.cell? ⟨w.heap.size, 1, none⟩ = some (.slice A l.length C) ∧ Below w.heap.size w w') => refWrongV_any u (.slice A l.length C) l w' (HL.out w' hS.2.2)
  have HG1 := fun w' (hS : w'.cell? ⟨w.heap.size, 0, none⟩ = some (.int .i64 u) ∧ w'.cell? ⟨w.heap.size, 1, none⟩ = some (.slice A l.length C) ∧ Below w.heap.size w w') => get_one u t (.slice A l.length C) l w' (HL.out w' hS.2.2) ht
  have HG2 := fun w' (hS : w'.cell? ⟨w.heap.size, 0, none⟩ = some (.int .i64 u) ∧ w'.cell? ⟨w.heap.size, 1, none⟩ = some (.slice A l.length C) ∧ Below w.heap.size w w') => refGet_one u t (.slice A l.length C) l w' (HL.out w' hS.2.2) ht
  unfold faultV at HW1 HW2
  obtain ⟨x, hx⟩ : ∃ x, (Vw.wrongV u l).1 = x := ⟨_, rfl⟩
  obtain ⟨y, hy⟩ : ∃ y, (Vw.wrongV u l).2 = y := ⟨_, rfl⟩
  rw [hx, hy] at HW1 HW2
  generalize Vw.get l (nb t) = ga at HG1 HG2
  have hfs := fault_same (x : Nat) (y : Nat)
  have has := acc_same t ga.sum ga.cnt ga.opn
  clear hl he ht0
  go_enter Try.func4, Try.ntmps4
  go_wp2_with fail
  generalize w.alloc (.cells #[.int .i64 u, .slice A l.length C] 33) = w0 at bA VV ⊢
  have TD : w0.drew.cell? ⟨w.heap.size, 0, none⟩ = some (.int .i64 u) ∧ w0.drew.cell? ⟨w.heap.size, 1, none⟩ = some (.slice A l.length C) ∧ Below w.heap.size w w0.drew := ⟨VV.c0, VV.c1, bA.drew⟩
  go_region_held3 (fun w' => w'.cell? ⟨w.heap.size, 0, none⟩ = some (.int .i64 u) ∧ w'.cell? ⟨w.heap.size, 1, none⟩ = some (.slice A l.length C) ∧ Below w.heap.size w w')
    (first | with_reducible exact TD | with_reducible assumption | with_reducible exact keepD (by assumption) (by assumption))
    (first | (go_at_call 11; refine (HW1 _ (by assumption)).mono ?_; rintro e1 w1 ⟨rfl, b1⟩; have S1 := keepD b1 (by assumption)) | (go_at_call 12; refine (HW2 _ (by assumption)).mono ?_; rintro e2 w2 ⟨rfl, b2⟩; have S2 := keepD b2 (by assumption)) | (go_at_call 13; refine (HG1 _ (by assumption)).mono ?_; rintro e3 w3 ⟨rfl, b3⟩; have S3 := keepD b3 (by assumption)) | (go_at_call 14; refine (HG2 _ (by assumption)).mono ?_; rintro e4 w4 ⟨rfl, b4⟩; have S4 := keepD b4 (by assumption)))
  have TV : Hid (VarF w4 w.heap.size (.int .i64 u) (.slice A l.length C)) := ((((VV.below (Below.refl _ _).drew).below b1).below b2).below b3).below b4
  have bz := S4.2.2
  clear TD S1 S2 S3 S4 b1 b2 b3 b4 hfs has HW1 HW2 HG1 HG2 bA VV
  have HW3 := fun w' (hb : Below w.heap.size w w') => refWrongV_any u (.slice A l.length C) l w' (HL.out w' hb)
  unfold faultV at HW3
  rw [hx, hy] at HW3
  go_wp2_with fail
  go_loopw [33] (fun z wr => ∃ k : Nat, k ≤ es.length ∧ z = .int .i64 k ∧ wr.cell? ⟨w.heap.size, 0, none⟩ = some (.int .i64 u) ∧ wr.cell? ⟨w.heap.size, 1, none⟩ = some (.slice A l.length C) ∧ Below w.heap.size w wr) (fun z _ => es.length - (intOf z).toNat)
  case atStart => exact ⟨0, Nat.zero_le _, rfl, TV.out.c0, TV.out.c1, bz⟩
  case round =>
    obtain ⟨k, hk, rfl, DD⟩ := hrel
    have bw := DD.2.2
    clear TV bz
    by_cases hlt : k < es.length
    · have hlt' : (k : Int) < (es.length : Int) := by omega
      obtain ⟨ev, hev⟩ : ∃ ev, es[k]? = some ev := ⟨es[k], List.getElem?_eq_getElem hlt⟩
      obtain ⟨b, o, rfl, hin⟩ := HEV.out k ev hev
      obtain ⟨s, hs1, hs2, d0, d1, d2⟩ := hin.below bw
      obtain ⟨wo, rfl⟩ : ∃ y, y = wr := ⟨wr, rfl⟩
      have bA : Below wo.heap.size wo (wo.alloc (.cells #[.string s, .int .i64 ev.kind, .int .i64 ev.num] 42)) := (Below.refl _ _).alloc (Nat.le_refl _) _
      have VE := varE_new wo (.string s) (.int .i64 ev.kind) (.int .i64 ev.num)
      have DD := keepD bA DD
      have HAP := fun w' (hb : Below w.heap.size w w') => apply_any u (.slice A l.length C) l s ev.kind ev.num w' (HL.out w' hb) hs1
      have HAR := fun w' (hb : Below w.heap.size w w') => refApply_any u (.slice A l.length C) l s ev.kind ev.num w' (HL.out w' hb) hs1
      have HWE := fun w' => refWrongE_any s ev.kind ev.num w' hs1
      have HG1 := fun w' (hS : w'.cell? ⟨w.heap.size, 0, none⟩ = some (.int .i64 u) ∧ w'.cell? ⟨w.heap.size, 1, none⟩ = some (.slice A l.length C) ∧ w'.cell? ⟨wo.heap.size, 0, none⟩ = some (.string s) ∧ w'.cell? ⟨wo.heap.size, 1, none⟩ = some (.int .i64 ev.kind) ∧ w'.cell? ⟨wo.heap.size, 2, none⟩ = some (.int .i64 ev.num) ∧ Below w.heap.size w w') => get_one u s (.slice A l.length C) l w' (HL.out w' hS.2.2.2.2.2) hs1
      have HG2 := fun w' (hS : w'.cell? ⟨w.heap.size, 0, none⟩ = some (.int .i64 u) ∧ w'.cell? ⟨w.heap.size, 1, none⟩ = some (.slice A l.length C) ∧ w'.cell? ⟨wo.heap.size, 0, none⟩ = some (.string s) ∧ w'.cell? ⟨wo.heap.size, 1, none⟩ = some (.int .i64 ev.kind) ∧ w'.cell? ⟨wo.heap.size, 2, none⟩ = some (.int .i64 ev.num) ∧ Below w.heap.size w w') => refGet_one u s (.slice A l.length C) l w' (HL.out w' hS.2.2.2.2.2) hs1
      have HM1 := fun w' => may_any s s (Vw.get l (nb s)).sum (Vw.get l (nb s)).cnt ev.kind ev.num (Vw.get l (nb s)).opn w'
      have HM2 := fun w' => refMay_any s s (Vw.get l (nb s)).sum (Vw.get l (nb s)).cnt ev.kind ev.num (Vw.get l (nb s)).opn w'
      have HW3 := fun w' (hS : w'.cell? ⟨w.heap.size, 0, none⟩ = some (.int .i64 u) ∧ w'.cell? ⟨w.heap.size, 1, none⟩ = some (.slice A l.length C) ∧ w'.cell? ⟨wo.heap.size, 0, none⟩ = some (.string s) ∧ w'.cell? ⟨wo.heap.size, 1, none⟩ = some (.int .i64 ev.kind) ∧ w'.cell? ⟨wo.heap.size, 2, none⟩ = some (.int .i64 ev.num) ∧ Below w.heap.size w w') => HW3 w' hS.2.2.2.2.2
      generalize Evt.wrongE ⟨nb s, ev.kind, ev.num⟩ = z at HWE
      generalize Vw.may ⟨nb s, (Vw.get l (nb s)).sum, (Vw.get l (nb s)).cnt, (Vw.get l (nb s)).opn⟩ ⟨nb s, ev.kind, ev.num⟩ = mm at HM1 HM2
      generalize Vw.get l (nb s) = gb at HG1 HG2 HM1 HM2
      generalize Vw.apply u l ⟨nb s, ev.kind, ev.num⟩ = ap at HAP HAR
      obtain ⟨ea, ua, la⟩ := ap
      have HAP : ∀ w', Below w.heap.size w w' → Calls Try.prog 18 #[.agg #[.int .i64 u, .slice A l.length C], .agg #[.string s, .int .i64 ev.kind, .int .i64 ev.num]] w' fun e w'' => (∃ v, e = .returned (.tuple #[.agg #[.int .i64 ua, v], .int .i64 (ea : Nat)]) ∧ Accs w'' v la) ∧ Below w'.heap.size w' w'' := fun w' hb => (HAP w' hb).mono (fun e w'' ⟨⟨v, h1, h2, _⟩, h3⟩ => ⟨⟨v, h1, h2⟩, h3⟩)
      have HAR : ∀ w', Below w.heap.size w w' → Calls Try.prog 19 #[.agg #[.int .i64 u, .slice A l.length C], .agg #[.string s, .int .i64 ev.kind, .int .i64 ev.num]] w' fun e w'' => (∃ v, e = .returned (.tuple #[.agg #[.int .i64 ua, v], .int .i64 (ea : Nat)]) ∧ Accs w'' v la) ∧ Below w'.heap.size w' w'' := fun w' hb => (HAR w' hb).mono (fun e w'' ⟨⟨v, h1, h2, _⟩, h3⟩ => ⟨⟨v, h1, h2⟩, h3⟩)
      have hmm : (mm != mm) = false := by simp
      have bw := bt bw bA
      clear hev hs2 hin bA
      go_wp2_with fail
      generalize wo.alloc (.cells #[.string s, .int .i64 ev.kind, .int .i64 ev.num] 42) = WA at VE DD bw ⊢
      have VEd := VE.below (Below.refl _ _).drew
      have TD : WA.drew.cell? ⟨w.heap.size, 0, none⟩ = some (.int .i64 u) ∧ WA.drew.cell? ⟨w.heap.size, 1, none⟩ = some (.slice A l.length C) ∧ WA.drew.cell? ⟨wo.heap.size, 0, none⟩ = some (.string s) ∧ WA.drew.cell? ⟨wo.heap.size, 1, none⟩ = some (.int .i64 ev.kind) ∧ WA.drew.cell? ⟨wo.heap.size, 2, none⟩ = some (.int .i64 ev.num) ∧ Below w.heap.size w WA.drew := ⟨DD.1, DD.2.1, VE.c0, VE.c1, VE.c2, bw.drew⟩
      go_cut [60] from 37 to 60 (fun v60 w' => v60 = .bool false ∧ w'.cell? ⟨w.heap.size, 0, none⟩ = some (.int .i64 u) ∧ w'.cell? ⟨w.heap.size, 1, none⟩ = some (.slice A l.length C) ∧ w'.cell? ⟨wo.heap.size, 0, none⟩ = some (.string s) ∧ w'.cell? ⟨wo.heap.size, 1, none⟩ = some (.int .i64 ev.kind) ∧ w'.cell? ⟨wo.heap.size, 2, none⟩ = some (.int .i64 ev.num) ∧ Below w.heap.size w w')
      case first =>
        by_cases hx0 : x = 0
        · subst hx0
          by_cases hz0 : z = 0
          · subst hz0
            have hff := fun w' => field_fault 0 (y : Nat) w'
            refine quiet_lit (C := fun w' => w'.cell? ⟨w.heap.size, 0, none⟩ = some (.int .i64 u) ∧ w'.cell? ⟨w.heap.size, 1, none⟩ = some (.slice A l.length C) ∧ w'.cell? ⟨wo.heap.size, 0, none⟩ = some (.string s) ∧ w'.cell? ⟨wo.heap.size, 1, none⟩ = some (.int .i64 ev.kind) ∧ w'.cell? ⟨wo.heap.size, 2, none⟩ = some (.int .i64 ev.num) ∧ Below w.heap.size w w') (by kernel_rfl) (by kernel_rfl) TD ?_
            refine BigFrame.wpQuiet_want (by rfl) (fun K hK => ⟨.agg #[.int .i64 u, .slice A l.length C], fun w' hC => ?_, hK _ ?_⟩)
            · obtain ⟨k0, k1, k2, k3, k4, kb⟩ := hC
              go_simp
            clear hK K
            simp only [Act.put, List.setIfInBounds_toArray, List.set_cons_zero, List.set_cons_succ]
            refine BigFrame.wpQuiet_want (by rfl) (fun K hK => ⟨.agg #[.int .i64 0, .int .i64 (y : Nat)], fun w' hC => ?_, hK _ ?_⟩)
            · go_simp
              refine (HW3 _ hC).mono ?_
              rintro e w2 ⟨rfl, b2⟩
              exact ⟨rfl, keepE b2 hC⟩
            clear hK K
            simp only [Act.put, List.setIfInBounds_toArray, List.set_cons_zero, List.set_cons_succ]
            refine BigFrame.wpQuiet_want (by rfl) (fun K hK => ⟨.int .i64 0, fun w' hC => ?_, hK _ ?_⟩)
            · go_simp
            clear hK K
            simp only [Act.put, List.setIfInBounds_toArray, List.set_cons_zero, List.set_cons_succ]
            refine BigFrame.wpQuiet_want (by rfl) (fun K hK => ⟨.bool true, fun w' hC => ?_, hK _ ?_⟩)
            · go_simp
            clear hK K
            simp only [Act.put, List.setIfInBounds_toArray, List.set_cons_zero, List.set_cons_succ]
            repeat go_big_quiet_step (fail)
            refine BigFrame.wpQuiet_want (by rfl) (fun K hK => ⟨.agg #[.string s, .int .i64 ev.kind, .int .i64 ev.num], fun w' hC => ?_, hK _ ?_⟩)
            · obtain ⟨k0, k1, k2, k3, k4, kb⟩ := hC
              go_simp
            clear hK K
            simp only [Act.put, List.setIfInBounds_toArray, List.set_cons_zero, List.set_cons_succ]
            refine BigFrame.wpQuiet_want (by rfl) (fun K hK => ⟨.int .i64 0, fun w' hC => ?_, hK _ ?_⟩)
            · go_simp
              refine (HWE _).mono ?_
              rintro e w2 ⟨rfl, b2⟩
              exact ⟨rfl, keepE b2 hC⟩
            clear hK K
            simp only [Act.put, List.setIfInBounds_toArray, List.set_cons_zero, List.set_cons_succ]
            refine BigFrame.wpQuiet_want (by rfl) (fun K hK => ⟨.bool true, fun w' hC => ?_, hK _ ?_⟩)
            · go_simp
            clear hK K
            simp only [Act.put, List.setIfInBounds_toArray, List.set_cons_zero, List.set_cons_succ]
            refine BigFrame.wpQuiet_want (by rfl) (fun K hK => ⟨.bool true, fun w' hC => ?_, hK _ ?_⟩)
            · go_simp
            clear hK K
            simp only [Act.put, List.setIfInBounds_toArray, List.set_cons_zero, List.set_cons_succ]
            repeat go_big_quiet_step (fail)
            refine BigFrame.wpQuiet_want (by rfl) (fun K hK => ⟨.agg #[.int .i64 u, .slice A l.length C], fun w' hC => ?_, hK _ ?_⟩)
            · obtain ⟨k0, k1, k2, k3, k4, kb⟩ := hC
              go_simp
            clear hK K
            simp only [Act.put, List.setIfInBounds_toArray, List.set_cons_zero, List.set_cons_succ]
            refine BigFrame.wpQuiet_want (by rfl) (fun K hK => ⟨.pointer (some ⟨wo.heap.size, 0, none⟩), fun w' hC => ?_, hK _ ?_⟩)
            · go_simp
            clear hK K
            simp only [Act.put, List.setIfInBounds_toArray, List.set_cons_zero, List.set_cons_succ]
            refine BigFrame.wpQuiet_want (by rfl) (fun K hK => ⟨.string s, fun w' hC => ?_, hK _ ?_⟩)
            · obtain ⟨k0, k1, k2, k3, k4, kb⟩ := hC
              go_simp
            clear hK K
            simp only [Act.put, List.setIfInBounds_toArray, List.set_cons_zero, List.set_cons_succ]
            refine BigFrame.wpQuiet_want (by rfl) (fun K hK => ⟨.agg #[.string s, .int .i64 gb.sum, .int .i64 gb.cnt, .bool gb.opn], fun w' hC => ?_, hK _ ?_⟩)
            · go_simp
              refine (HG1 _ hC).mono ?_
              rintro e w2 ⟨rfl, b2⟩
              exact ⟨rfl, keepE b2 hC⟩
            clear hK K
            simp only [Act.put, List.setIfInBounds_toArray, List.set_cons_zero, List.set_cons_succ]
            refine BigFrame.wpQuiet_want (by rfl) (fun K hK => ⟨.agg #[.string s, .int .i64 ev.kind, .int .i64 ev.num], fun w' hC => ?_, hK _ ?_⟩)
            · obtain ⟨k0, k1, k2, k3, k4, kb⟩ := hC
              go_simp
            clear hK K
            simp only [Act.put, List.setIfInBounds_toArray, List.set_cons_zero, List.set_cons_succ]
            refine BigFrame.wpQuiet_want (by rfl) (fun K hK => ⟨.bool mm, fun w' hC => ?_, hK _ ?_⟩)
            · go_simp
              refine (HM1 _).mono ?_
              rintro e w2 ⟨rfl, b2⟩
              exact ⟨rfl, keepE b2 hC⟩
            clear hK K
            simp only [Act.put, List.setIfInBounds_toArray, List.set_cons_zero, List.set_cons_succ]
            refine BigFrame.wpQuiet_want (by rfl) (fun K hK => ⟨.agg #[.int .i64 u, .slice A l.length C], fun w' hC => ?_, hK _ ?_⟩)
            · obtain ⟨k0, k1, k2, k3, k4, kb⟩ := hC
              go_simp
            clear hK K
            simp only [Act.put, List.setIfInBounds_toArray, List.set_cons_zero, List.set_cons_succ]
            refine BigFrame.wpQuiet_want (by rfl) (fun K hK => ⟨.pointer (some ⟨wo.heap.size, 0, none⟩), fun w' hC => ?_, hK _ ?_⟩)
            · go_simp
            clear hK K
            simp only [Act.put, List.setIfInBounds_toArray, List.set_cons_zero, List.set_cons_succ]
            refine BigFrame.wpQuiet_want (by rfl) (fun K hK => ⟨.string s, fun w' hC => ?_, hK _ ?_⟩)
            · obtain ⟨k0, k1, k2, k3, k4, kb⟩ := hC
              go_simp
            clear hK K
            simp only [Act.put, List.setIfInBounds_toArray, List.set_cons_zero, List.set_cons_succ]
            refine BigFrame.wpQuiet_want (by rfl) (fun K hK => ⟨.agg #[.string s, .int .i64 gb.sum, .int .i64 gb.cnt, .bool gb.opn], fun w' hC => ?_, hK _ ?_⟩)
            · go_simp
              refine (HG2 _ hC).mono ?_
              rintro e w2 ⟨rfl, b2⟩
              exact ⟨rfl, keepE b2 hC⟩
            clear hK K
            simp only [Act.put, List.setIfInBounds_toArray, List.set_cons_zero, List.set_cons_succ]
            refine BigFrame.wpQuiet_want (by rfl) (fun K hK => ⟨.agg #[.string s, .int .i64 ev.kind, .int .i64 ev.num], fun w' hC => ?_, hK _ ?_⟩)
            · obtain ⟨k0, k1, k2, k3, k4, kb⟩ := hC
              go_simp
            clear hK K
            simp only [Act.put, List.setIfInBounds_toArray, List.set_cons_zero, List.set_cons_succ]
            refine BigFrame.wpQuiet_want (by rfl) (fun K hK => ⟨.bool mm, fun w' hC => ?_, hK _ ?_⟩)
            · go_simp
              refine (HM2 _).mono ?_
              rintro e w2 ⟨rfl, b2⟩
              exact ⟨rfl, keepE b2 hC⟩
            clear hK K
            simp only [Act.put, List.setIfInBounds_toArray, List.set_cons_zero, List.set_cons_succ]
            refine BigFrame.wpQuiet_want (by rfl) (fun K hK => ⟨.bool false, fun w' hC => ?_, hK _ ?_⟩)
            · go_simp
            clear hK K
            simp only [Act.put, List.setIfInBounds_toArray, List.set_cons_zero, List.set_cons_succ]
            refine BigFrame.wpQuiet_want (by rfl) (fun K hK => ⟨.bool false, fun w' hC => ?_, hK _ ?_⟩)
            · go_simp
            clear hK K
            simp only [Act.put, List.setIfInBounds_toArray, List.set_cons_zero, List.set_cons_succ]
            refine wpQuiet_nil (fun w' hC => ?_)
            go_wp2_with fail
            go_meet
            exact ⟨rfl, hC⟩
          · skip
            have hze : ((z : Int) == 0) = false := by rw [beq_eq_false_iff_ne]; omega
            have hff := fun w' => field_fault 0 (y : Nat) w'
            clear hz0
            refine quiet_lit (C := fun w' => w'.cell? ⟨w.heap.size, 0, none⟩ = some (.int .i64 u) ∧ w'.cell? ⟨w.heap.size, 1, none⟩ = some (.slice A l.length C) ∧ w'.cell? ⟨wo.heap.size, 0, none⟩ = some (.string s) ∧ w'.cell? ⟨wo.heap.size, 1, none⟩ = some (.int .i64 ev.kind) ∧ w'.cell? ⟨wo.heap.size, 2, none⟩ = some (.int .i64 ev.num) ∧ Below w.heap.size w w') (by kernel_rfl) (by kernel_rfl) TD ?_
            refine BigFrame.wpQuiet_want (by rfl) (fun K hK => ⟨.agg #[.int .i64 u, .slice A l.length C], fun w' hC => ?_, hK _ ?_⟩)
            · obtain ⟨k0, k1, k2, k3, k4, kb⟩ := hC
              go_simp
            clear hK K
            simp only [Act.put, List.setIfInBounds_toArray, List.set_cons_zero, List.set_cons_succ]
            refine BigFrame.wpQuiet_want (by rfl) (fun K hK => ⟨.agg #[.int .i64 0, .int .i64 (y : Nat)], fun w' hC => ?_, hK _ ?_⟩)
            · go_simp
              refine (HW3 _ hC).mono ?_
              rintro e w2 ⟨rfl, b2⟩
              exact ⟨rfl, keepE b2 hC⟩
            clear hK K
            simp only [Act.put, List.setIfInBounds_toArray, List.set_cons_zero, List.set_cons_succ]
            refine BigFrame.wpQuiet_want (by rfl) (fun K hK => ⟨.int .i64 0, fun w' hC => ?_, hK _ ?_⟩)
            · go_simp
            clear hK K
            simp only [Act.put, List.setIfInBounds_toArray, List.set_cons_zero, List.set_cons_succ]
            refine BigFrame.wpQuiet_want (by rfl) (fun K hK => ⟨.bool true, fun w' hC => ?_, hK _ ?_⟩)
            · go_simp
            clear hK K
            simp only [Act.put, List.setIfInBounds_toArray, List.set_cons_zero, List.set_cons_succ]
            repeat go_big_quiet_step (fail)
            refine BigFrame.wpQuiet_want (by rfl) (fun K hK => ⟨.agg #[.string s, .int .i64 ev.kind, .int .i64 ev.num], fun w' hC => ?_, hK _ ?_⟩)
            · obtain ⟨k0, k1, k2, k3, k4, kb⟩ := hC
              go_simp
            clear hK K
            simp only [Act.put, List.setIfInBounds_toArray, List.set_cons_zero, List.set_cons_succ]
            refine BigFrame.wpQuiet_want (by rfl) (fun K hK => ⟨.int .i64 (z : Nat), fun w' hC => ?_, hK _ ?_⟩)
            · go_simp
              refine (HWE _).mono ?_
              rintro e w2 ⟨rfl, b2⟩
              exact ⟨rfl, keepE b2 hC⟩
            clear hK K
            simp only [Act.put, List.setIfInBounds_toArray, List.set_cons_zero, List.set_cons_succ]
            refine BigFrame.wpQuiet_want (by rfl) (fun K hK => ⟨.bool false, fun w' hC => ?_, hK _ ?_⟩)
            · go_simp
            clear hK K
            simp only [Act.put, List.setIfInBounds_toArray, List.set_cons_zero, List.set_cons_succ]
            refine BigFrame.wpQuiet_want (by rfl) (fun K hK => ⟨.bool false, fun w' hC => ?_, hK _ ?_⟩)
            · go_simp
            clear hK K
            simp only [Act.put, List.setIfInBounds_toArray, List.set_cons_zero, List.set_cons_succ]
            repeat go_big_quiet_step (fail)
            refine BigFrame.wpQuiet_want (by rfl) (fun K hK => ⟨.bool false, fun w' hC => ?_, hK _ ?_⟩)
            · go_simp
            clear hK K
            simp only [Act.put, List.setIfInBounds_toArray, List.set_cons_zero, List.set_cons_succ]
            refine wpQuiet_nil (fun w' hC => ?_)
            go_wp2_with fail
            go_meet
            exact ⟨rfl, hC⟩
        · skip
          have hxe : ((x : Int) == 0) = false := by rw [beq_eq_false_iff_ne]; omega
          have hff := fun w' => field_fault (x : Nat) (y : Nat) w'
          clear hx0
          refine quiet_lit (C := fun w' => w'.cell? ⟨w.heap.size, 0, none⟩ = some (.int .i64 u) ∧ w'.cell? ⟨w.heap.size, 1, none⟩ = some (.slice A l.length C) ∧ w'.cell? ⟨wo.heap.size, 0, none⟩ = some (.string s) ∧ w'.cell? ⟨wo.heap.size, 1, none⟩ = some (.int .i64 ev.kind) ∧ w'.cell? ⟨wo.heap.size, 2, none⟩ = some (.int .i64 ev.num) ∧ Below w.heap.size w w') (by kernel_rfl) (by kernel_rfl) TD ?_
          refine BigFrame.wpQuiet_want (by rfl) (fun K hK => ⟨.agg #[.int .i64 u, .slice A l.length C], fun w' hC => ?_, hK _ ?_⟩)
          · obtain ⟨k0, k1, k2, k3, k4, kb⟩ := hC
            go_simp
          clear hK K
          simp only [Act.put, List.setIfInBounds_toArray, List.set_cons_zero, List.set_cons_succ]
          refine BigFrame.wpQuiet_want (by rfl) (fun K hK => ⟨.agg #[.int .i64 (x : Nat), .int .i64 (y : Nat)], fun w' hC => ?_, hK _ ?_⟩)
          · go_simp
            refine (HW3 _ hC).mono ?_
            rintro e w2 ⟨rfl, b2⟩
            exact ⟨rfl, keepE b2 hC⟩
          clear hK K
          simp only [Act.put, List.setIfInBounds_toArray, List.set_cons_zero, List.set_cons_succ]
          refine BigFrame.wpQuiet_want (by rfl) (fun K hK => ⟨.int .i64 (x : Nat), fun w' hC => ?_, hK _ ?_⟩)
          · go_simp
          clear hK K
          simp only [Act.put, List.setIfInBounds_toArray, List.set_cons_zero, List.set_cons_succ]
          refine BigFrame.wpQuiet_want (by rfl) (fun K hK => ⟨.bool false, fun w' hC => ?_, hK _ ?_⟩)
          · go_simp
          clear hK K
          simp only [Act.put, List.setIfInBounds_toArray, List.set_cons_zero, List.set_cons_succ]
          repeat go_big_quiet_step (fail)
          refine BigFrame.wpQuiet_want (by rfl) (fun K hK => ⟨.bool false, fun w' hC => ?_, hK _ ?_⟩)
          · go_simp
          clear hK K
          simp only [Act.put, List.setIfInBounds_toArray, List.set_cons_zero, List.set_cons_succ]
          repeat go_big_quiet_step (fail)
          refine BigFrame.wpQuiet_want (by rfl) (fun K hK => ⟨.bool false, fun w' hC => ?_, hK _ ?_⟩)
          · go_simp
          clear hK K
          simp only [Act.put, List.setIfInBounds_toArray, List.set_cons_zero, List.set_cons_succ]
          refine wpQuiet_nil (fun w' hC => ?_)
          go_wp2_with fail
          go_meet
          exact ⟨rfl, hC⟩
      case rest =>
        obtain ⟨rfl, k0, k1, k2, k3, k4, bc⟩ := hcut
        clear TD VEd VE DD HW3 HWE HG1 HG2 HM1 HM2
        go_wp2_with fail
        refine (HAP _ bc).mono ?_
        rintro e w5 ⟨⟨v5, rfl, A5⟩, b5⟩
        obtain ⟨Q5, C5, rfl⟩ := A5.shape
        have bV : Below w5.heap.size w5 (w5.alloc (.cells #[.int .i64 ua, .slice Q5 la.length C5] 33)) := (Below.refl _ _).alloc (Nat.le_refl _) _
        have T6 := keepE bV (keepE b5 ⟨k0, k1, k2, k3, k4, bc⟩)
        have VA := varF_new w5 33 (.int .i64 ua) (.slice Q5 la.length C5)
        have A6 := A5.below bV
        clear k0 k1 k2 k3 k4 bc A5 b5 bV HAP
        obtain ⟨k0, k1, k2, k3, k4, bc⟩ := T6
        go_wp2_with fail
        generalize w5.alloc (.cells #[.int .i64 ua, .slice Q5 la.length C5] 33) = w6 at k0 k1 k2 k3 k4 bc VA A6 ⊢
        refine (HAR _ bc).mono ?_
        rintro e w7 ⟨⟨v7, rfl, A7⟩, b7⟩
        obtain ⟨Q7, C7, rfl⟩ := A7.shape
        have bV : Below w7.heap.size w7 (w7.alloc (.cells #[.int .i64 ua, .slice Q7 la.length C7] 33)) := (Below.refl _ _).alloc (Nat.le_refl _) _
        have D8 := keepD bV (keepD b7 ⟨k0, k1, bc⟩)
        have VA := (VA.below b7).below bV
        have A6 := (A6.below b7).below bV
        have VB := varF_new w7 33 (.int .i64 ua) (.slice Q7 la.length C7)
        have A8 := A7.below bV
        clear k0 k1 k2 k3 k4 bc A7 b7 bV HAR
        have HSM := sameView_any ua ua _ _ la la _ A6 A8
        obtain ⟨a0, a1, _⟩ := VA
        obtain ⟨c0, c1, _⟩ := VB
        go_wp2_with fail
        refine HSM.mono ?_
        rintro e w9 ⟨⟨y9, rfl, hy9⟩, b9⟩
        obtain rfl : y9 = true := hy9.2 (by simp)
        have D9 := keepD b9 D8
        clear HSM hy9 D8 a0 a1 c0 c1 A6 A8
        go_wp2_with fail
        exact ⟨⟨k + 1, by omega, by go_num, D9⟩, by simp [intOf]; omega⟩
    · obtain rfl : k = es.length := by omega
      obtain ⟨v0, v1, bw⟩ := DD
      clear HEV HW3
      have hfl := fault_like (fe : Nat) (fa : Nat)
      go_wp2_with fail
      refine (HFO _ bw).mono ?_
      rintro e w2 ⟨⟨v2, rfl, A2⟩, b2⟩
      obtain ⟨Q2, C2, rfl⟩ := A2.shape
      have h1 : Below w2.heap.size w2 (w2.alloc (.cells #[.int .i64 uf, .slice Q2 lf.length C2] 33)) := (Below.refl _ _).alloc (Nat.le_refl _) _
      have h2 := h1.alloc h1.size (.cells #[.int .i64 (fe : Nat), .int .i64 (fa : Nat)] 36)
      have hb2 : Below (w2.alloc (.cells #[.int .i64 uf, .slice Q2 lf.length C2] 33)).heap.size (w2.alloc (.cells #[.int .i64 uf, .slice Q2 lf.length C2] 33)) ((w2.alloc (.cells #[.int .i64 uf, .slice Q2 lf.length C2] 33)).alloc (.cells #[.int .i64 (fe : Nat), .int .i64 (fa : Nat)] 36)) := (Below.refl _ _).alloc (Nat.le_refl _) _
      have VA := (varF_new w2 33 (.int .i64 uf) (.slice Q2 lf.length C2)).below hb2
      have VF := varF_new (w2.alloc (.cells #[.int .i64 uf, .slice Q2 lf.length C2] 33)) 36 (.int .i64 (fe : Nat)) (.int .i64 (fa : Nat))
      rw [show (w2.alloc (.cells #[.int .i64 uf, .slice Q2 lf.length C2] 33)).heap.size = w2.heap.size + 1 by simp] at VF
      have A3 := A2.below h2
      have D3 := keepD h2 (keepD b2 ⟨v0, v1, bw⟩)
      clear h1 h2 hb2 A2 b2 v0 v1 bw HFO
      obtain ⟨v0, v1, bw⟩ := D3
      go_wp2_with fail
      generalize (w2.alloc (.cells #[.int .i64 uf, .slice Q2 lf.length C2] 33)).alloc (.cells #[.int .i64 (fe : Nat), .int .i64 (fa : Nat)] 36) = w3 at VA VF A3 v0 v1 bw ⊢
      refine (HFR _ bw).mono ?_
      rintro e w4 ⟨⟨v4, rfl, A4⟩, b4⟩
      obtain ⟨Q4, C4, rfl⟩ := A4.shape
      have h1 : Below w4.heap.size w4 (w4.alloc (.cells #[.int .i64 uf, .slice Q4 lf.length C4] 33)) := (Below.refl _ _).alloc (Nat.le_refl _) _
      have h2 := h1.alloc h1.size (.cells #[.int .i64 (fe : Nat), .int .i64 (fa : Nat)] 36)
      have hb2 : Below (w4.alloc (.cells #[.int .i64 uf, .slice Q4 lf.length C4] 33)).heap.size (w4.alloc (.cells #[.int .i64 uf, .slice Q4 lf.length C4] 33)) ((w4.alloc (.cells #[.int .i64 uf, .slice Q4 lf.length C4] 33)).alloc (.cells #[.int .i64 (fe : Nat), .int .i64 (fa : Nat)] 36)) := (Below.refl _ _).alloc (Nat.le_refl _) _
      have VB := (varF_new w4 33 (.int .i64 uf) (.slice Q4 lf.length C4)).below hb2
      have VG := varF_new (w4.alloc (.cells #[.int .i64 uf, .slice Q4 lf.length C4] 33)) 36 (.int .i64 (fe : Nat)) (.int .i64 (fa : Nat))
      rw [show (w4.alloc (.cells #[.int .i64 uf, .slice Q4 lf.length C4] 33)).heap.size = w4.heap.size + 1 by simp] at VG
      have VA := (VA.below b4).below h2
      have VF := (VF.below b4).below h2
      have A5 := (A3.below b4).below h2
      have A6 := A4.below h2
      have bw := bt (bt bw b4) h2
      have HSM := fun w' hb => sameView_any uf uf _ _ lf lf w' (A5.below hb) (A6.below hb)
      clear h1 h2 hb2 A3 A4 b4 v0 v1 HFR
      obtain ⟨a0, a1, _⟩ := VA
      obtain ⟨c0, c1, _⟩ := VB
      obtain ⟨f0, f1, _⟩ := VF
      obtain ⟨g0, g1, _⟩ := VG
      go_wp2_with fail
      refine (HSM _ (Below.refl _ _)).mono ?_
      rintro e w9 ⟨⟨y9, rfl, hy9⟩, b9⟩
      obtain rfl : y9 = true := hy9.2 (by simp)
      clear HSM hy9 a0 a1 c0 c1 f0 f1 g0 g1
      go_wp2_with fail
      go_ret
      exact ⟨rfl, bt bw b9⟩

set_option maxRecDepth 100000 in
theorem lifted (os : Os) (started : os.Started) (H : Type) (enc : TypeId × Value → H) :
    ReturnsInHanded {} Try.checked os 4 .any (Rows.viewTellsSpec.pre6 enc Try.prog Try.f4 Rows.viewTellsRow.domain false) (Rows.viewTellsSpec.post enc Try.prog Try.f4 false true false false) := by
  refine returnsInHanded_of_change (C := Try.checked) own started (by kernel_rfl) Try.func4
    (ChangeSpec.witness6 (enc := enc) (C := Try.checked) false ⟨#[], #[.agg #[.int .i64 0, .slice none 0 0], .slice none 0 0, .string ByteArray.empty], []⟩ 8 (by kernel_rfl) (by kernel_rfl) (by kernel_rfl) (by kernel_rfl)) ?_
  intro W base args ds gs before hval0 hW hcnd _
  have hval : ∀ (j : Nat) t v, Try.f4.params[j]? = some t → args[j]? = some v → Value.okWide Try.prog W .any base t v := hval0
  have hW' := hW
  obtain ⟨p, q, hA0, hV, rfl, hfz, hnd⟩ := hW
  have hA : DataW.TrodAll enc Try.prog W 0 (fun _ => true) true Try.f4.params.toList args.toList ds p := hA0
  rw [Try.params4] at hA hval
  obtain ⟨v0, vs0, d0, ds0, p0, q0, hargs, rfl, rfl, h0, r0⟩ := trodAll_cons hA
  obtain ⟨v1, vs1, d1, ds1, p1, q1, rfl, rfl, rfl, h1, r1⟩ := trodAll_cons r0
  obtain ⟨v2, vs2, d2, ds2, p2, q2, rfl, rfl, rfl, h2, r2⟩ := trodAll_cons r1
  obtain ⟨rfl, rfl, rfl⟩ := trodAll_nil r2
  obtain rfl : args = #[v0, v1, v2] := by cases args; simp_all
  obtain ⟨rfl, rfl⟩ := trodVars_none hV
  have k0 := h0
  have lt0 : ∀ x ∈ p0, x.block < W.heap.size := by obtain ⟨m, hm⟩ := k0; exact DataW.trod_lt m _ _ _ hm
  obtain ⟨s0, t0, z0, rfl, g0⟩ := view_of (hval 0 33 v0 rfl rfl) h0
  obtain ⟨a1, l1, c1, rfl⟩ := okWide_slice Try.underlying34 (hval 1 34 v1 rfl rfl)
  have k1 := h1
  have lt1 : ∀ x ∈ p1, x.block < W.heap.size := by obtain ⟨m, hm⟩ := k1; exact DataW.trod_lt m _ _ _ hm
  obtain ⟨f1, g1⟩ := evs_of h1
  have k2 := h2
  have lt2 : ∀ x ∈ p2, x.block < W.heap.size := by obtain ⟨m, hm⟩ := k2; exact DataW.trod_lt m _ _ _ hm
  obtain ⟨s2, rfl, g2⟩ := string_of (hval 2 9 v2 rfl rfl) h2
  clear hA0 hval0
  refine (walk W s0 t0 z0 g0 _ _ g1 s2 g2).mono fun e W' ⟨he, bel⟩ => ?_
  subst he
  exact ⟨_, rfl, _, _, _, [], _, [], hW', trodAll_mk1 (shut_bool Try.underlying4 _), (trodAll_cons_mk (Below.trod Try.laidOut (by kernel_rfl) (of_decide_eq_true (by kernel_rfl)) k0 bel lt0) (trodAll_cons_mk (Below.trod Try.laidOut (by kernel_rfl) (of_decide_eq_true (by kernel_rfl)) k1 bel lt1) (trodAll_cons_mk (Below.trod Try.laidOut (by kernel_rfl) (of_decide_eq_true (by kernel_rfl)) k2 bel lt2) trodAll_mk0))), rfl, bel.frame _, fun h => by cases h⟩

theorem over : Rows.viewTellsRow.holds Try.pinned (OpenSpec.ofChange Rows.viewTellsSpec) :=
  OpenClaim.holds_of_wide 4 Try.f4 rfl rfl rfl rfl rfl rfl rfl ⟨rfl, rfl, rfl, rfl, rfl⟩ rfl rfl rfl rfl rfl (by kernel_rfl) Try.func4 (by kernel_rfl)
    (of_decide_eq_true (by kernel_rfl)) (by unfold Func.isWrapper; first | (rw [if_pos (by decide +kernel)]; kernel_rfl) | (rw [if_neg (by decide +kernel)]; exact ⟨rfl, rfl⟩))
    (fun os started H enc _ => lifted os started H enc)
end Go.Proofs.Ytabolanakcmgfae.viewTells

namespace Go.Proofs.Ytabolanakcmgfae
theorem viewTells_holds : Rows.ViewTellsSaid := viewTells.over
#print axioms viewTells_holds
end Go.Proofs.Ytabolanakcmgfae
