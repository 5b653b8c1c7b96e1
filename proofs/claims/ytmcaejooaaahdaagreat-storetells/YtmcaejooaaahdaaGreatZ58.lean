/-
  Texts of the proof, joined: JWr, HHads, HKeepL.
-/
import Derived.Test.YtmcaejooaaahdaaGreatZ57
import Derived.Test.YtmcaejooaaahdaaGreatZ33
import Derived.Test.YtmcaejooaaahdaaGreatZ34
import Derived.Test.YtmcaejooaaahdaaGreatZ13
namespace Go.Proofs.YtmcaejooaaahdaaGreat
open Go.RowKit

/-- Those ahead of i are the first list's, the others the second's. -/
def mixL {α : Type} (a b : List α) (i : Nat) : List α := a.take i ++ b.drop i
theorem mixL_len {α : Type} {a b : List α} (h : a.length = b.length) (i : Nat) : (mixL a b i).length = b.length := by
  unfold mixL
  rw [List.length_append, List.length_take, List.length_drop]
  omega
theorem mixL_all {α : Type} {a b : List α} (h : a.length = b.length) : mixL a b b.length = a := by
  unfold mixL
  rw [List.drop_length, List.append_nil, ← h, List.take_length]
theorem mixL_at {α : Type} {a b : List α} (h : a.length = b.length) {i : Nat} (hi : i < b.length) : (mixL a b i)[i]? = b[i]? := by
  unfold mixL
  rw [List.getElem?_append_right (by rw [List.length_take]; omega), List.length_take, Nat.min_eq_left (by omega), Nat.sub_self, List.getElem?_drop, Nat.add_zero]
theorem mixL_set {α : Type} {a b : List α} (h : a.length = b.length) {i : Nat} {x : α} (hi : a[i]? = some x) : (mixL a b i).set i x = mixL a b (i + 1) := by
  have hl : i < a.length := (List.getElem?_eq_some_iff.1 hi).1
  apply List.ext_getElem?
  intro j
  by_cases e : j = i
  · subst e
    rw [List.getElem?_set_self (by rw [mixL_len h]; omega)]
    unfold mixL
    rw [List.getElem?_append_left (by rw [List.length_take]; omega), List.getElem?_take, if_pos (by omega), hi]
  · rw [List.getElem?_set_ne (fun z => e z.symm)]
    unfold mixL
    by_cases q : j < i
    · rw [List.getElem?_append_left (by rw [List.length_take]; omega), List.getElem?_append_left (by rw [List.length_take]; omega), List.getElem?_take, List.getElem?_take, if_pos q, if_pos (by omega)]
    · rw [List.getElem?_append_right (by rw [List.length_take]; omega), List.getElem?_append_right (by rw [List.length_take]; omega), List.getElem?_drop, List.getElem?_drop, List.length_take, List.length_take, Nat.min_eq_left (by omega), Nat.min_eq_left (by omega)]
      congr 1
      omega
theorem mixL_same {α : Type} {a b : List α} (h : a.length = b.length) {i : Nat} {x : α} (hi : a[i]? = some x) (hb : b[i]? = some x) : mixL a b i = mixL a b (i + 1) := by
  rw [← mixL_set h hi]
  have hl : i < b.length := (List.getElem?_eq_some_iff.1 hb).1
  have := mixL_at h hl
  rw [hb] at this
  apply List.ext_getElem?
  intro j
  by_cases e : j = i
  · subst e
    rw [List.getElem?_set_self (by rw [mixL_len h]; exact hl), this]
  · rw [List.getElem?_set_ne (fun z => e z.symm)]
theorem app_he {w : World} {base : Nat} {v : Value} {es : List HeC} (h : w.ownsRow base 61 2 v es.length (es.flatMap heCells)) (y : HeC) (hb : base ≤ w.heap.size) (hl : es.length + 1 ≤ 1000) :
    ∃ v' w', (Builtin.append_ #[56, 56] 56 #[v, .slice (some ⟨w.heap.size, 0, none⟩) 1 1]).run Tryz.prog (w.alloc (.cells #[.int .i64 y.1, slV y.2.1] 61)) = .ok v' w' ∧ w'.ownsRow base 61 2 v' (es ++ [y]).length ((es ++ [y]).flatMap heCells) ∧ Below base w w' ∧ Off (fun k => v.ownBlock = some k) w w' := by
  have bA : Below w.heap.size w (w.alloc (.cells #[.int .i64 y.1, slV y.2.1] 61)) := (Below.refl _ _).alloc (Nat.le_refl _) _
  have hc := varN_new w #[.int .i64 y.1, slV y.2.1] 61
  obtain ⟨v', w', hr, h2, h3, _⟩ := app_gen 56 Tryz.underlying56 Tryz.infoH rfl (by decide) (by decide) (owns_below h bA) (some ⟨w.heap.size, 0, none⟩) 1 1 (fun e => by cases e) (heCells y) rfl (fun a e j u hj => by
    cases e
    rw [WideShapes.add_plain, Nat.zero_add]
    exact hc.cell hj) (fun u hu => by
    have := he_one [y] u (by simpa using hu)
    exact this) (by omega) (Nat.le_trans hb bA.size)
  refine ⟨v', w', hr, ?_, ?_, (Off.of_below bA).trans (off_of_grown h3)⟩
  · rw [List.length_append, List.flatMap_append]
    simpa using h2
  · have hg := grown_below h3 (fun g hg => (h.lt g hg).1) (Nat.le_trans hb bA.size)
    exact ⟨hg.os.trans bA.os, hg.tape.trans bA.tape, hg.output.trans bA.output, Nat.le_trans bA.size hg.size, fun k hk => (hg.block k hk).trans (bA.block k (Nat.lt_of_lt_of_le hk hb))⟩
/-- What is written so far of one disk: R is to come. -/
def WrG (wo wr : World) (S : Nat → Bool) (T : List (Int × List Nat)) (v : Value) (R : List (Int × List Nat)) (m : Nat) : Prop := ∃ es : List HeC, wr.ownsRow wo.heap.size 61 2 v es.length (es.flatMap heCells) ∧ (∀ e, e ∈ es → BytL (blank S wo) (slV e.2.1) e.2.2) ∧ T = es.map heOf ++ R ∧ es.length ≤ m ∧ Below wo.heap.size wo wr
theorem WrG.off {wo wr wr' : World} {S : Nat → Bool} {T R : List (Int × List Nat)} {v : Value} {m : Nat} (h : WrG wo wr S T v R m) (hb : Below wr.heap.size wr wr') : WrG wo wr' S T v R m := by
  obtain ⟨es, h1, h2, h3, h4, h5⟩ := h
  exact ⟨es, owns_below h1 hb, h2, h3, h4, bt h5 hb⟩
theorem WrG.more {wo wr : World} {S : Nat → Bool} {T R : List (Int × List Nat)} {v : Value} {m m' : Nat} (h : WrG wo wr S T v R m) (hm : m ≤ m') : WrG wo wr S T v R m' := by
  obtain ⟨es, h1, h2, h3, h4, h5⟩ := h
  exact ⟨es, h1, h2, h3, Nat.le_trans h4 hm, h5⟩
theorem WrG.bel {wo wr : World} {S : Nat → Bool} {T R : List (Int × List Nat)} {v : Value} {m : Nat} (h : WrG wo wr S T v R m) : Below wo.heap.size wo wr := by
  obtain ⟨_, _, _, _, _, h5⟩ := h
  exact h5
/-- One more. -/
theorem WrG.app {wo wr : World} {S : Nat → Bool} {T R : List (Int × List Nat)} {v : Value} {m : Nat} (y : HeC) (h : WrG wo wr S T v (heOf y :: R) m) (hy : BytL (blank S wo) (slV y.2.1) y.2.2) (hm : m ≤ 900) :
    ∃ v' w', (Builtin.append_ #[56, 56] 56 #[v, .slice (some ⟨wr.heap.size, 0, none⟩) 1 1]).run Tryz.prog (wr.alloc (.cells #[.int .i64 y.1, slV y.2.1] 61)) = .ok v' w' ∧ WrG wo w' S T v' R (m + 1) ∧ Off (fun k => v.ownBlock = some k) wr w' := by
  obtain ⟨es, h1, h2, h3, h4, h5⟩ := h
  obtain ⟨v', w', hr, ho, hb, hoff⟩ := app_he h1 y h5.size (by omega)
  exact ⟨v', w', hr, ⟨es ++ [y], ho, fun e he => by
    rcases List.mem_append.1 he with z | z
    · exact h2 e z
    · rw [List.mem_singleton.1 z]
      exact hy, by rw [h3, List.map_append, List.append_assoc]; rfl, by rw [List.length_append]; show es.length + 1 ≤ m + 1; omega, Below.trans h5 hb⟩, hoff⟩
theorem WrG.lt {wo wr : World} {S : Nat → Bool} {T R : List (Int × List Nat)} {v : Value} {m : Nat} (h : WrG wo wr S T v R m) {b : Nat} (hb : v.ownBlock = some b) : b < wr.heap.size := by
  obtain ⟨es, h1, _⟩ := h
  exact (h1.lt b hb).2
theorem WrG.hes {wo wr : World} {S : Nat → Bool} {T : List (Int × List Nat)} {v : Value} {m : Nat} (h : WrG wo wr S T v [] m) (hS : ∀ k, S k = true → k < wo.heap.size) : Hes (blank S wr) v T := by
  obtain ⟨es, h1, h2, h3, h4, h5⟩ := h
  rw [h3, List.append_nil]
  exact hes_own h1 (fun g hg => by
    cases q : S g with
    | false => rfl
    | true =>
      have := hS g q
      have := (h1.lt g hg).1
      omega) fun e he => (h2 e he).sub (blank_below h5)
theorem WrG.shape {wo wr : World} {S : Nat → Bool} {T R : List (Int × List Nat)} {v : Value} {m : Nat} (h : WrG wo wr S T v R m) : ∃ A n C, v = .slice A n C := by
  obtain ⟨es, h1, _⟩ := h
  obtain ⟨A, C, hv, _⟩ := row_shape h1
  exact ⟨A, _, C, hv⟩
theorem ins_step {k : Int} {x : List Nat} {f : Bool} {bl : List (Int × List Nat)} {j : Nat} {h : Int × List Nat} (hj : bl[j]? = some h) : Sto.ins k x f (bl.drop j) = (if k ≤ h.1 ∧ f = false then [(k, x)] else []) ++ ((if h.1 = k then [] else [h]) ++ Sto.ins k x (f || decide (k ≤ h.1)) (bl.drop (j + 1))) := by
  rw [dropC8 hj, Sto.ins]
set_option maxHeartbeats 2000000 in
set_option maxRecDepth 100000 in
theorem refWrite_any (S : Nat → Bool) (P D n C : Nat) (x y z g u k : Int) (vt vs va vl : Value) (L : List (List Nat)) (V : Nat → Value) (ds : List Sto.Disk) (w : World) (hv : VarN w P 32 [.int .i64 x, .int .i64 y, .int .i64 z, .slice (some ⟨D, 0, none⟩) n C, .int .i64 g, vt, vs, .int .i64 u, va]) (hd : DkJ w S D V ds) (hS : ∀ k, S k = true → k < w.heap.size) (hn : n = ds.length) (h12 : n ≤ 12) (hC1 : n ≤ C) (hC2 : C ≤ maxLen) (hlen : ∀ (i : Nat) (d : Sto.Disk), ds[i]? = some d → d.bl.length ≤ 100) (hL : BlL (blank S w) vl L) (hLn : L.length = n) :
    Calls Tryz.prog 40 #[.pointer (some ⟨P, 0, none⟩), .int .i64 k, vl] w fun e w' => e = .returned (.tuple #[]) ∧ (∃ V', DkJ w' S D V' (Sto.write k L 0 ds)) ∧ Off (fun j => j = D) w w' := by
  have hPD : P ≠ D := hv.ty.ne hd.row.ty (by decide)
  have hDw : D < w.heap.size := hd.row.lt
  have HSD : Hid (S D = true) := hd.sD
  have HSS : Hid (∀ k, S k = true → k < w.heap.size) := hS
  have hwl : (Sto.write k L 0 ds).length = ds.length := Sto.write_length k L ds 0
  have HV : Hid (VarN w P 32 [.int .i64 x, .int .i64 y, .int .i64 z, .slice (some ⟨D, 0, none⟩) n C, .int .i64 g, vt, vs, .int .i64 u, va]) := hv
  have HN : Hid (n = ds.length) := hn
  have HW : Hid ((Sto.write k L 0 ds).length = ds.length) := hwl
  have HLE : Hid (∀ (i : Nat) (d : Sto.Disk), ds[i]? = some d → d.bl.length ≤ 100) := hlen
  have H0 : Hid ((∃ V', DkJ w S D V' (mixL (Sto.write k L 0 ds) ds 0)) ∧ Off (fun j => j = D) w w) := ⟨⟨V, hd⟩, Off.refl _ _⟩
  have c3 := hv.cell (i := 3) rfl
  have hC2 : C ≤ 9223372036854775807 := by unfold maxLen at hC2; exact hC2
  have HBL : Hid (BlL (blank S w) vl L) := hL
  obtain ⟨Al, Cl, rfl, hl1, hl2, _⟩ := hL
  rw [hLn] at hl1 HBL ⊢
  have hl2 : Cl ≤ 9223372036854775807 := by unfold maxLen at hl2; exact hl2
  have HLN : Hid (L.length = n) := hLn
  have HLR : Hid (∀ i, i < n → ∃ b o A9 m9 C9, Al = some ⟨b, o, none⟩ ∧ S b = false ∧ w.cell? ⟨b, o + i, none⟩ = some (.slice A9 m9 C9) ∧ BytL (blank S w) (.slice A9 m9 C9) (L.getD i [])) := fun i hi => by
    obtain ⟨A', C', hv', _, _, h3⟩ := HBL.out
    cases hv'
    obtain ⟨x9, hx9⟩ : ∃ x, L[i]? = some x := ⟨L[i]'(by omega), List.getElem?_eq_getElem _⟩
    obtain ⟨b, o, u9, e1, e2, e3⟩ := h3 i x9 hx9
    obtain ⟨q1, q2⟩ := blank_at e2
    have e4 := e3
    obtain ⟨_, A9, C9, rfl, _⟩ := e4
    refine ⟨b, o, A9, _, C9, e1, q1, q2, ?_⟩
    rw [List.getD_eq_getElem?_getD, hx9]
    exact e3
  clear hv hd hn hwl hlen hLn HBL hS
  go_enter Tryz.func40, Tryz.ntmps40
  go_wp2_with fail
  go_loopw [17] (fun x wr => ∃ i : Nat, i ≤ n ∧ x = .int .i64 i ∧ Hid ((∃ V', DkJ wr S D V' (mixL (Sto.write k L 0 ds) ds i)) ∧ Off (fun j => j = D) w wr)) (fun x _ => n - (intOf x).toNat)
  case atStart => exact ⟨0, Nat.zero_le _, rfl, H0⟩
  case round =>
    obtain ⟨i, hi, rfl, HR⟩ := hrel
    by_cases hlt : i < n
    · have hlt' : (i : Int) < (n : Int) := by omega
      obtain ⟨⟨V1, hD1⟩, hO1⟩ := HR.out
      have c3 := (HV.out.off hO1 hPD).cell (i := 3) rfl
      obtain ⟨d, hdi⟩ : ∃ d, ds[i]? = some d := ⟨ds[i]'(by rw [← HN.out]; exact hlt), List.getElem?_eq_getElem _⟩
      have hmi : (mixL (Sto.write k L 0 ds) ds i)[i]? = some d := (mixL_at HW.out (by rw [← HN.out]; exact hlt)).trans hdi
      have hml : i < (mixL (Sto.write k L 0 ds) ds i).length := (List.getElem?_eq_some_iff.1 hmi).1
      have g0 := hD1.gone hmi
      have g1 := hD1.held hml
      have hwi : (Sto.write k L 0 ds)[i]? = some (if d.gone then d else ⟨false, Sto.ins k (L.getD i []) false d.bl⟩) := by
        rw [Sto.write_at, hdi, Nat.zero_add]
        rfl
      by_cases hg : d.gone = true
      case pos =>
        rw [hg] at g0 hwi
        rw [if_pos rfl] at hwi
        have HNX : Hid ((∃ V', DkJ wr S D V' (mixL (Sto.write k L 0 ds) ds (i + 1))) ∧ Off (fun j => j = D) w wr) := ⟨⟨V1, by rw [← mixL_same HW.out hwi hdi]; exact hD1⟩, hO1⟩
        clear HR hD1 hO1 hdi hmi hml hwi hg g1
        go_wp2_with fail
        exact ⟨⟨i + 1, by omega, by go_num, HNX⟩, by simp [intOf]; omega⟩
      case neg =>
        have hg : d.gone = false := by simpa using hg
        rw [hg] at g0 hwi
        rw [if_neg (by decide)] at hwi
        have hH := hD1.hes i d hmi
        obtain ⟨Ah, Ch, hVi, hh1, hh2, hh3⟩ := hH
        rw [hVi] at g1
        obtain ⟨m, hml2⟩ : ∃ m, m = d.bl.length := ⟨_, rfl⟩
        rw [← hml2] at g1 hh1
        have hm100 : m ≤ 100 := by rw [hml2]; exact HLE.out i d hdi
        have hh2 : Ch ≤ 9223372036854775807 := by unfold maxLen at hh2; exact hh2
        obtain ⟨wo, hwo⟩ : ∃ q, q = wr := ⟨wr, rfl⟩
        have HHE : Hid (∀ j x, d.bl[j]? = some x → ∃ b o A9 m9 C9, Ah = some ⟨b, o, none⟩ ∧ wo.cell? ⟨b, o + j * 2, none⟩ = some (.int .i64 x.1) ∧ wo.cell? ⟨b, o + j * 2 + 1, none⟩ = some (.slice A9 m9 C9) ∧ BytL (blank S wo) (.slice A9 m9 C9) x.2) := fun j x9 hx9 => by
          obtain ⟨b, o, e1, u9, e2, e3, e4⟩ := hh3 j x9 hx9
          have e5 := e4
          obtain ⟨_, A9, C9, rfl, _⟩ := e5
          rw [hwo]
          exact ⟨b, o, A9, _, C9, e1, (blank_at e2).2, (blank_at e3).2, e4⟩
        obtain ⟨bl9, ol9, A8, m8, C8, rfl, hbD, hlc, hlb⟩ := HLR.out i hlt
        have hlc := (World.cell?_of_block (w := w) (a := ⟨bl9, ol9 + i, none⟩) (hO1.block bl9 (World.block_lt_of_cell? _ _ hlc) (fun e => by rw [e, HSD.out] at hbD; cases hbD))).trans hlc
        have HLB : Hid (BytL (blank S wo) (.slice A8 m8 C8) (L.getD i [])) := by
          rw [hwo]
          exact hlb.sub (blank_one HSD.out hO1)
        have HK : Hid (wo = wr ∧ DkJ wo S D V1 (mixL (Sto.write k L 0 ds) ds i) ∧ Off (fun j => j = D) w wo ∧ (mixL (Sto.write k L 0 ds) ds i)[i]? = some d ∧ (Sto.write k L 0 ds)[i]? = some ⟨false, Sto.ins k (L.getD i []) false d.bl⟩ ∧ m = d.bl.length ∧ d.gone = false) := ⟨hwo, by rw [hwo]; exact hD1, by rw [hwo]; exact hO1, hmi, hwi, hml2, hg⟩
        have H1 : Hid (WrG wo wr S (Sto.ins k (L.getD i []) false d.bl) (.slice none 0 0) (Sto.ins k (L.getD i []) false (d.bl.drop 0)) (2 * 0)) := ⟨[], by rw [hwo]; exact World.ownsRow_nil _ _ _ _, (fun _ h => by cases h), rfl, Nat.le_refl _, by rw [hwo]; exact Below.refl _ _⟩
        have g1w : wo.cell? ⟨D, i * 2 + 1, none⟩ = some (.slice Ah m Ch) := by rw [hwo]; exact g1
        have hlcw : wo.cell? ⟨bl9, ol9 + i, none⟩ = some (.slice A8 m8 C8) := by rw [hwo]; exact hlc
        have HGW : Hid (wo.cell? ⟨D, i * 2 + 1, none⟩ = some (.slice Ah m Ch) ∧ wo.cell? ⟨bl9, ol9 + i, none⟩ = some (.slice A8 m8 C8) ∧ wo.cell? ⟨P, 3, none⟩ = some (.slice (some ⟨D, 0, none⟩) n C)) := ⟨g1w, hlcw, by rw [hwo]; exact c3⟩
        clear HR hD1 hO1 hdi hmi hml hwi hg hVi hh3 hlb hwo hml2 g1w hlcw
        go_wp2_with fail
        clear g0 g1 c3
        go_loopw [8, 9, 35] (fun v8 v9 x wr => ∃ j : Nat, j ≤ m ∧ x = .int .i64 j ∧ ∃ f : Bool, v9 = .bool f ∧ Hid (WrG wo wr S (Sto.ins k (L.getD i []) false d.bl) v8 (Sto.ins k (L.getD i []) f (d.bl.drop j)) (2 * j))) (fun _ _ x _ => m - (intOf x).toNat)
        case atStart => exact ⟨0, Nat.zero_le _, rfl, false, rfl, H1⟩
        case round =>
          obtain ⟨j, hj, rfl, f, rfl, HR⟩ := hrel
          have hbo := HR.out.bel
          obtain ⟨gw1, gw2, gw3⟩ := HGW.out
          by_cases hlj : j < m
          · have hlj' : (j : Int) < (m : Int) := by omega
            obtain ⟨x9, hx9⟩ : ∃ x, d.bl[j]? = some x := ⟨d.bl[j]'(by rw [← HK.out.2.2.2.2.2.1]; exact hlj), List.getElem?_eq_getElem _⟩
            obtain ⟨b9, o9, A9, m9, C9, rfl, e0, e1, e2⟩ := HHE.out j x9 hx9
            have e0 := (hbo.cell (p := ⟨b9, o9 + j * 2, none⟩) (World.block_lt_of_cell? _ _ e0)).trans e0
            have e1 := (hbo.cell (p := ⟨b9, o9 + j * 2 + 1, none⟩) (World.block_lt_of_cell? _ _ e1)).trans e1
            have hlc := (hbo.cell (p := ⟨bl9, ol9 + i, none⟩) (World.block_lt_of_cell? _ _ gw2)).trans gw2
            have hstep := ins_step (k := k) (x := L.getD i []) (f := f) hx9
            obtain ⟨s9, hs9⟩ : ∃ q, q = x9.1 := ⟨_, rfl⟩
            rw [← hs9] at e0 hstep
            have VH := varN_new wr #[.int .i64 s9, .slice A9 m9 C9] 61
            have bA : Below wr.heap.size wr (wr.alloc (.cells #[.int .i64 s9, .slice A9 m9 C9] 61)) := (Below.refl _ _).alloc (Nat.le_refl _) _
            have hRA := HR.out.off bA
            have hlcA := (bA.cell (p := ⟨bl9, ol9 + i, none⟩) (World.block_lt_of_cell? _ _ hlc)).trans hlc
            have hx9' : x9 = (s9, x9.2) := by rw [hs9]
            have HY9 : Hid (BytL (blank S wo) (.slice A9 m9 C9) x9.2) := e2
            have h00 := VH.cell (i := 0) rfl
            have h01 := VH.cell (i := 1) rfl
            have HLT : Hid (∀ b, u8.ownBlock = some b → b ≠ wr.heap.size) := fun b hb e => by
              have := HR.out.lt hb
              omega
            rw [hstep] at hRA
            have HRA : Hid (WrG wo (wr.alloc (.cells #[.int .i64 s9, .slice A9 m9 C9] 61)) S (Sto.ins k (L.getD i []) false d.bl) u8 ((if k ≤ s9 ∧ f = false then [(k, L.getD i [])] else []) ++ ((if s9 = k then [] else [x9]) ++ Sto.ins k (L.getD i []) (f || decide (k ≤ s9)) (d.bl.drop (j + 1)))) (2 * j)) := hRA
            have HX9 : Hid (x9 = (s9, x9.2)) := hx9'
            have HVH : Hid (VarN (wr.alloc (.cells #[.int .i64 s9, .slice A9 m9 C9] 61)) wr.heap.size 61 [.int .i64 s9, .slice A9 m9 C9]) := VH
            have HHC : Hid ((wr.alloc (.cells #[.int .i64 s9, .slice A9 m9 C9] 61)).cell? ⟨bl9, ol9 + i, none⟩ = some (.slice A8 m8 C8)) := hlcA
            clear HR hRA hstep hx9 hx9' VH hs9 hlcA h00 h01 bA
            go_upto_region 10 with fail
            obtain ⟨wA, hwA⟩ : ∃ y, y = wr.alloc (.cells #[.int .i64 s9, .slice A9 m9 C9] 61) := ⟨_, rfl⟩
            rw [← hwA] at HRA HVH HHC ⊢
            obtain ⟨Q, hQ⟩ : ∃ y, y = wr.heap.size := ⟨_, rfl⟩
            rw [← hQ] at HVH HLT ⊢
            have VH := HVH.out
            have hRA := HRA.out
            have hx9' := HX9.out
            have hlcA := HHC.out
            have h00 := VH.cell (i := 0) rfl
            have h01 := VH.cell (i := 1) rfl
            clear hwA hQ e0 e1 hlc hbo HRA HVH HHC HX9
            by_cases hA : k ≤ s9 ∧ f = false
            · obtain ⟨hks, rfl⟩ := hA
              rw [if_pos ⟨hks, rfl⟩, Bool.false_or, decide_eq_true hks] at hRA
              by_cases hs : s9 = k
              · rw [if_pos hs] at hRA
                obtain ⟨v1, w1, hrun, hR1, ho1⟩ := WrG.app (k, (A8, m8, C8), L.getD i []) hRA HLB.out (by omega)
                have hrun : (Builtin.append_ #[56, 56] 56 #[u8, .slice (some ⟨wA.heap.size, 0, none⟩) 1 1]).run Tryz.prog (wA.alloc (.cells #[.int .i64 k, .slice A8 m8 C8] 61)) = .ok v1 w1 := hrun
                have HNX : Hid (WrG wo w1 S (Sto.ins k (L.getD i []) false d.bl) v1 (Sto.ins k (L.getD i []) true (d.bl.drop (j + 1))) (2 * (j + 1))) := hR1.more (by omega)
                have VQ := VH.off ho1 (fun e => HLT.out _ e rfl)
                have q0 := VQ.cell (i := 0) rfl
                have hkk : (s9 != k) = false := by rw [hs]; simp
                clear hRA hR1 hx9' HY9 VQ VH ho1 HLT hs
                go_wp2_with (at_builtin; refine Lib.wpList_append_run _ rfl _ _ _ _ rfl _ _ rfl rfl _ _ hrun ?_)
                all_goals exact ⟨⟨j + 1, by omega, by go_num, true, rfl, HNX⟩, by simp [intOf]; omega⟩
              · rw [if_neg hs] at hRA
                obtain ⟨v1, w1, hrun, hR1, ho1⟩ := WrG.app (k, (A8, m8, C8), L.getD i []) hRA HLB.out (by omega)
                have hrun : (Builtin.append_ #[56, 56] 56 #[u8, .slice (some ⟨wA.heap.size, 0, none⟩) 1 1]).run Tryz.prog (wA.alloc (.cells #[.int .i64 k, .slice A8 m8 C8] 61)) = .ok v1 w1 := hrun
                have hR1 : WrG wo w1 S (Sto.ins k (L.getD i []) false d.bl) v1 (x9 :: Sto.ins k (L.getD i []) true (d.bl.drop (j + 1))) (2 * j + 1) := hR1
                rw [hx9'] at hR1
                obtain ⟨v2, w2, hrun2, hR2, _⟩ := WrG.app (s9, (A9, m9, C9), x9.2) hR1 HY9.out (by omega)
                have hrun2 : (Builtin.append_ #[56, 56] 56 #[v1, .slice (some ⟨w1.heap.size, 0, none⟩) 1 1]).run Tryz.prog (w1.alloc (.cells #[.int .i64 s9, .slice A9 m9 C9] 61)) = .ok v2 w2 := hrun2
                have HNX : Hid (WrG wo w2 S (Sto.ins k (L.getD i []) false d.bl) v2 (Sto.ins k (L.getD i []) true (d.bl.drop (j + 1))) (2 * (j + 1))) := hR2.more (by omega)
                have VQ := VH.off ho1 (fun e => HLT.out _ e rfl)
                have q0 := VQ.cell (i := 0) rfl
                have q1 := VQ.cell (i := 1) rfl
                have hkk : (s9 != k) = true := by rw [bne_iff_ne]; exact hs
                clear hRA hR1 hR2 hx9' HY9 VQ VH ho1 HLT hs
                go_wp2_with (first | (at_builtin; refine Lib.wpList_append_run _ rfl _ _ _ _ rfl _ _ rfl rfl _ _ hrun ?_) | (at_builtin; refine Lib.wpList_append_run _ rfl _ _ _ _ rfl _ _ rfl rfl _ _ hrun2 ?_))
                all_goals exact ⟨⟨j + 1, by omega, by go_num, true, rfl, HNX⟩, by simp [intOf]; omega⟩
            · have hff : (f || decide (k ≤ s9)) = f := by
                cases f with
                | true => rfl
                | false =>
                  rw [Bool.false_or]
                  exact decide_eq_false fun z => hA ⟨z, rfl⟩
              rw [if_neg hA, hff, List.nil_append] at hRA
              have hg1 : f = false → decide (k ≤ s9) = false := fun e => decide_eq_false fun z => hA ⟨z, e⟩
              by_cases hs : s9 = k
              · rw [if_pos hs, List.nil_append] at hRA
                have HNX : Hid (WrG wo wA S (Sto.ins k (L.getD i []) false d.bl) u8 (Sto.ins k (L.getD i []) f (d.bl.drop (j + 1))) (2 * (j + 1))) := hRA.more (by omega)
                have hkk : (s9 != k) = false := by rw [hs]; simp
                cases f with
                | true =>
                  clear hRA hx9' HY9 VH HLT hs hA hff hg1
                  go_wp2_with fail
                  all_goals exact ⟨⟨j + 1, by omega, by go_num, true, rfl, HNX⟩, by simp [intOf]; omega⟩
                | false => exact absurd ⟨by omega, rfl⟩ hA
              · rw [if_neg hs] at hRA
                have hRA : WrG wo wA S (Sto.ins k (L.getD i []) false d.bl) u8 (x9 :: Sto.ins k (L.getD i []) f (d.bl.drop (j + 1))) (2 * j) := hRA
                rw [hx9'] at hRA
                obtain ⟨v2, w2, hrun2, hR2, _⟩ := WrG.app (s9, (A9, m9, C9), x9.2) hRA HY9.out (by omega)
                have hrun2 : (Builtin.append_ #[56, 56] 56 #[u8, .slice (some ⟨wA.heap.size, 0, none⟩) 1 1]).run Tryz.prog (wA.alloc (.cells #[.int .i64 s9, .slice A9 m9 C9] 61)) = .ok v2 w2 := hrun2
                have HNX : Hid (WrG wo w2 S (Sto.ins k (L.getD i []) false d.bl) v2 (Sto.ins k (L.getD i []) f (d.bl.drop (j + 1))) (2 * (j + 1))) := hR2.more (by omega)
                have hkk : (s9 != k) = true := by rw [bne_iff_ne]; exact hs
                cases f with
                | true =>
                  clear hRA hR2 hx9' HY9 VH HLT hs hA hff hg1
                  go_wp2_with (at_builtin; refine Lib.wpList_append_run _ rfl _ _ _ _ rfl _ _ rfl rfl _ _ hrun2 ?_)
                  all_goals exact ⟨⟨j + 1, by omega, by go_num, true, rfl, HNX⟩, by simp [intOf]; omega⟩
                | false =>
                  have hg2 := hg1 rfl
                  have hg3 : s9 < k := by have := of_decide_eq_false hg2; omega
                  clear hRA hR2 hx9' HY9 VH HLT hs hA hff hg1
                  go_wp2_with (at_builtin; refine Lib.wpList_append_run _ rfl _ _ _ _ rfl _ _ rfl rfl _ _ hrun2 ?_)
                  exact ⟨⟨j + 1, by omega, by go_num, false, rfl, HNX⟩, by simp [intOf]; omega⟩
          · obtain rfl : j = m := by omega
            obtain ⟨hk1, hk2, hk3, hk4, hk5, hk6, hk7⟩ := HK.out
            have hlc := (hbo.cell (p := ⟨bl9, ol9 + i, none⟩) (World.block_lt_of_cell? _ _ gw2)).trans gw2
            have hR0 := HR.out
            rw [hk6, List.drop_length] at hR0
            have hfin : ∀ (v : Value) (w1 : World) (m' : Nat), WrG wo w1 S (Sto.ins k (L.getD i []) false d.bl) v [] m' → (∃ V', DkJ (w1.setCell ⟨D, i * 2 + 1, none⟩ v) S D V' (mixL (Sto.write k L 0 ds) ds (i + 1))) ∧ Off (fun j => j = D) w (w1.setCell ⟨D, i * 2 + 1, none⟩ v) := fun v w1 m' hG => by
              have hD1 := (hk2.off hG.bel).set hk4 v _ (hG.hes fun q hq => Nat.lt_of_lt_of_le (HSS.out q hq) hk3.size)
              rw [hk7, mixL_set HW.out hk5] at hD1
              exact ⟨⟨_, hD1⟩, (hk3.trans (Off.of_below hG.bel)).trans (off_set _ ⟨D, i * 2 + 1, none⟩ _)⟩
            cases f with
            | true =>
              have hR0 : WrG wo wr S (Sto.ins k (L.getD i []) false d.bl) u8 [] (2 * d.bl.length) := hR0
              have HNX : Hid ((∃ V', DkJ (wr.setCell ⟨D, i * 2 + 1, none⟩ u8) S D V' (mixL (Sto.write k L 0 ds) ds (i + 1))) ∧ Off (fun j => j = D) w (wr.setCell ⟨D, i * 2 + 1, none⟩ u8)) := hfin u8 wr _ hR0
              have g1 := (hk2.off hbo).held (List.getElem?_eq_some_iff.1 hk4).1
              have hfr := (hk2.off hbo).row.frozen (i * 2 + 1)
              obtain ⟨A7, n7, C7, rfl⟩ := hR0.shape
              clear HR hR0 hfin hk1 hk2 hk3 hk4 hk5 hk6 hk7
              go_wp2_with fail
              exact ⟨⟨i + 1, by omega, by go_num, HNX⟩, by simp [intOf]; omega⟩
            | false =>
              have hR0 : WrG wo wr S (Sto.ins k (L.getD i []) false d.bl) u8 [(k, L.getD i [])] (2 * d.bl.length) := hR0
              obtain ⟨v1, w1, hrun, hR1, ho1⟩ := WrG.app (k, (A8, m8, C8), L.getD i []) hR0 HLB.out (by omega)
              have hrun : (Builtin.append_ #[56, 56] 56 #[u8, .slice (some ⟨wr.heap.size, 0, none⟩) 1 1]).run Tryz.prog (wr.alloc (.cells #[.int .i64 k, .slice A8 m8 C8] 61)) = .ok v1 w1 := hrun
              have HNX : Hid ((∃ V', DkJ (w1.setCell ⟨D, i * 2 + 1, none⟩ v1) S D V' (mixL (Sto.write k L 0 ds) ds (i + 1))) ∧ Off (fun j => j = D) w (w1.setCell ⟨D, i * 2 + 1, none⟩ v1)) := hfin v1 w1 _ hR1
              have g1 := (hk2.off hR1.bel).held (List.getElem?_eq_some_iff.1 hk4).1
              have hfr := (hk2.off hR1.bel).row.frozen (i * 2 + 1)
              obtain ⟨A7, n7, C7, rfl⟩ := hR1.shape
              clear HR hR0 hR1 hfin hk1 hk2 hk3 hk4 hk5 hk6 hk7 ho1
              go_wp2_with (at_builtin; refine Lib.wpList_append_run _ rfl _ _ _ _ rfl _ _ rfl rfl _ _ hrun ?_)
              exact ⟨⟨i + 1, by omega, by go_num, HNX⟩, by simp [intOf]; omega⟩
    · obtain rfl : i = n := by omega
      have HF := HR.out
      rw [HN.out, mixL_all HW.out] at HF
      have HF2 : Hid ((∃ V', DkJ wr S D V' (Sto.write k L 0 ds)) ∧ Off (fun j => j = D) w wr) := HF
      clear HR HF
      go_wp2_with fail
      go_end0
      exact ⟨rfl, HF2.out⟩

end Go.Proofs.YtmcaejooaaahdaaGreat

namespace Go.Proofs.YtmcaejooaaahdaaGreat

def hads (l : List Sto.Do) (P : List (Int × Int)) : List (Int × Int) := l.foldl (fun h d => Sto.hadOf d h) P
theorem hads_next {l : List Sto.Do} {k : Nat} {d : Sto.Do} (h : l[k]? = some d) (P : List (Int × Int)) : hads (l.take (k + 1)) P = Sto.hadOf d (hads (l.take k) P) := by
  rw [List.take_add_one, h]
  unfold hads
  rw [List.foldl_append]
  rfl
end Go.Proofs.YtmcaejooaaahdaaGreat

namespace Go.Proofs.YtmcaejooaaahdaaGreat
open Evt (Ev Bat)

theorem cnt_filter (M : Nat → Bool) : ∀ N, ((List.range N).filter M).length = cnt M N
  | 0 => rfl
  | N + 1 => by
    rw [List.range_succ, List.filter_append, List.length_append, cnt_filter M N]
    show _ + ([N].filter M).length = cnt M N + if M N then 1 else 0
    by_cases q : M N = true
    · simp [q]
    · simp [q]
theorem mem_few {M : Nat → Bool} {N x : Nat} : x ∈ (List.range N).filter M ↔ x < N ∧ M x = true := by
  rw [List.mem_filter, List.mem_range]

/-! ### What was told, one thing more -/
theorem told_append : ∀ (a b : List (Sto.Do × Sto.Ans)) (cm : List Int), Sto.toldOf (a ++ b) cm = Sto.toldOf a cm ++ Sto.toldOf b (a.foldl (fun cm x => Sto.cmds x.1 x.2 cm) cm)
  | [], _, _ => rfl
  | (d, a) :: r, b, cm => by
    rw [List.cons_append, Sto.told_cons, Sto.told_cons, told_append r b, List.append_assoc]
    rfl
section
variable {X : Sto.Six} {c : Sto.Cfg} {l : List Sto.Do} {k : Nat} {d : Sto.Do} {M M' : Nat → Bool}
def stK (X : Sto.Six) (c : Sto.Cfg) (l : List Sto.Do) (k : Nat) : Sto.St := (Sto.steps X c (Sto.start c) (l.take k)).1
def zipK (X : Sto.Six) (c : Sto.Cfg) (l : List Sto.Do) (k : Nat) : List (Sto.Do × Sto.Ans) := (l.zip (Sto.steps X c (Sto.start c) l).2).take k
def toldK (X : Sto.Six) (c : Sto.Cfg) (l : List Sto.Do) (k : Nat) : List Ev := Sto.toldOf (zipK X c l k) []
def cmK (X : Sto.Six) (c : Sto.Cfg) (l : List Sto.Do) (k : Nat) : List Int := (zipK X c l k).foldl (fun cm x => Sto.cmds x.1 x.2 cm) []
theorem ansK (hd : l[k]? = some d) : (Sto.steps X c (Sto.start c) l).2[k]? = some (Sto.step X c (stK X c l k) d).2 := Sto.steps_at hd
theorem stK_next (hd : l[k]? = some d) : stK X c l (k + 1) = (Sto.step X c (stK X c l k) d).1 := Sto.steps_next hd
theorem zipK_next (hd : l[k]? = some d) : zipK X c l (k + 1) = zipK X c l k ++ [(d, (Sto.step X c (stK X c l k) d).2)] := by
  unfold zipK
  have hz : (l.zip (Sto.steps X c (Sto.start c) l).2)[k]? = some (d, (Sto.step X c (stK X c l k) d).2) := List.getElem?_zip_eq_some.2 ⟨hd, ansK hd⟩
  rw [List.take_add_one, hz]
  rfl
/-- Those that M strikes were hurt; of the others all is as it was laid. -/
structure KW (X : Sto.Six) (c : Sto.Cfg) (l : List Sto.Do) (k : Nat) (M : Nat → Bool) : Prop where
  ok : ∃ BL, Sto.Inv X c (stK X c l k) BL (hads (l.take k) []) ∧ toldK X c l k = Sto.evsOf BL.flatten ++ Sto.evsOf (stK X c l k).tail ∧ Sto.Agrees (stK X c l k) (toldK X c l k) (cmK X c l k) ∧ Sto.Whole X c (stK X c l k) BL ((List.range (c.d + c.s)).filter M)
theorem KW.next (hg : Sto.Good X c) (h : KW X c l k M) (hd : l[k]? = some d) (hb : d.turn < 256) (ho : d.kind = 7 ∧ d.turn ≠ 0 → (d.n, d.seg) ∉ hads (l.take k) []) (hs : cnt M (c.d + c.s) ≤ c.s) (hm : ∀ x, x ∈ Sto.hurtOf X c (stK X c l k) d ((List.range (c.d + c.s)).filter M) → x < c.d + c.s → M' x = true) : KW X c l (k + 1) M' := by
  obtain ⟨BL, i1, i2, i3, i4⟩ := h.ok
  obtain ⟨BL', q1, q2, q3, q4⟩ := Sto.step_inv hg i1 d hb ho
  have hag := Sto.step_agrees (X := X) (c := c) i3 d
  have hto : toldK X c l (k + 1) = toldK X c l k ++ Sto.adds X c (stK X c l k) d := by
    unfold toldK
    rw [zipK_next hd, told_append]
    show _ ++ Sto.toldOf [(d, _)] (cmK X c l k) = _
    rw [Sto.told_cons, Sto.adds_told i3]
    show _ ++ (_ ++ []) = _
    rw [List.append_nil]
  have hcm : cmK X c l (k + 1) = Sto.cmds d (Sto.step X c (stK X c l k) d).2 (cmK X c l k) := by
    unfold cmK
    rw [zipK_next hd, List.foldl_append]
    rfl
  refine ⟨BL', ?_, ?_, ?_, ?_⟩
  · rw [stK_next hd, hads_next hd]
    exact q1
  · rw [stK_next hd, hto, q2, i2]
  · rw [stK_next hd, hto, hcm]
    exact hag
  · rw [stK_next hd]
    have hl : (Sto.step X c (stK X c l k) d).1.disks.length = c.d + c.s := q1.dl
    have hw : Sto.Whole X c (Sto.step X c (stK X c l k) d).1 BL' (Sto.hurtOf X c (stK X c l k) d ((List.range (c.d + c.s)).filter M)) := by
      by_cases k1 : d.kind = 1
      · have e : Sto.hurtOf X c (stK X c l k) d ((List.range (c.d + c.s)).filter M) = (List.range (c.d + c.s)).filter M := by
          unfold Sto.hurtOf
          rw [if_neg (by omega), if_neg (by omega)]
        rw [e]
        exact q3 k1 _ i4
      · rw [q4 k1]
        exact (Sto.step_whole hg i1 i4 (by rw [cnt_filter]; exact hs) d k1).1
    intro i x hx hn
    refine hw i x hx fun z => hn (mem_few.2 ?_)
    have hi : i < c.d + c.s := by
      rw [← hl]
      exact (List.getElem?_eq_some_iff.1 hx).1
    exact ⟨hi, hm i z hi⟩
/-- What is asked is told; a scrub mends all. -/
theorem KW.told (hg : Sto.Good X c) (h : KW X c l k M) (hs : cnt M (c.d + c.s) ≤ c.s) : Sto.Answers d (Sto.step X c (stK X c l k) d).2 (toldK X c l k) := by
  obtain ⟨BL, i1, i2, i3, i4⟩ := h.ok
  by_cases q : d.kind = 2 ∨ d.kind = 3 ∨ d.kind = 4
  · have e : Sto.step X c (stK X c l k) d = (stK X c l k, Sto.looks X c (stK X c l k) d) := by
      unfold Sto.step
      rw [if_neg (by omega), if_pos q]
    rw [e]
    have ha := Sto.all_kept hg i1 i4 (by rw [cnt_filter]; exact hs)
    rw [← i2] at ha
    exact Sto.looks_ok ha i3.ok
  · exact Sto.answers_else q _ _
theorem KW.scrub (hg : Sto.Good X c) (h : KW X c l k M) (hs : cnt M (c.d + c.s) ≤ c.s) (k8 : d.kind = 8) : (Sto.step X c (stK X c l k) d).2.err = 0 := by
  obtain ⟨BL, i1, i2, i3, i4⟩ := h.ok
  exact (Sto.step_whole hg i1 i4 (by rw [cnt_filter]; exact hs) d (by omega)).2 k8
end

end Go.Proofs.YtmcaejooaaahdaaGreat
