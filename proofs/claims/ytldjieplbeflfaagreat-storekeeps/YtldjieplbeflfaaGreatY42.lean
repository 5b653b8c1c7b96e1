/-
  Texts of the proof, joined: HPlayC, HTold, HToldB.
-/
import Derived.Test.YtldjieplbeflfaaGreatY41
import Derived.Maps.Own
import Derived.Maps.Views
namespace Go.Proofs.YtldjieplbeflfaaGreat
open Go.RowKit

/-- Nothing is played: an error. -/
def NoPlay (e : Ending) (w w' : World) (x : Nat) : Prop := e = .returned (.tuple #[.agg #[.int .i64 0, .int .i64 0, .int .i64 0, .slice none 0 0, .int .i64 0, .slice none 0 0, .slice none 0 0, .int .i64 0, .slice none 0 0], .slice none 0 0, .int .i64 (x : Nat)]) ∧ Below w.heap.size w w'
set_option maxHeartbeats 1000000 in
set_option maxRecDepth 100000 in
theorem play_bad (d s b : Int) (A : Option Addr) (n C : Nat) (w : World) (x : Nat) (hx : x = wrongS d s b) (h0 : x ≠ 0) :
    Calls Tryz.prog 10 #[.agg #[.int .i64 d, .int .i64 s, .int .i64 b], .slice A n C] w fun e w' => NoPlay e w w' x := by
  have b2 : Below w.heap.size w ((w.alloc (.cells #[.int .i64 d, .int .i64 s, .int .i64 b] 23)).alloc (.cells #[.int .i64 0, .int .i64 0, .int .i64 0, .slice none 0 0, .int .i64 0, .slice none 0 0, .slice none 0 0, .int .i64 0, .slice none 0 0] 33)) := ((Below.refl _ _).alloc (Nat.le_refl _) _).alloc ((Below.refl _ _).alloc (Nat.le_refl _) _).size _
  have bB : Below (w.alloc (.cells #[.int .i64 d, .int .i64 s, .int .i64 b] 23)).heap.size (w.alloc (.cells #[.int .i64 d, .int .i64 s, .int .i64 b] 23)) ((w.alloc (.cells #[.int .i64 d, .int .i64 s, .int .i64 b] 23)).alloc (.cells #[.int .i64 0, .int .i64 0, .int .i64 0, .slice none 0 0, .int .i64 0, .slice none 0 0, .slice none 0 0, .int .i64 0, .slice none 0 0] 33)) := (Below.refl _ _).alloc (Nat.le_refl _) _
  have VS := (varN_new w #[.int .i64 d, .int .i64 s, .int .i64 b] 23).below bB
  have VT := varN_new (w.alloc (.cells #[.int .i64 d, .int .i64 s, .int .i64 b] 23)) #[.int .i64 0, .int .i64 0, .int .i64 0, .slice none 0 0, .int .i64 0, .slice none 0 0, .slice none 0 0, .int .i64 0, .slice none 0 0] 33
  rw [show (w.alloc (.cells #[.int .i64 d, .int .i64 s, .int .i64 b] 23)).heap.size = w.heap.size + 1 by simp] at VT
  have HW := storeWrong_any d s b ((w.alloc (.cells #[.int .i64 d, .int .i64 s, .int .i64 b] 23)).alloc (.cells #[.int .i64 0, .int .i64 0, .int .i64 0, .slice none 0 0, .int .i64 0, .slice none 0 0, .slice none 0 0, .int .i64 0, .slice none 0 0] 33))
  rw [← hx] at HW
  have hxn : ((x : Int) != 0) = true := by rw [bne_iff_ne]; omega
  clear hx h0
  clear bB
  go_enter Tryz.func10, Tryz.ntmps10
  go_upto_region 1 with fail
  generalize (w.alloc (.cells #[.int .i64 d, .int .i64 s, .int .i64 b] 23)).alloc (.cells #[.int .i64 0, .int .i64 0, .int .i64 0, .slice none 0 0, .int .i64 0, .slice none 0 0, .slice none 0 0, .int .i64 0, .slice none 0 0] 33) = w2 at *
  have s0 := VS.cell (i := 0) rfl
  have s1 := VS.cell (i := 1) rfl
  have s2 := VS.cell (i := 2) rfl
  have HVT : Hid (VarN w2 (w.heap.size + 1) 33 #[.int .i64 0, .int .i64 0, .int .i64 0, .slice none 0 0, .int .i64 0, .slice none 0 0, .slice none 0 0, .int .i64 0, .slice none 0 0].toList) := VT
  have HB2 : Hid (Below w.heap.size w w2) := b2
  clear VS VT b2
  go_wp2_with fail
  refine HW.mono ?_
  rintro e w3 ⟨rfl, hb3⟩
  have VT3 := HVT.out.below hb3
  have HFI : Hid (∀ w', Off (fun k => k = w.heap.size + 1) w3 w' → Below w.heap.size w w') := fun w' ho => (bt HB2.out hb3).trans (ho.below (bt HB2.out hb3).size fun k e => by omega)
  have b0 := VT3.cell (i := 0) rfl
  have b1 := VT3.cell (i := 1) rfl
  have b2 := VT3.cell (i := 2) rfl
  have b3 := VT3.cell (i := 3) rfl
  have b4 := VT3.cell (i := 4) rfl
  have b5 := VT3.cell (i := 5) rfl
  have b6 := VT3.cell (i := 6) rfl
  have b7 := VT3.cell (i := 7) rfl
  have b8 := VT3.cell (i := 8) rfl
  have f0 := VT3.frozen 0
  have f1 := VT3.frozen 1
  have f2 := VT3.frozen 2
  have f3 := VT3.frozen 3
  have f4 := VT3.frozen 4
  have f5 := VT3.frozen 5
  have f6 := VT3.frozen 6
  have f7 := VT3.frozen 7
  have f8 := VT3.frozen 8
  clear VT3 hb3 s0 s1 s2 HW
  go_wp2_with fail
  refine bodyPost_ret (v := .tuple #[.agg #[.int .i64 0, .int .i64 0, .int .i64 0, .slice none 0 0, .int .i64 0, .slice none 0 0, .slice none 0 0, .int .i64 0, .slice none 0 0], .slice none 0 0, .int .i64 (x : Nat)]) (by simp [results, Tryz.results10, go_sem, b0, b1, b2, b3, b4, b5, b6, b7, b8]) rfl ⟨rfl, ?_⟩
  exact HFI.out _ (off_nine _ _ _ _ _ _ _ _ _ _ _)
set_option maxHeartbeats 1000000 in
set_option maxRecDepth 100000 in
theorem play_many (d s b : Int) (A : Option Addr) (n C : Nat) (w : World) (hx : wrongS d s b = 0) (h80 : 80 < n) :
    Calls Tryz.prog 10 #[.agg #[.int .i64 d, .int .i64 s, .int .i64 b], .slice A n C] w fun e w' => NoPlay e w w' 5 := by
  have b2 : Below w.heap.size w ((w.alloc (.cells #[.int .i64 d, .int .i64 s, .int .i64 b] 23)).alloc (.cells #[.int .i64 0, .int .i64 0, .int .i64 0, .slice none 0 0, .int .i64 0, .slice none 0 0, .slice none 0 0, .int .i64 0, .slice none 0 0] 33)) := ((Below.refl _ _).alloc (Nat.le_refl _) _).alloc ((Below.refl _ _).alloc (Nat.le_refl _) _).size _
  have bB : Below (w.alloc (.cells #[.int .i64 d, .int .i64 s, .int .i64 b] 23)).heap.size (w.alloc (.cells #[.int .i64 d, .int .i64 s, .int .i64 b] 23)) ((w.alloc (.cells #[.int .i64 d, .int .i64 s, .int .i64 b] 23)).alloc (.cells #[.int .i64 0, .int .i64 0, .int .i64 0, .slice none 0 0, .int .i64 0, .slice none 0 0, .slice none 0 0, .int .i64 0, .slice none 0 0] 33)) := (Below.refl _ _).alloc (Nat.le_refl _) _
  have VS := (varN_new w #[.int .i64 d, .int .i64 s, .int .i64 b] 23).below bB
  have VT := varN_new (w.alloc (.cells #[.int .i64 d, .int .i64 s, .int .i64 b] 23)) #[.int .i64 0, .int .i64 0, .int .i64 0, .slice none 0 0, .int .i64 0, .slice none 0 0, .slice none 0 0, .int .i64 0, .slice none 0 0] 33
  rw [show (w.alloc (.cells #[.int .i64 d, .int .i64 s, .int .i64 b] 23)).heap.size = w.heap.size + 1 by simp] at VT
  have HW := storeWrong_any d s b ((w.alloc (.cells #[.int .i64 d, .int .i64 s, .int .i64 b] 23)).alloc (.cells #[.int .i64 0, .int .i64 0, .int .i64 0, .slice none 0 0, .int .i64 0, .slice none 0 0, .slice none 0 0, .int .i64 0, .slice none 0 0] 33))
  rw [hx] at HW
  have hn : (80 : Int) < (n : Int) := by omega
  have hnd : decide ((80 : Int) < (n : Int)) = true := decide_eq_true hn
  clear hx h80
  clear bB
  go_enter Tryz.func10, Tryz.ntmps10
  go_upto_region 1 with fail
  generalize (w.alloc (.cells #[.int .i64 d, .int .i64 s, .int .i64 b] 23)).alloc (.cells #[.int .i64 0, .int .i64 0, .int .i64 0, .slice none 0 0, .int .i64 0, .slice none 0 0, .slice none 0 0, .int .i64 0, .slice none 0 0] 33) = w2 at *
  have s0 := VS.cell (i := 0) rfl
  have s1 := VS.cell (i := 1) rfl
  have s2 := VS.cell (i := 2) rfl
  have HVT : Hid (VarN w2 (w.heap.size + 1) 33 #[.int .i64 0, .int .i64 0, .int .i64 0, .slice none 0 0, .int .i64 0, .slice none 0 0, .slice none 0 0, .int .i64 0, .slice none 0 0].toList) := VT
  have HB2 : Hid (Below w.heap.size w w2) := b2
  clear VS VT b2
  go_wp2_with fail
  refine HW.mono ?_
  rintro e w3 ⟨rfl, hb3⟩
  have VT3 := HVT.out.below hb3
  have HFI : Hid (∀ w', Off (fun k => k = w.heap.size + 1) w3 w' → Below w.heap.size w w') := fun w' ho => (bt HB2.out hb3).trans (ho.below (bt HB2.out hb3).size fun k e => by omega)
  have b0 := VT3.cell (i := 0) rfl
  have b1 := VT3.cell (i := 1) rfl
  have b2 := VT3.cell (i := 2) rfl
  have b3 := VT3.cell (i := 3) rfl
  have b4 := VT3.cell (i := 4) rfl
  have b5 := VT3.cell (i := 5) rfl
  have b6 := VT3.cell (i := 6) rfl
  have b7 := VT3.cell (i := 7) rfl
  have b8 := VT3.cell (i := 8) rfl
  have f0 := VT3.frozen 0
  have f1 := VT3.frozen 1
  have f2 := VT3.frozen 2
  have f3 := VT3.frozen 3
  have f4 := VT3.frozen 4
  have f5 := VT3.frozen 5
  have f6 := VT3.frozen 6
  have f7 := VT3.frozen 7
  have f8 := VT3.frozen 8
  clear VT3 hb3 s0 s1 s2 HW
  go_wp2_with fail
  refine bodyPost_ret (v := .tuple #[.agg #[.int .i64 0, .int .i64 0, .int .i64 0, .slice none 0 0, .int .i64 0, .slice none 0 0, .slice none 0 0, .int .i64 0, .slice none 0 0], .slice none 0 0, .int .i64 (5 : Nat)]) (by simp [results, Tryz.results10, go_sem, b0, b1, b2, b3, b4, b5, b6, b7, b8]) rfl ⟨rfl, ?_⟩
  exact HFI.out _ (off_nine _ _ _ _ _ _ _ _ _ _ _)

end Go.Proofs.YtldjieplbeflfaaGreat

namespace Go.Proofs.YtldjieplbeflfaaGreat
open Go.RowKit Go.Maps

/-! ### A set of commands -/
theorem keyedI : Keyed Tryz.prog 3 := int_keyed Tryz.underlying3
theorem Tryz.zeroBoolI (w : World) : (zeroValue 4).run Tryz.prog w = .ok (.bool false) w := by kernel_rfl
theorem Tryz.mapIB : Tryz.prog.underlying 49 = some (.map 3 4) := by kernel_rfl
/-- Block b is a map that tells true of these commands. -/
def HadI (w : World) (b m : Nat) (P : List Int) : Prop := ∃ D : DataW Unit, w.ownsMap Tryz.prog 3 (plainElem Tryz.prog 4) b m D ∧ ∀ j : Int, 1 ≤ j → j ≤ 1000000 → D.atKey (.int .i64 j) (.lit (.bool false)) = .lit (.bool (decide (j ∈ P)))
set_option maxRecDepth 100000 in
theorem plainElem_boolI {v : Value} {z : DataW Unit × List MemPlace} (h : plainElem Tryz.prog 4 v = some z) : ∃ x, v = .bool x ∧ z = (.lit (.bool x), []) := by
  unfold plainElem at h
  rw [Tryz.underlying4] at h
  cases v <;> simp at h
  subst h
  exact ⟨_, rfl, rfl⟩
theorem keyI (j : Int) (h1 : 1 ≤ j) (h2 : j ≤ 1000000) : keyOf Tryz.prog 3 (.int .i64 j) = some (.int .i64 j) := keyOf_int_mk Tryz.underlying3 (WalkArith.wf_i64 (by omega))
theorem hadI_start (w : World) : HadI (w.alloc (.map #[] 0)) w.heap.size 0 [] := ⟨.map [], World.ownsMap_made _ _ _ _, fun j _ _ => by simp; rfl⟩
theorem HadI.look {w : World} {b m : Nat} {P : List Int} (h : HadI w b m P) (k : Int) (h1 : 1 ≤ k) (h2 : k ≤ 1000000) : (Instr.lookup 49 (.map (some b)) (.int .i64 k) false).run Tryz.prog w = .ok (.bool (decide (k ∈ P))) w := by
  obtain ⟨D, hown, hat⟩ := h
  obtain ⟨v, ps, hrun, hv⟩ := hown.lookup keyedI Tryz.mapIB (Tryz.zeroBoolI w) (plainElem_bool Tryz.underlying4 false) (keyI k h1 h2)
  obtain ⟨x, rfl, hz⟩ := plainElem_boolI hv
  rw [hat k h1 h2] at hz
  simp at hz
  rw [hrun, hz.1]
theorem isMapI {w : World} {b m : Nat} {D : DataW Unit} (h : w.ownsMap Tryz.prog 3 (plainElem Tryz.prog 4) b m D) : IsMap D := by
  obtain ⟨es, clock, _, _, _, hD⟩ := h
  exact ⟨_, hD⟩
theorem HadI.put {w' : World} {b m : Nat} {k : Int} {P : List Int} {D : DataW Unit} (hat : ∀ j : Int, 1 ≤ j → j ≤ 1000000 → D.atKey (.int .i64 j) (.lit (.bool false)) = .lit (.bool (decide (j ∈ P)))) (hD : IsMap D)
    (h : w'.ownsMap Tryz.prog 3 (plainElem Tryz.prog 4) b m (D.put (.int .i64 k) (.lit (.bool true)))) : HadI w' b m (k :: P) := by
  refine ⟨_, h, fun j h1 h2 => ?_⟩
  by_cases e : j = k
  · subst e
    rw [atKey_put_same (k := .int .i64 j) hD trivial]
    simp
  · rw [atKey_put_other (fun h => by simp at h; omega), hat j h1 h2]
    simp [e]
theorem HadI.kept {w w' : World} {b m : Nat} {P : List Int} {row : Option Nat} (h : HadI w b m P) (hg : w.grownBy w' row) (hne : some b ≠ row) : HadI w' b m P := by
  obtain ⟨D, hown, hat⟩ := h
  exact ⟨D, hown.kept hg hne, hat⟩
theorem HadI.lt {w : World} {b m : Nat} {P : List Int} (h : HadI w b m P) : b < w.heap.size := by
  obtain ⟨D, hown, _⟩ := h
  exact hown.lt
theorem HadI.ne {w : World} {b m N n : Nat} {t : TypeId} {z : Nat} {P : List Int} {v : Value} {xs : List Value} (h : HadI w b m P) (ho : w.ownsRow N t z v n xs) : some b ≠ v.ownBlock := fun e => by
  obtain ⟨D, ⟨es, clock, hb, _⟩, _⟩ := h
  rcases ho.2 with ⟨rfl, _⟩ | ⟨g, cap, cur, rfl, _, hg, _⟩
  · simp [Value.ownBlock] at e
  · simp [Value.ownBlock] at e
    subst e
    rw [hb] at hg
    cases hg

/-! ### What was told -/
/-- Errors of answers that lie in a row. -/
def ErrsAt (w : World) (v : Value) (es : List Nat) : Prop := ∃ A C, v = .slice A es.length C ∧ es.length ≤ C ∧ C ≤ 9223372036854775807 ∧ ∀ i x, es[i]? = some x → ∃ b o, A = some ⟨b, o, none⟩ ∧ w.cell? ⟨b, o + i * 5, none⟩ = some (.int .i64 (x : Nat))
theorem toldOf_more {l : List (Sto.Do × Sto.Ans)} {k : Nat} {d : Sto.Do} {a : Sto.Ans} (h : l[k]? = some (d, a)) (P : List Int) : Sto.toldOf (l.drop k) P = if d.kind = 1 ∧ a.err = 0 ∧ d.bat.cmd ∉ P then d.bat.evs ++ Sto.toldOf (l.drop (k + 1)) (d.bat.cmd :: P) else Sto.toldOf (l.drop (k + 1)) P := by
  rw [List.drop_eq_getElem_cons (List.getElem?_eq_some_iff.1 h).1, (List.getElem?_eq_some_iff.1 h).2, Sto.toldOf]
/-- Under way: k are done. -/
structure ToldS (w wr : World) (l : List (Sto.Do × Sto.Ans)) (y : Value) (k : Nat) (es : List EvC) (P : List Int) (m : Nat) : Prop where
  buf : EBuf wr (w.heap.size + 1) y es
  had : HadI wr w.heap.size m P
  eq : es.map evOf ++ Sto.toldOf (l.drop k) P = Sto.toldOf l []
  bel : Below w.heap.size w wr
  len : es.length ≤ k * 10
  num : m ≤ k
theorem ToldS.skip {w wr : World} {l : List (Sto.Do × Sto.Ans)} {y : Value} {k m : Nat} {es : List EvC} {P : List Int} {d : Sto.Do} {a : Sto.Ans} (h : ToldS w wr l y k es P m) (hx : l[k]? = some (d, a)) (hn : ¬ (d.kind = 1 ∧ a.err = 0 ∧ d.bat.cmd ∉ P)) : ToldS w wr l y (k + 1) es P m :=
  ⟨h.buf, h.had, by rw [← h.eq, toldOf_more hx, if_neg hn], h.bel, Nat.le_trans h.len (by omega), Nat.le_succ_of_le h.num⟩

end Go.Proofs.YtldjieplbeflfaaGreat

namespace Go.Proofs.YtldjieplbeflfaaGreat
open Go.RowKit Go.Maps

set_option maxHeartbeats 4000000 in
set_option maxRecDepth 100000 in
theorem told_any (l : List (Sto.Do × Sto.Ans)) (ds : List Sto.Do) (ers : List Nat) (v va : Value) (w : World) (hD : Dos w v ds) (hE : ErrsAt w va ers) (hl : l.length ≤ 80) (hl1 : l.length ≤ ds.length) (hl2 : l.length ≤ ers.length) (hle : ∀ (i : Nat) (d : Sto.Do) (a : Sto.Ans), l[i]? = some (d, a) → ds[i]? = some d ∧ ers[i]? = some a.err)
    (hc : ∀ (i : Nat) (d : Sto.Do) (a : Sto.Ans), l[i]? = some (d, a) → d.kind = 1 → a.err = 0 → 1 ≤ d.bat.cmd ∧ d.bat.cmd ≤ 1000000 ∧ 1 ≤ d.bat.evs.length ∧ d.bat.evs.length ≤ 10) :
    Calls Tryz.prog 13 #[v, va, .int .i64 (l.length : Int)] w fun e w' => CloneE e w' w.heap.size (Sto.toldOf l []) ∧ Below w.heap.size w w' := by
  obtain ⟨A, C, rfl, hA1, hA2, hdo⟩ := hD
  obtain ⟨B, C2, rfl, hB1, hB2, her⟩ := hE
  have hA2' : C ≤ 9223372036854775807 := by unfold maxLen at hA2; exact hA2
  have HDO : Hid (∀ i d, ds[i]? = some d → ∃ b o, A = some ⟨b, o, none⟩ ∧ DoAt w b (o + i * 9) d) := hdo
  have HER : Hid (∀ i x, ers[i]? = some x → ∃ b o, B = some ⟨b, o, none⟩ ∧ w.cell? ⟨b, o + i * 5, none⟩ = some (.int .i64 (x : Nat))) := her
  have HLE : Hid (∀ (i : Nat) (d : Sto.Do) (a : Sto.Ans), l[i]? = some (d, a) → ds[i]? = some d ∧ ers[i]? = some a.err) := hle
  have HCC : Hid (∀ (i : Nat) (d : Sto.Do) (a : Sto.Ans), l[i]? = some (d, a) → d.kind = 1 → a.err = 0 → 1 ≤ d.bat.cmd ∧ d.bat.cmd ≤ 1000000 ∧ 1 ≤ d.bat.evs.length ∧ d.bat.evs.length ≤ 10) := hc
  have H0 : ∃ es P m, ToldS w (w.alloc (.map #[] 0)) l (.slice none 0 0) 0 es P m := ⟨[], [], 0, EBuf.nil _ _, hadI_start w, rfl, (Below.refl _ _).alloc (Nat.le_refl _) _, Nat.zero_le _, Nat.le_refl _⟩
  obtain ⟨n, hn⟩ : ∃ n, n = l.length := ⟨_, rfl⟩
  obtain ⟨nd, hnd⟩ : ∃ n, n = ds.length := ⟨_, rfl⟩
  obtain ⟨ne, hne⟩ : ∃ n, n = ers.length := ⟨_, rfl⟩
  rw [← hn] at hl hl1 hl2 ⊢
  rw [← hnd] at hl1 hA1 ⊢
  rw [← hne] at hl2 hB1 ⊢
  have HN : Hid (n = l.length) := hn
  have hmm := @run_makeMap Tryz.prog
  clear hdo her hle hc hA2 hn hnd hne
  go_enter Tryz.func13, Tryz.ntmps13
  go_wp2_with fail
  generalize w.alloc (.map #[] 0) = w1 at *
  go_loopw [7, 13] (fun y x wr => ∃ k : Nat, k ≤ n ∧ x = .int .i64 k ∧ Hid (∃ es P m, ToldS w wr l y k es P m)) (fun _ x _ => n - (intOf x).toNat)
  case atStart => exact ⟨0, Nat.zero_le _, rfl, H0⟩
  case round =>
    obtain ⟨k, hk, rfl, HS⟩ := hrel
    by_cases hlt : k < n
    · have hlt' : (k : Int) < (n : Int) := by omega
      obtain ⟨es, P, m, hS⟩ := HS.out
      obtain ⟨⟨d, a⟩, hx⟩ : ∃ x, l[k]? = some x := ⟨l[k]'(by rw [← HN.out]; exact hlt), List.getElem?_eq_getElem _⟩
      obtain ⟨q1, q2⟩ := HLE.out k d a hx
      obtain ⟨b, o, rfl, ve, t, hdin, hcs⟩ := HDO.out k d q1
      obtain ⟨b2, o2, rfl, e0⟩ := HER.out k _ q2
      have hkd : k < nd := by omega
      have hkd' : (k : Int) < (nd : Int) := by omega
      have hke : k < ne := by omega
      have hke' : (k : Int) < (ne : Int) := by omega
      have hb := hS.bel
      have g0 : wr.cell? ⟨b, o + k * 9, none⟩ = some (.int .i64 d.kind) := (hb.cell (p := ⟨b, o + k * 9, none⟩) (World.block_lt_of_cell? _ _ (hcs 0 _ rfl))).trans (hcs 0 _ rfl)
      have g5 : wr.cell? ⟨b, o + k * 9 + 5, none⟩ = some (.int .i64 d.bat.cmd) := (hb.cell (p := ⟨b, o + k * 9 + 5, none⟩) (World.block_lt_of_cell? _ _ (hcs 5 _ rfl))).trans (hcs 5 _ rfl)
      have r0 : wr.cell? ⟨b2, o2 + k * 5, none⟩ = some (.int .i64 (a.err : Nat)) := (hb.cell (p := ⟨b2, o2 + k * 5, none⟩) (World.block_lt_of_cell? _ _ e0)).trans e0
      by_cases k1 : d.kind = 1
      · have kb : (d.kind == 1) = true := beq_iff_eq.2 k1
        by_cases r1 : a.err = 0
        · have rb : (((a.err : Nat) : Int) == 0) = true := by rw [beq_iff_eq]; omega
          obtain ⟨c1, c2, c3, c4⟩ := HCC.out k d a hx k1 r1
          have hlook := hS.had.look d.bat.cmd c1 c2
          by_cases hm : d.bat.cmd ∈ P
          · have hmb : decide (d.bat.cmd ∈ P) = true := decide_eq_true hm
            rw [hmb] at hlook
            have HNX := hS.skip hx fun z => z.2.2 hm
            clear hS hcs hdin hx q1 q2 k1 r1 HS hm hmb
            go_wp2_with fail
            exact ⟨⟨k + 1, by omega, by go_num, ⟨es, P, m, HNX⟩⟩, by simp [intOf]; omega⟩
          · have hmb : decide (d.bat.cmd ∈ P) = false := decide_eq_false hm
            rw [hmb] at hlook
            obtain ⟨D, hoM, hat⟩ := hS.had
            have hisM := isMapI hoM
            have hm80 := hS.num
            obtain ⟨bb, oo, CC, rfl, hc1, hc2, _⟩ := hdin.evs.some c3
            have hcv := hcs 6 _ rfl
            have HS2 : Hid (ToldS w wr l u7 k es P m) := hS
            have HAT : Hid (∀ j : Int, 1 ≤ j → j ≤ 1000000 → D.atKey (.int .i64 j) (.lit (.bool false)) = .lit (.bool (decide (j ∈ P)))) := hat
            have HDI : Hid (Evs w (.slice (some ⟨bb, oo, none⟩) d.bat.evs.length CC) d.bat.evs) := hdin.evs
            have HXX : Hid (l[k]? = some (d, a) ∧ d.kind = 1 ∧ a.err = 0 ∧ d.bat.cmd ∉ P) := ⟨hx, k1, r1, hm⟩
            have HC3 : Hid (1 ≤ d.bat.evs.length ∧ d.bat.evs.length ≤ 10) := ⟨c3, c4⟩
            clear hS hcs hdin hx q1 q2 k1 r1 HS hm hmb hat
            go_upto_region 9 with (at_mapUpdate; refine wpList_mapUpdate_own _ rfl (.tmp 42) (.tmp 43) (.const (.bool true)) 49 rfl 3 4 keyedI Tryz.mapIB (plainElem Tryz.prog 4) w.heap.size m D rfl hoM (by unfold maxLen; omega) (.int .i64 d.bat.cmd) (.bool true) (.int .i64 d.bat.cmd) rfl rfl (keyI _ c1 c2) (.lit (.bool true)) [] (plainElem_bool Tryz.underlying4 true) ?_; intro w2 hM2 hgM)
            have hS := HS2.out
            have hh2 := HadI.put (k := d.bat.cmd) HAT.out hisM hM2
            have b02 : Below w.heap.size w w2 := hS.bel.grown hgM hS.bel.size (fun y hy => by cases hy; exact Nat.le_refl _)
            have hbuf2 : EBuf w2 (w.heap.size + 1) u7 es := ⟨hS.buf.1.kept hgM (Or.inr (hS.had.ne hS.buf.1).symm), hS.buf.2⟩
            obtain ⟨xs, hxs, hxz, hxc⟩ := evs_cells (HDI.out.below b02)
            have hxl : xs.length = d.bat.evs.length := by rw [← hxs, List.length_map]
            have hk10 : k * 10 ≤ 800 := by omega
            obtain ⟨v', w', hrun, hB', hof', _⟩ := app_evs w2 (w.heap.size + 1) u7 es xs hbuf2 hh2.lt ⟨bb, oo, none⟩ CC (hxc _ _ rfl) hxz (by have := hS.len; have := HC3.out; omega)
            rw [hxl] at hrun
            have hg2 : w2.grownBy w' u7.ownBlock := ⟨hof'.os, hof'.tape, hof'.output, hof'.size, fun k hk hne => hof'.block k hk fun z => hne z.symm⟩
            have HNX : ∃ es P m, ToldS w w' l v' (k + 1) es P m := by
              refine ⟨es ++ xs, d.bat.cmd :: P, _, hB', hh2.kept hg2 (hh2.ne hbuf2.1), ?_, b02.trans (hof'.below b02.size fun q hq => Nat.le_of_succ_le (hbuf2.1.lt q hq).1), ?_, ?_⟩
              · rw [← hS.eq, toldOf_more HXX.out.1, if_pos HXX.out.2, List.map_append, hxs, List.append_assoc]
              · rw [List.length_append]
                have := hS.len
                have := HC3.out
                omega
              · have := hS.num
                omega
            have g6 : w2.cell? ⟨b, o + k * 9 + 6, none⟩ = some (.slice (some ⟨bb, oo, none⟩) d.bat.evs.length CC) := (b02.cell (p := ⟨b, o + k * 9 + 6, none⟩) (World.block_lt_of_cell? _ _ hcv)).trans hcv
            obtain ⟨ml, hml⟩ : ∃ m, m = d.bat.evs.length := ⟨_, rfl⟩
            rw [← hml] at hrun g6
            clear hS hh2 b02 hbuf2 hxs hxz hxc hxl hk10 hB' hof' hg2 hM2 hgM hoM hml
            go_wp2_with (at_builtin; refine Lib.wpList_append_run _ rfl _ _ _ _ rfl _ _ rfl rfl _ _ hrun ?_)
            exact ⟨⟨k + 1, by omega, by go_num, HNX⟩, by simp [intOf]; omega⟩
        · have rb : (((a.err : Nat) : Int) == 0) = false := by rw [beq_eq_false_iff_ne]; omega
          have HNX := hS.skip hx fun z => r1 z.2.1
          clear hS hcs hdin hx q1 q2 k1 r1 HS
          go_wp2_with fail
          exact ⟨⟨k + 1, by omega, by go_num, ⟨es, P, m, HNX⟩⟩, by simp [intOf]; omega⟩
      · have kb : (d.kind == 1) = false := by rw [beq_eq_false_iff_ne]; exact k1
        have HNX := hS.skip hx fun z => k1 z.1
        clear hS hcs hdin hx q1 q2 k1 HS
        go_wp2_with fail
        exact ⟨⟨k + 1, by omega, by go_num, ⟨es, P, m, HNX⟩⟩, by simp [intOf]; omega⟩
    · obtain rfl : k = n := by omega
      obtain ⟨es, P, m, hS⟩ := HS.out
      have HF : Hid (CloneE (.returned u7) wr w.heap.size (Sto.toldOf l []) ∧ Below w.heap.size w wr) := by
        refine ⟨⟨u7, es, rfl, ?_, hS.buf.lower (Nat.le_succ _)⟩, hS.bel⟩
        have := hS.eq
        rw [HN.out, List.drop_length] at this
        rw [← this]
        exact (List.append_nil _).symm
      clear hS HS
      go_wp2_with fail
      go_ret
      exact HF.out

end Go.Proofs.YtldjieplbeflfaaGreat
