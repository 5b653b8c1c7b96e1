/-
  Texts of the proof, joined: HTell, HAsk.
-/
import Derived.Test.YtmcaejooaaahdaaGreatZ40
import Derived.Test.YtmcaejooaaahdaaGreatZ16
import Derived.Deep.Cut
import Derived.Deep.CutRange
namespace Go.Proofs.YtmcaejooaaahdaaGreat
open Go.RowKit

/-- An answer is told, that bears nothing below N. -/
def TellO (e : Ending) (w' : World) (N : Nat) (a : Sto.Ans) : Prop := ∃ v, e = .returned v ∧ AnsV w' (fun k => N ≤ k) v a
/-- What is asked of all events. -/
def fromA (l : List Evt.Ev) (n : Int) : Sto.Ans := if n < 0 ∨ (l.length : Int) < n then Sto.no 3 else ⟨0, l.length, l.drop n.toNat, 0, []⟩
def ofA (l : List Evt.Ev) (t : List Nat) : Sto.Ans := if ¬ Evt.named t then Sto.no 7 else ⟨0, (l.filter fun e => decide (e.name = t)).length, l.filter fun e => decide (e.name = t), 0, []⟩
def viewA (l : List Evt.Ev) : Sto.Ans := ⟨(Vw.fold 0 [] l).1.1, (Vw.fold 0 [] l).2.1, [], (Vw.fold 0 [] l).2.1, (Vw.fold 0 [] l).2.2⟩
/-- What is told lies in blocks of events. -/
def TellT (e : Ending) (w' : World) (N : Nat) (a : Sto.Ans) : Prop := ∃ v, e = .returned v ∧ AnsV w' (fun k => N ≤ k ∧ TyB w' k 83) v a
theorem tellT_plain (w' : World) (N x : Nat) : TellT (.returned (ansVal (x : Nat) 0)) w' N (Sto.no x) := ⟨_, rfl, ansV_plain w' _ x 0⟩
theorem tellO_plain (w' : World) (N x : Nat) : TellO (.returned (ansVal (x : Nat) 0)) w' N (Sto.no x) := ⟨_, rfl, ansV_plain w' _ x 0⟩
/-- Events from number n on. -/
theorem EBuf.rest {w : World} {N g cap : Nat} {es : List EvC} (h : EBuf w N (.slice (some ⟨g, 0, none⟩) es.length cap) es) {n : Nat} (hn : n ≤ es.length) : Evs w (.slice (some ⟨g, n * 3, none⟩) (es.length - n) (cap - n)) ((es.map evOf).drop n) := by
  obtain ⟨A, C, hv, h1, h2, h3⟩ := h.evs
  rw [List.length_map] at hv h1
  cases hv
  refine ⟨_, _, by rw [List.length_drop, List.length_map], by rw [List.length_drop, List.length_map]; omega, Nat.le_trans (Nat.sub_le ..) h2, fun i e he => ?_⟩
  rw [List.getElem?_drop] at he
  obtain ⟨b, o, e1, q⟩ := h3 (n + i) e he
  cases e1
  refine ⟨g, n * 3, rfl, ?_⟩
  rw [show n * 3 + i * 3 = 0 + (n + i) * 3 by omega]
  exact q
theorem evs_empty (w : World) (A : Option Addr) (C : Nat) (hC : C ≤ maxLen) : Evs w (.slice A 0 C) [] := ⟨A, C, rfl, Nat.zero_le _, hC, fun i e he => by cases he⟩

set_option maxHeartbeats 1000000 in
set_option maxRecDepth 100000 in
theorem from_any (N : Nat) (v : Value) (es : List EvC) (n : Int) (w : World) (h : EBuf w N v es) (hl : es.length ≤ 200000) :
    Calls Tryz.prog 22 #[v, .int .i64 n] w fun e w' => TellT e w' N (fromA (es.map evOf) n) ∧ Off (fun k => v.ownBlock = some k) w w' := by
  have HOF : Hid (∀ (S : Nat → Prop) d, Off S w (w.alloc (.cells d 42))) := fun _ d => Off.of_below ((Below.refl _ _).alloc (Nat.le_refl _) _)
  obtain ⟨L, hL⟩ : ∃ L, L = es.length := ⟨_, rfl⟩
  have hml : (es.map evOf).length = L := by rw [List.length_map, hL]
  by_cases q : n < 0 ∨ (L : Int) < n
  · have HR : Hid (fromA (es.map evOf) n = Sto.no 3) := by
      show fromA (es.map evOf) n = Sto.no 3
      unfold fromA
      rw [hml, if_pos q]
    obtain ⟨A, C, hv⟩ := h.shape
    rw [← hL] at hv
    subst hv
    clear h
    by_cases q0 : n < 0
    · clear q
      go_enter Tryz.func22, Tryz.ntmps22
      go_wp2_with fail
      refine bodyPost_ret (v := ansVal 3 0) (by simp [results, Tryz.results22, go_sem]) rfl ⟨by rw [HR.out]; exact tellT_plain _ _ 3, HOF.out _ _⟩
    · have q1 : (L : Int) < n := by omega
      clear q
      go_enter Tryz.func22, Tryz.ntmps22
      go_wp2_with fail
      refine bodyPost_ret (v := ansVal 3 0) (by simp [results, Tryz.results22, go_sem]) rfl ⟨by rw [HR.out]; exact tellT_plain _ _ 3, HOF.out _ _⟩
  · obtain ⟨m, rfl⟩ : ∃ m : Nat, n = (m : Int) := ⟨n.toNat, by omega⟩
    have hmL : m ≤ L := by omega
    have HR : Hid (fromA (es.map evOf) m = ⟨0, (L : Int), (es.map evOf).drop m, 0, []⟩) := by
      show fromA (es.map evOf) m = _
      unfold fromA
      rw [hml, if_neg q, Int.toNat_natCast]
    have q1 : ¬ (m : Int) < 0 := by omega
    have q2 : ¬ (L : Int) < (m : Int) := by omega
    rcases h.1.2 with ⟨rfl, h0⟩ | ⟨g, cap, cur, hv, hNg, _, hc, hm, _⟩
    · obtain rfl : L = 0 := by omega
      obtain rfl : m = 0 := by omega
      have he : es = [] := List.eq_nil_of_length_eq_zero h0
      subst he
      have HT : Hid (TellT (.returned (.agg #[.int .i64 0, .int .i64 0, .slice none 0 0, .int .i64 0, .slice none 0 0])) (w.alloc (.cells (ansC 0 0) 42)) N (fromA [] 0)) := by
        show TellT _ _ _ _
        have e : fromA [] 0 = ⟨0, 0, [], 0, []⟩ := by
          unfold fromA
          rw [if_neg (by decide)]
          rfl
        rw [e]
        exact ⟨_, rfl, ansV_plain _ _ 0 0⟩
      clear h q q1 q2 HR hL hml h0 hl hmL
      go_enter Tryz.func22, Tryz.ntmps22
      go_wp2_with fail
      refine bodyPost_ret (v := ansVal 0 0) (by simp [results, Tryz.results22, go_sem]) rfl ⟨HT.out, HOF.out _ _⟩
    · subst hv
      have hm' : cap ≤ 9223372036854775807 := by unfold maxLen at hm; exact hm
      have hev := h.rest (n := m) (by omega)
      have HTY : Hid (TyB w g 83) := owns_ty h.1 rfl
      rw [← hL] at hev h hc hl ⊢
      have HEV : Hid (Evs w (.slice (some ⟨g, m * 3, none⟩) (L - m) (cap - m)) ((es.map evOf).drop m)) := hev
      have HLD : Hid (((es.map evOf).drop m).length = L - m) := by
        show ((es.map evOf).drop m).length = L - m
        rw [List.length_drop, hml]
      have hcm : m ≤ cap := by omega
      have hmL' : (m : Int) ≤ (L : Int) := by omega
      have hcm' : (m : Int) ≤ (cap : Int) := by omega
      clear h hev q hml hL hl
      by_cases hcc : cap = m
      · obtain rfl : L = m := by omega
        subst hcc
        have HB : Hid (∀ A c d, c ≤ maxLen → TellT (.returned (.agg #[.int .i64 0, .int .i64 (cap : Int), .slice A 0 c, .int .i64 0, .slice none 0 0])) (w.alloc (.cells d 42)) N (fromA (es.map evOf) cap)) := fun A c d hc => by
          show TellT _ _ _ _
          rw [HR.out]
          have e : (es.map evOf).drop cap = [] := List.eq_nil_of_length_eq_zero (by rw [HLD.out]; omega)
          rw [e]
          exact ⟨_, rfl, _, _, rfl, ⟨evs_empty _ A c hc, fun _ _ z => absurd rfl z⟩, accE_nil _ _⟩
        clear HEV HLD HR
        go_enter Tryz.func22, Tryz.ntmps22
        go_wp2_with fail
        refine bodyPost_ret (v := .agg #[.int .i64 0, .int .i64 (cap : Int), .slice (some ⟨g, 0, none⟩) 0 0, .int .i64 0, .slice none 0 0]) (by simp [results, Tryz.results22, go_sem]) rfl ⟨HB.out _ _ _ (Nat.zero_le _), HOF.out _ _⟩
      · have HB : Hid (∀ d, TellT (.returned (.agg #[.int .i64 0, .int .i64 (L : Int), .slice (some ⟨g, m * 3, none⟩) (L - m) (cap - m), .int .i64 0, .slice none 0 0])) (w.alloc (.cells d 42)) N (fromA (es.map evOf) m)) := fun d => by
          show TellT _ _ _ _
          rw [HR.out]
          exact ⟨_, rfl, _, _, rfl, ⟨HEV.out.below ((Below.refl _ _).alloc (Nat.le_refl _) _), fun b hb _ => by
            cases hb
            exact ⟨hNg, HTY.out.below ((Below.refl _ _).alloc (Nat.le_refl _) _)⟩⟩, accE_nil _ _⟩
        clear HEV HLD HR
        go_enter Tryz.func22, Tryz.ntmps22
        go_wp2_with fail
        refine bodyPost_ret (v := .agg #[.int .i64 0, .int .i64 (L : Int), .slice (some ⟨g, m * 3, none⟩) (L - m) (cap - m), .int .i64 0, .slice none 0 0]) (by simp [results, Tryz.results22, go_sem]) rfl ⟨HB.out _, HOF.out _ _⟩

/-! ### The view -/
theorem fold_bad2 {u : Int} {l : List Vw.Acc} {es : List Evt.Ev} (h : (Vw.fold u l es).1.1 ≠ 0) : (Vw.fold u l es).2 = (0, []) := by
  by_cases hw : (Vw.wrongV u l).1 = 0
  · rw [Vw.fold_else hw] at h ⊢
    have key : ∀ (es : List Evt.Ev) (u : Int) (l : List Vw.Acc) (i : Nat), (Vw.foldL u l i es).1.1 ≠ 0 → (Vw.foldL u l i es).2 = (0, []) := by
      intro es
      induction es with
      | nil => intro u l i h; exact absurd rfl h
      | cons e r ih =>
        intro u l i h
        by_cases q : (Vw.apply u l e).1 = 0
        · rw [Vw.foldL_next q] at h ⊢
          exact ih _ _ _ h
        · rw [Vw.foldL_bad q]
    exact key es u l 0 h
  · rw [Vw.fold_bad hw]
set_option maxHeartbeats 1000000 in
set_option maxRecDepth 100000 in
theorem viewOf_any (N : Nat) (v : Value) (es : List EvC) (w : World) (h : EBuf w N v es) (hN : N ≤ w.heap.size) :
    Calls Tryz.prog 23 #[v] w fun e w' => TellO e w' N (viewA (es.map evOf)) ∧ Below N w w' := by
  have bA : Below w.heap.size w (w.alloc (.cells (ansC 0 0) 42)) := (Below.refl _ _).alloc (Nat.le_refl _) _
  have VB := varN_new w (ansC 0 0) 42
  have HFO := fold_any 0 (.slice none 0 0) v [] (es.map evOf) _ (Accs.nil _) (h.below bA).evs
  have HV : Hid (VarN (w.alloc (.cells (ansC 0 0) 42)) w.heap.size 42 (ansC 0 0).toList) := VB
  have HBA : Hid (Below w.heap.size w (w.alloc (.cells (ansC 0 0) 42))) := bA
  have HVA : Hid (viewA (es.map evOf) = ⟨(Vw.fold 0 [] (es.map evOf)).1.1, (Vw.fold 0 [] (es.map evOf)).2.1, [], (Vw.fold 0 [] (es.map evOf)).2.1, (Vw.fold 0 [] (es.map evOf)).2.2⟩) := rfl
  have HBD : Hid ((Vw.fold 0 [] (es.map evOf)).1.1 ≠ 0 → (Vw.fold 0 [] (es.map evOf)).2 = (0, [])) := fold_bad2
  have HKP : Hid ((Vw.fold 0 [] (es.map evOf)).1.1 = 0 → (Vw.fold 0 [] (es.map evOf)).2.1 = (es.length : Int)) := fun q => by
    have := (Vw.fold_keeps q).2.1
    rw [List.length_map] at this
    omega
  obtain ⟨L, hL⟩ : ∃ L, L = es.length := ⟨_, rfl⟩
  obtain ⟨A, C, hv⟩ := h.shape
  rw [← hL] at hv HKP
  subst hv
  unfold FoO faultV at HFO
  generalize Vw.fold 0 [] (es.map evOf) = r at HFO HVA HBD HKP
  obtain ⟨⟨x, y⟩, u, l⟩ := r
  have szx : (w.alloc (.cells (ansC 0 0) 42)).heap.size = w.heap.size + 1 := by simp
  rw [szx] at HFO
  clear h hL VB bA szx
  go_enter Tryz.func23, Tryz.ntmps23
  go_wp2_with fail
  refine HFO.mono ?_
  rintro e w1 ⟨⟨v1, rfl, hA1, hP1⟩, b1⟩
  have hA1 : Accs w1 v1 l := hA1
  have hb1 : Below (w.heap.size + 1) (w.alloc (.cells (ansC 0 0) 42)) w1 := b1
  have hV1 : VarN w1 w.heap.size 42 (ansC 0 0).toList := RowC.of_block HV.out (hb1.block _ (Nat.lt_succ_self _))
  have b01 : Below w.heap.size w w1 := HBA.out.trans (hb1.mono (Nat.le_succ _))
  obtain ⟨A1, C1, rfl⟩ := hA1.shape
  have bV : Below w1.heap.size w1 (w1.alloc (.cells #[.int .i64 u, .slice A1 l.length C1] 30)) := (Below.refl _ _).alloc (Nat.le_refl _) _
  have bW : Below (w1.alloc (.cells #[.int .i64 u, .slice A1 l.length C1] 30)).heap.size (w1.alloc (.cells #[.int .i64 u, .slice A1 l.length C1] 30)) ((w1.alloc (.cells #[.int .i64 u, .slice A1 l.length C1] 30)).alloc (.cells #[.int .i64 (x : Nat), .int .i64 (y : Nat)] 78)) := (Below.refl _ _).alloc (Nat.le_refl _) _
  have VV := (varF_new w1 30 (.int .i64 u) (.slice A1 l.length C1)).below bW
  have VF := varF_new (w1.alloc (.cells #[.int .i64 u, .slice A1 l.length C1] 30)) 78 (.int .i64 (x : Nat)) (.int .i64 (y : Nat))
  have sz1 : (w1.alloc (.cells #[.int .i64 u, .slice A1 l.length C1] 30)).heap.size = w1.heap.size + 1 := by simp
  rw [sz1] at VF
  have bX := bt bV bW
  have hV2 := hV1.below bX
  have HAC : Hid (∀ w', Off (fun k => k = w.heap.size) ((w1.alloc (.cells #[.int .i64 u, .slice A1 l.length C1] 30)).alloc (.cells #[.int .i64 (x : Nat), .int .i64 (y : Nat)] 78)) w' → AccE w' (fun k => N ≤ k) (.slice A1 l.length C1) l ∧ Below N w w') := fun w' ho => by
    refine ⟨⟨(hA1.below bX).off ho fun g hg e => by
      have := hP1 g hg
      omega, fun g hg _ => by
      have := hP1 g hg
      omega⟩, ?_⟩
    exact ((bt b01 bX).mono hN).trans (ho.below (Nat.le_trans hN (bt b01 bX).size) fun k hk => by rw [hk]; exact hN)
  clear HFO hA1 hP1 b1 hb1 hV1 b01 sz1 bV bW
  go_upto_region 2 with fail
  generalize (w1.alloc (.cells #[.int .i64 u, .slice A1 l.length C1] 30)).alloc (.cells #[.int .i64 (x : Nat), .int .i64 (y : Nat)] 78) = w3 at VV VF bX hV2 HAC ⊢
  have b0 := hV2.cell (i := 0) rfl
  have b1' := hV2.cell (i := 1) rfl
  have b2 := hV2.cell (i := 2) rfl
  have b3 := hV2.cell (i := 3) rfl
  have b4 := hV2.cell (i := 4) rfl
  have f0 := hV2.frozen 0
  have f1 := hV2.frozen 1
  have f2 := hV2.frozen 2
  have f3 := hV2.frozen 3
  have f4 := hV2.frozen 4
  obtain ⟨c0, c1, _⟩ := VV
  obtain ⟨d0, _, _⟩ := VF
  clear hV2 bX
  by_cases hx : x = 0
  · have HU : Hid (u = (L : Int)) := HKP.out hx
    have HV2 : Hid (viewA (es.map evOf) = ⟨0, u, [], u, l⟩) := by
      show viewA (es.map evOf) = ⟨0, u, [], u, l⟩
      rw [HVA.out, hx]
    have hxe : ((x : Int) != 0) = false := by rw [bne_eq_false_iff_eq]; omega
    clear hx
    go_wp2_with fail
    refine bodyPost_ret (v := .agg #[.int .i64 0, .int .i64 (L : Int), .slice none 0 0, .int .i64 u, .slice A1 l.length C1]) (by simp [results, Tryz.results23, go_sem, b0, b1', b2, b3, b4]) rfl ⟨⟨_, rfl, ?_⟩, ?_⟩
    · rw [HV2.out]
      exact ⟨_, _, by rw [HU.out]; rfl, evsE_nil _ _, (HAC.out _ (off_five _ w.heap.size _ _ _ _ _)).1⟩
    · exact (HAC.out _ (off_five _ w.heap.size _ _ _ _ _)).2
  · have hxn : ((x : Int) != 0) = true := by rw [bne_iff_ne]; omega
    have HV2 : Hid (viewA (es.map evOf) = Sto.no x) := by
      show viewA (es.map evOf) = Sto.no x
      rw [HVA.out]
      have e := HBD.out hx
      have e1 : u = 0 := (Prod.mk.inj e).1
      have e2 : l = [] := (Prod.mk.inj e).2
      rw [e1, e2]
      rfl
    clear hx
    go_wp2_with fail
    refine bodyPost_ret (v := ansVal (x : Nat) 0) (by simp [results, Tryz.results23, go_sem, b0, b1', b2, b3, b4]) rfl ⟨by rw [HV2.out]; exact tellO_plain _ _ x, ?_⟩
    exact (HAC.out _ (off_five _ w.heap.size _ _ _ _ _)).2

/-! ### A stream's events -/
theorem filter_of (es : List EvC) (t : ByteArray) : (es.filter (keepT t)).map evOf = (es.map evOf).filter fun e => decide (e.name = nb t) := by
  induction es with
  | nil => rfl
  | cons q r ih =>
    rw [List.map_cons]
    by_cases h : nb q.1 = nb t
    · rw [List.filter_cons_of_pos (show keepT t q = true from decide_eq_true h), List.filter_cons_of_pos (p := fun e : Evt.Ev => decide (e.name = nb t)) (decide_eq_true h), List.map_cons, ih]
    · rw [List.filter_cons_of_neg (show ¬ keepT t q = true from fun z => h (of_decide_eq_true z)), List.filter_cons_of_neg (p := fun e : Evt.Ev => decide (e.name = nb t)) (fun z => h (of_decide_eq_true z)), ih]
set_option maxHeartbeats 1000000 in
set_option maxRecDepth 100000 in
theorem ofStream_any (N : Nat) (v : Value) (es : List EvC) (t : ByteArray) (w : World) (h : EBuf w N v es) (ht : t.size ≤ 9223372036854775807) :
    Calls Tryz.prog 20 #[v, .string t] w fun e w' => TellT e w' N (ofA (es.map evOf) (nb t)) ∧ Off (fun k => v.ownBlock = some k) w w' := by
  have bA : Below w.heap.size w (w.alloc (.cells #[.string t] 9)) := (Below.refl _ _).alloc (Nat.le_refl _) _
  have bB : Below (w.alloc (.cells #[.string t] 9)).heap.size (w.alloc (.cells #[.string t] 9)) ((w.alloc (.cells #[.string t] 9)).alloc (.cells (ansC 0 0) 42)) := (Below.refl _ _).alloc (Nat.le_refl _) _
  have VS := (varN_new w #[.string t] 9).below bB
  have VB := varN_new (w.alloc (.cells #[.string t] 9)) (ansC 0 0) 42
  have sz : (w.alloc (.cells #[.string t] 9)).heap.size = w.heap.size + 1 := by simp
  rw [sz] at VB
  have b2 := bt bA bB
  have hE := h.below b2
  have c0 := VS.cell (i := 0) rfl
  have HN := fun w' => named_any t w' ht
  have HD := deleteE_any w.heap.size N t v es _ hE c0 (fun g hg e => by
    have := (h.1.lt g hg).2
    omega)
  have HBN : Hid (Below w.heap.size w ((w.alloc (.cells #[.string t] 9)).alloc (.cells (ansC 0 0) 42))) := b2
  have HVL : Hid (∀ g, v.ownBlock = some g → g < w.heap.size) := fun g hg => (h.1.lt g hg).2
  have HVB : Hid (VarN ((w.alloc (.cells #[.string t] 9)).alloc (.cells (ansC 0 0) 42)) (w.heap.size + 1) 42 (ansC 0 0).toList) := VB
  obtain ⟨A, C, hv⟩ := h.shape
  obtain ⟨L, hL⟩ : ∃ L, L = es.length := ⟨_, rfl⟩
  rw [← hL] at hv
  subst hv
  clear h hE VS VB bA bB sz b2 hL
  go_enter Tryz.func20, Tryz.ntmps20
  go_upto_region 1 with fail
  generalize (w.alloc (.cells #[.string t] 9)).alloc (.cells (ansC 0 0) 42) = w2 at c0 HD HBN HVB ⊢
  go_wp2_with fail
  refine (HN _).mono ?_
  rintro e w3 ⟨⟨y, rfl, hy⟩, rfl⟩
  clear HN
  cases y with
  | false =>
    have HR : Hid (ofA (es.map evOf) (nb t) = Sto.no 7) := if_pos fun z => absurd (hy.2 z) (by decide)
    have hV := HVB.out
    have b0 := hV.cell (i := 0) rfl
    have b1' := hV.cell (i := 1) rfl
    have b2 := hV.cell (i := 2) rfl
    have b3 := hV.cell (i := 3) rfl
    have b4 := hV.cell (i := 4) rfl
    have f0 := hV.frozen 0
    have f1 := hV.frozen 1
    have f2 := hV.frozen 2
    have f3 := hV.frozen 3
    have f4 := hV.frozen 4
    have HBF : Hid (∀ w', Off (fun k => k = w.heap.size + 1) w3 w' → Off (fun k => (Value.slice A L C).ownBlock = some k) w w') := fun w' ho => (Off.of_below HBN.out).past ho fun k hk hl => by omega
    clear hV HD hy
    go_wp2_with fail
    refine bodyPost_ret (v := ansVal 7 0) (by simp [results, Tryz.results20, go_sem, b0, b1', b2, b3, b4]) rfl ⟨by rw [HR.out]; exact tellT_plain _ _ 7, ?_⟩
    exact HBF.out _ (off_five _ (w.heap.size + 1) _ _ _ _ _)
  | true =>
    have HR : Hid (ofA (es.map evOf) (nb t) = ⟨0, ((es.filter (keepT t)).length : Int), (es.filter (keepT t)).map evOf, 0, []⟩) := by
      show ofA (es.map evOf) (nb t) = _
      unfold ofA
      rw [if_neg (fun z => z (hy.1 rfl)), ← filter_of, List.length_map]
    clear hy
    go_wp2_with fail
    refine HD.mono ?_
    rintro e w4 ⟨v4, rfl, hE4, ho4⟩
    have hV : VarN w4 (w.heap.size + 1) 42 (ansC 0 0).toList := HVB.out.off ho4 fun z => by
      have := HVL.out _ z
      omega
    have b0 := hV.cell (i := 0) rfl
    have b1' := hV.cell (i := 1) rfl
    have b2 := hV.cell (i := 2) rfl
    have b3 := hV.cell (i := 3) rfl
    have b4 := hV.cell (i := 4) rfl
    have f0 := hV.frozen 0
    have f1 := hV.frozen 1
    have f2 := hV.frozen 2
    have f3 := hV.frozen 3
    have f4 := hV.frozen 4
    have hty := hV.ty
    obtain ⟨A4, C4, hv4⟩ := hE4.shape
    have HEV : Hid (∀ w', Off (fun k => k = w.heap.size + 1) w4 w' → EvsE w' (fun k => N ≤ k ∧ TyB w' k 83) v4 ((es.filter (keepT t)).map evOf) ∧ Off (fun k => (Value.slice A L C).ownBlock = some k) w w') := fun w' ho => by
      have hE5 := hE4.off ho fun g hg e => hty.ne (owns_ty hE4.1 hg) (by decide) e.symm
      refine ⟨⟨hE5.evs, fun g hg _ => ⟨(hE4.1.lt g hg).1, owns_ty hE5.1 hg⟩⟩, ?_⟩
      exact ((Off.of_below HBN.out).trans ho4).past ho fun k hk hl => by omega
    obtain ⟨M, hM⟩ : ∃ M, M = (es.filter (keepT t)).length := ⟨_, rfl⟩
    rw [← hM] at hv4 HR
    subst hv4
    clear HD hE4 ho4 hV hty hM
    go_wp2_with fail
    refine bodyPost_ret (v := .agg #[.int .i64 0, .int .i64 (M : Int), .slice A4 M C4, .int .i64 0, .slice none 0 0]) (by simp [results, Tryz.results20, go_sem, b0, b1', b2, b3, b4]) rfl ⟨⟨_, rfl, ?_⟩, ?_⟩
    · rw [HR.out]
      exact ⟨_, _, rfl, (HEV.out _ (off_five _ (w.heap.size + 1) _ _ _ _ _)).1, accE_nil _ _⟩
    · exact (HEV.out _ (off_five _ (w.heap.size + 1) _ _ _ _ _)).2

end Go.Proofs.YtmcaejooaaahdaaGreat

namespace Go.Proofs.YtmcaejooaaahdaaGreat
open Go.RowKit

/-- An error, or what is made of all events. -/
def askA (r : Nat × List Evt.Ev) (a : Sto.Ans) : Sto.Ans := if r.1 ≠ 0 then Sto.no r.1 else a
/-- What is made of all events. -/
def Asks (g : Nat) (caps : Array Value) (w : World) (l : List Evt.Ev) (a : Sto.Ans) : Prop :=
  ∀ v es w', EBuf w' (w.heap.size + 1) v es → es.map evOf = l → es.length ≤ 200000 → Below w.heap.size w w' → w.heap.size + 1 ≤ w'.heap.size → Calls Tryz.prog g (#[v] ++ caps) w' fun e w'' => TellO e w'' (w.heap.size + 1) a ∧ Below (w.heap.size + 1) w' w''
section
variable {N R D : Nat} {F E : Nat → Prop} {c : Sto.Cfg} {s : Sto.St} {V : Nat → Value} {U : Nat → List HeC} {vt vs va : Value} {tc : List (Int × Sl)} {X : Sto.Six}

set_option maxHeartbeats 1000000 in
set_option maxRecDepth 100000 in
theorem tell0_any (hX : Sto.SixOk X) (g : Nat) (eg : ∀ args w, (callFunc g args).run Tryz.prog w = .ok (.enter g args) w) (a : Sto.Ans) (w : World) (h : StP w N R F E c s D V U vt vs va tc) (HG : Asks g #[] w (Sto.all X c s).2 a) :
    Calls Tryz.prog 18 #[.pointer (some ⟨R, 0, none⟩), .func (.func g) #[] #[]] w fun e w' => TellO e w' w.heap.size (askA (Sto.all X c s) a) ∧ Below w.heap.size w w' := by
  have bA : Below w.heap.size w (w.alloc (.cells (ansC 0 0) 42)) := (Below.refl _ _).alloc (Nat.le_refl _) _
  have VB := varN_new w (ansC 0 0) 42
  have HAL := all_any hX _ (h.below bA)
  have sz : (w.alloc (.cells (ansC 0 0) 42)).heap.size = w.heap.size + 1 := by simp
  have HVB : Hid (VarN (w.alloc (.cells (ansC 0 0) 42)) w.heap.size 42 (ansC 0 0).toList) := VB
  have HBA : Hid (Below w.heap.size w (w.alloc (.cells (ansC 0 0) 42))) := bA
  rw [sz] at HAL
  unfold AllO at HAL
  generalize Sto.all X c s = r at HAL HG ⊢
  obtain ⟨x, l⟩ := r
  clear h bA VB sz
  go_enter Tryz.func18, Tryz.ntmps18
  go_wp2_with fail
  generalize w.alloc (.cells (ansC 0 0) 42) = w1 at HAL HVB HBA ⊢
  refine HAL.mono ?_
  rintro e w2 ⟨⟨v2, es, rfl, hes, hE2, hel⟩, b2⟩
  have hes : es.map evOf = l := hes
  have hV2 : VarN w2 w.heap.size 42 (ansC 0 0).toList := RowC.of_block HVB.out (b2.block _ (Nat.lt_succ_self _))
  have b02 : Below w.heap.size w w2 := HBA.out.trans (b2.mono (Nat.le_succ _))
  have HNC := HG v2 es w2 hE2 hes hel b02 (RowC.lt hV2)
  obtain ⟨A2, C2, hv2⟩ := hE2.shape
  obtain ⟨L, hL⟩ : ∃ L, L = es.length := ⟨_, rfl⟩
  rw [← hL] at hv2
  subst hv2
  clear HAL hE2 hes hel HG hL b2
  by_cases hx : x = 0
  · have hxe : ((x : Int) != 0) = false := by rw [bne_eq_false_iff_eq]; omega
    have HR : Hid (askA (x, l) a = a) := if_neg fun z => z hx
    have HB02 : Hid (Below w.heap.size w w2) := b02
    have HV2 : Hid (VarN w2 w.heap.size 42 (ansC 0 0).toList) := hV2
    clear hx hV2 b02
    go_wp2_with fail
    refine HNC.mono ?_
    rintro e w3 ⟨⟨v3, rfl, ve, va3, rfl, hev, hac⟩, b3⟩
    have hV3 : VarN w3 w.heap.size 42 (ansC 0 0).toList := RowC.of_block HV2.out (b3.block _ (Nat.lt_succ_self _))
    have hb3 : Below w.heap.size w w3 := HB02.out.trans (b3.mono (Nat.le_succ _))
    have HFI : Hid (∀ w', Off (fun k => k = w.heap.size) w3 w' → AnsV w' (fun k => w.heap.size ≤ k) (.agg #[.int .i64 (a.err : Nat), .int .i64 a.n, ve, .int .i64 a.vu, va3]) a ∧ Below w.heap.size w w') := fun w' ho => by
      have hk : ∀ k, k < w3.heap.size → w.heap.size + 1 ≤ k → w'.heap[k]? = w3.heap[k]? := fun k hk hk2 => ho.block k hk fun z => by omega
      exact ⟨⟨ve, va3, rfl, hev.move hk fun k _ z => by omega, hac.move hk fun k _ z => by omega⟩, hb3.trans (ho.below hb3.size fun k z => by omega)⟩
    have b0 := hV3.cell (i := 0) rfl
    have b1' := hV3.cell (i := 1) rfl
    have b2 := hV3.cell (i := 2) rfl
    have b3' := hV3.cell (i := 3) rfl
    have b4 := hV3.cell (i := 4) rfl
    have f0 := hV3.frozen 0
    have f1 := hV3.frozen 1
    have f2 := hV3.frozen 2
    have f3 := hV3.frozen 3
    have f4 := hV3.frozen 4
    obtain ⟨Ae, Ce, hve⟩ := hev.1.shape
    obtain ⟨Aa, Ca, hva⟩ := hac.1.shape
    subst hve
    subst hva
    clear HNC hev hac b3 hV3 hb3
    go_wp2_with fail
    refine bodyPost_ret (v := .agg #[.int .i64 (a.err : Nat), .int .i64 a.n, .slice Ae a.evs.length Ce, .int .i64 a.vu, .slice Aa a.vl.length Ca]) (by simp [results, Tryz.results18, go_sem, b0, b1', b2, b3', b4]) rfl ⟨⟨_, rfl, ?_⟩, ?_⟩
    · rw [HR.out]
      exact (HFI.out _ (off_five _ w.heap.size _ _ _ _ _)).1
    · exact (HFI.out _ (off_five _ w.heap.size _ _ _ _ _)).2
  · have hxe : ((x : Int) != 0) = true := by rw [bne_iff_ne]; omega
    have HR : Hid (askA (x, l) a = Sto.no x) := if_pos hx
    have HFI : Hid (∀ w', Off (fun k => k = w.heap.size) w2 w' → Below w.heap.size w w') := fun w' ho => b02.trans (ho.below b02.size fun k z => by omega)
    have b0 := hV2.cell (i := 0) rfl
    have b1' := hV2.cell (i := 1) rfl
    have b2 := hV2.cell (i := 2) rfl
    have b3' := hV2.cell (i := 3) rfl
    have b4 := hV2.cell (i := 4) rfl
    have f0 := hV2.frozen 0
    have f1 := hV2.frozen 1
    have f2 := hV2.frozen 2
    have f3 := hV2.frozen 3
    have f4 := hV2.frozen 4
    clear hx HNC hV2 b02
    go_wp2_with fail
    refine bodyPost_ret (v := ansVal (x : Nat) 0) (by simp [results, Tryz.results18, go_sem, b0, b1', b2, b3', b4]) rfl ⟨by rw [HR.out]; exact tellO_plain _ _ x, ?_⟩
    exact HFI.out _ (off_five _ w.heap.size _ _ _ _ _)

set_option maxHeartbeats 1000000 in
set_option maxRecDepth 100000 in
theorem tell1_any (hX : Sto.SixOk X) (g : Nat) (k : Value) (eg : ∀ args w, (callFunc g args).run Tryz.prog w = .ok (.enter g args) w) (a : Sto.Ans) (w : World) (h : StP w N R F E c s D V U vt vs va tc) (HG : Asks g #[k] w (Sto.all X c s).2 a) :
    Calls Tryz.prog 18 #[.pointer (some ⟨R, 0, none⟩), .func (.func g) #[] #[k]] w fun e w' => TellO e w' w.heap.size (askA (Sto.all X c s) a) ∧ Below w.heap.size w w' := by
  have bA : Below w.heap.size w (w.alloc (.cells (ansC 0 0) 42)) := (Below.refl _ _).alloc (Nat.le_refl _) _
  have VB := varN_new w (ansC 0 0) 42
  have HAL := all_any hX _ (h.below bA)
  have sz : (w.alloc (.cells (ansC 0 0) 42)).heap.size = w.heap.size + 1 := by simp
  have HVB : Hid (VarN (w.alloc (.cells (ansC 0 0) 42)) w.heap.size 42 (ansC 0 0).toList) := VB
  have HBA : Hid (Below w.heap.size w (w.alloc (.cells (ansC 0 0) 42))) := bA
  rw [sz] at HAL
  unfold AllO at HAL
  generalize Sto.all X c s = r at HAL HG ⊢
  obtain ⟨x, l⟩ := r
  clear h bA VB sz
  go_enter Tryz.func18, Tryz.ntmps18
  go_wp2_with fail
  generalize w.alloc (.cells (ansC 0 0) 42) = w1 at HAL HVB HBA ⊢
  refine HAL.mono ?_
  rintro e w2 ⟨⟨v2, es, rfl, hes, hE2, hel⟩, b2⟩
  have hes : es.map evOf = l := hes
  have hV2 : VarN w2 w.heap.size 42 (ansC 0 0).toList := RowC.of_block HVB.out (b2.block _ (Nat.lt_succ_self _))
  have b02 : Below w.heap.size w w2 := HBA.out.trans (b2.mono (Nat.le_succ _))
  have HNC := HG v2 es w2 hE2 hes hel b02 (RowC.lt hV2)
  obtain ⟨A2, C2, hv2⟩ := hE2.shape
  obtain ⟨L, hL⟩ : ∃ L, L = es.length := ⟨_, rfl⟩
  rw [← hL] at hv2
  subst hv2
  clear HAL hE2 hes hel HG hL b2
  by_cases hx : x = 0
  · have hxe : ((x : Int) != 0) = false := by rw [bne_eq_false_iff_eq]; omega
    have HR : Hid (askA (x, l) a = a) := if_neg fun z => z hx
    have HB02 : Hid (Below w.heap.size w w2) := b02
    have HV2 : Hid (VarN w2 w.heap.size 42 (ansC 0 0).toList) := hV2
    clear hx hV2 b02
    go_wp2_with fail
    refine HNC.mono ?_
    rintro e w3 ⟨⟨v3, rfl, ve, va3, rfl, hev, hac⟩, b3⟩
    have hV3 : VarN w3 w.heap.size 42 (ansC 0 0).toList := RowC.of_block HV2.out (b3.block _ (Nat.lt_succ_self _))
    have hb3 : Below w.heap.size w w3 := HB02.out.trans (b3.mono (Nat.le_succ _))
    have HFI : Hid (∀ w', Off (fun k => k = w.heap.size) w3 w' → AnsV w' (fun k => w.heap.size ≤ k) (.agg #[.int .i64 (a.err : Nat), .int .i64 a.n, ve, .int .i64 a.vu, va3]) a ∧ Below w.heap.size w w') := fun w' ho => by
      have hk : ∀ k, k < w3.heap.size → w.heap.size + 1 ≤ k → w'.heap[k]? = w3.heap[k]? := fun k hk hk2 => ho.block k hk fun z => by omega
      exact ⟨⟨ve, va3, rfl, hev.move hk fun k _ z => by omega, hac.move hk fun k _ z => by omega⟩, hb3.trans (ho.below hb3.size fun k z => by omega)⟩
    have b0 := hV3.cell (i := 0) rfl
    have b1' := hV3.cell (i := 1) rfl
    have b2 := hV3.cell (i := 2) rfl
    have b3' := hV3.cell (i := 3) rfl
    have b4 := hV3.cell (i := 4) rfl
    have f0 := hV3.frozen 0
    have f1 := hV3.frozen 1
    have f2 := hV3.frozen 2
    have f3 := hV3.frozen 3
    have f4 := hV3.frozen 4
    obtain ⟨Ae, Ce, hve⟩ := hev.1.shape
    obtain ⟨Aa, Ca, hva⟩ := hac.1.shape
    subst hve
    subst hva
    clear HNC hev hac b3 hV3 hb3
    go_wp2_with fail
    refine bodyPost_ret (v := .agg #[.int .i64 (a.err : Nat), .int .i64 a.n, .slice Ae a.evs.length Ce, .int .i64 a.vu, .slice Aa a.vl.length Ca]) (by simp [results, Tryz.results18, go_sem, b0, b1', b2, b3', b4]) rfl ⟨⟨_, rfl, ?_⟩, ?_⟩
    · rw [HR.out]
      exact (HFI.out _ (off_five _ w.heap.size _ _ _ _ _)).1
    · exact (HFI.out _ (off_five _ w.heap.size _ _ _ _ _)).2
  · have hxe : ((x : Int) != 0) = true := by rw [bne_iff_ne]; omega
    have HR : Hid (askA (x, l) a = Sto.no x) := if_pos hx
    have HFI : Hid (∀ w', Off (fun k => k = w.heap.size) w2 w' → Below w.heap.size w w') := fun w' ho => b02.trans (ho.below b02.size fun k z => by omega)
    have b0 := hV2.cell (i := 0) rfl
    have b1' := hV2.cell (i := 1) rfl
    have b2 := hV2.cell (i := 2) rfl
    have b3' := hV2.cell (i := 3) rfl
    have b4 := hV2.cell (i := 4) rfl
    have f0 := hV2.frozen 0
    have f1 := hV2.frozen 1
    have f2 := hV2.frozen 2
    have f3 := hV2.frozen 3
    have f4 := hV2.frozen 4
    clear hx HNC hV2 b02
    go_wp2_with fail
    refine bodyPost_ret (v := ansVal (x : Nat) 0) (by simp [results, Tryz.results18, go_sem, b0, b1', b2, b3', b4]) rfl ⟨by rw [HR.out]; exact tellO_plain _ _ x, ?_⟩
    exact HFI.out _ (off_five _ w.heap.size _ _ _ _ _)
end

end Go.Proofs.YtmcaejooaaahdaaGreat
