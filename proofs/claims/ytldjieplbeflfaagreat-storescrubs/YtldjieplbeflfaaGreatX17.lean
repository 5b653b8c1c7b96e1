/-
  Texts of the proof, joined: HFind, HCut, HBlks.
-/
import Derived.Test.YtldjieplbeflfaaGreatX16
import Derived.Deep.SlicePairs
import Derived.Test.YtldjieplbeflfaaGreatX03
import Derived.Test.YtldjieplbeflfaaGreatX06
namespace Go.Proofs.YtldjieplbeflfaaGreat
open Go.RowKit

/-- Where a number is, or belongs, among numbers that rise. -/
def CutI (l : List Int) (x : Int) (i : Nat) : Prop := i ≤ l.length ∧ (∀ k a, k < i → l[k]? = some a → a < x) ∧ ∀ k a, i ≤ k → l[k]? = some a → x ≤ a
abbrev UpI (l : List Int) : Prop := l.Pairwise (· < ·)
theorem upI_le {l : List Int} (h : UpI l) {i j : Nat} {a b : Int} (hi : l[i]? = some a) (hj : l[j]? = some b) (hij : i ≤ j) : a ≤ b := by
  by_cases e : i = j
  · subst e
    rw [hi] at hj
    cases hj
    exact Int.le_refl _
  · obtain ⟨h1, rfl⟩ := List.getElem?_eq_some_iff.1 hi
    obtain ⟨h2, rfl⟩ := List.getElem?_eq_some_iff.1 hj
    exact Int.le_of_lt (List.pairwise_iff_getElem.1 h i j h1 h2 (by omega))
/-- Where it was found. -/
def FoundI (e : Ending) (l : List Int) (x : Int) : Prop := ∃ (i : Nat) (y : Bool), e = .returned (.tuple #[.int .i64 (i : Nat), .bool y]) ∧ CutI l x i ∧ (y = true ↔ l[i]? = some x)

set_option maxHeartbeats 400000 in
theorem isNaNI_any (s : Int) (w : World) : Calls Tryz.prog 90 #[.int .i64 s] w fun e w' => e = .returned (.bool false) ∧ w' = w := by
  go_enter Tryz.func90, Tryz.ntmps90
  go_wp2_with fail
  go_ret
  exact ⟨by simp, rfl⟩

/-- How one number stands to another. -/
def cmpI (a b : Int) : Int := if a < b then -1 else if b < a then 1 else 0
theorem cmpI_neg {a b : Int} : cmpI a b < 0 ↔ a < b := by
  unfold cmpI
  by_cases h : a < b
  · rw [if_pos h]
    simp [h]
  · rw [if_neg h]
    by_cases e : b < a
    · rw [if_pos e]
      simp [h]
    · rw [if_neg e]
      simp [h]
theorem cmpI_zero {a b : Int} : cmpI a b = 0 ↔ a = b := by
  unfold cmpI
  by_cases h : a < b
  · rw [if_pos h]
    constructor
    · intro q
      omega
    · intro q
      omega
  · rw [if_neg h]
    by_cases e : b < a
    · rw [if_pos e]
      constructor
      · intro q
        omega
      · intro q
        omega
    · rw [if_neg e]
      constructor
      · intro q
        omega
      · intro q
        rfl
theorem cmpI_range (a b : Int) : -1 ≤ cmpI a b ∧ cmpI a b ≤ 1 := by
  unfold cmpI
  split
  · omega
  · split
    · omega
    · omega

set_option maxHeartbeats 400000 in
theorem compareI_any (a b : Int) (w : World) : Calls Tryz.prog 84 #[.int .i64 a, .int .i64 b] w fun e w' => e = .returned (.int .i64 (cmpI a b)) ∧ w' = w := by
  have H1 := isNaNI_any a w
  have H2 := isNaNI_any b w
  by_cases q : a < b
  · have H : Hid (cmpI a b = -1) := if_pos q
    go_enter Tryz.func84, Tryz.ntmps84
    go_wp2_with fail
    refine H1.mono ?_
    rintro e w1 ⟨rfl, rfl⟩
    clear H1
    go_wp2_with fail
    refine H2.mono ?_
    rintro e w1 ⟨rfl, rfl⟩
    clear H2
    go_wp2_with fail
    go_ret
    exact ⟨by rw [H.out]; rfl, rfl⟩
  · by_cases r : b < a
    · have H : Hid (cmpI a b = 1) := by
        show cmpI a b = 1
        unfold cmpI
        rw [if_neg q, if_pos r]
      go_enter Tryz.func84, Tryz.ntmps84
      go_wp2_with fail
      refine H1.mono ?_
      rintro e w1 ⟨rfl, rfl⟩
      clear H1
      go_wp2_with fail
      refine H2.mono ?_
      rintro e w1 ⟨rfl, rfl⟩
      clear H2
      go_wp2_with fail
      go_ret
      exact ⟨by rw [H.out]; rfl, rfl⟩
    · have H : Hid (cmpI a b = 0) := by
        show cmpI a b = 0
        unfold cmpI
        rw [if_neg q, if_neg r]
      go_enter Tryz.func84, Tryz.ntmps84
      go_wp2_with fail
      refine H1.mono ?_
      rintro e w1 ⟨rfl, rfl⟩
      clear H1
      go_wp2_with fail
      refine H2.mono ?_
      rintro e w1 ⟨rfl, rfl⟩
      clear H2
      go_wp2_with fail
      go_ret
      exact ⟨by rw [H.out]; rfl, rfl⟩

set_option maxHeartbeats 400000 in
theorem cmpH_any (a b : Int) (q : Value) (w : World) : Calls Tryz.prog 83 #[.agg #[.int .i64 a, q], .int .i64 b] w fun e w' => e = .returned (.int .i64 (cmpI a b)) ∧ Below w.heap.size w w' := by
  have hb0 : Below w.heap.size w (w.alloc (.cells #[.int .i64 a, q] 78)) := (Below.refl _ _).alloc (Nat.le_refl _) _
  have V := varF_new w 78 (.int .i64 a) q
  obtain ⟨c0, _, _⟩ := V
  have H := compareI_any a b (w.alloc (.cells #[.int .i64 a, q] 78))
  go_enter Tryz.func83, Tryz.ntmps83
  go_wp2_with fail
  refine H.mono ?_
  rintro e w1 ⟨rfl, rfl⟩
  clear H
  go_wp2_with fail
  go_ret
  exact ⟨rfl, hb0⟩
theorem Tryz.enters_cmpH : ∀ args w, (callFunc 83 args).run Tryz.prog w = .ok (.enter 83 args) w := enters_of Tryz.func83 (by kernel_rfl) rfl

/-- What a disk holds, as it lies. -/
def HeIn (w : World) (v : Value) (hs : List HeC) : Prop := ∃ A cap, v = .slice A hs.length cap ∧ hs.length ≤ cap ∧ cap ≤ maxLen ∧ ∀ (i : Nat) (x : HeC), hs[i]? = some x → ∃ b o, A = some ⟨b, o, none⟩ ∧ w.cell? ⟨b, o + i * 2, none⟩ = some (.int .i64 x.1) ∧ w.cell? ⟨b, o + i * 2 + 1, none⟩ = some (slV x.2.1)
theorem HeIn.below {w w' : World} {v : Value} {hs : List HeC} (h : HeIn w v hs) (hb : Below w.heap.size w w') : HeIn w' v hs := by
  obtain ⟨A, cap, hv, h1, h2, h3⟩ := h
  refine ⟨A, cap, hv, h1, h2, fun i x hx => ?_⟩
  obtain ⟨b, o, e, c0, c1⟩ := h3 i x hx
  have hp : b < w.heap.size := World.block_lt_of_cell? _ _ c0
  exact ⟨b, o, e, (hb.cell (p := ⟨b, o + i * 2, none⟩) hp).trans c0, (hb.cell (p := ⟨b, o + i * 2 + 1, none⟩) hp).trans c1⟩
theorem heIn_of {w : World} {N : Nat} {v : Value} {hs : List HeC} (h : w.ownsRow N 78 2 v hs.length (hs.flatMap heCells)) : HeIn w v hs := by
  by_cases hn : 1 ≤ hs.length
  · obtain ⟨g, cap, rfl, _, h1, h2, _, hc⟩ := owns_cells h hn
    refine ⟨some ⟨g, 0, none⟩, cap, rfl, h1, h2, fun i x hx => ?_⟩
    have hf := fun t ht => flat_get heCells 2 hs (fun _ _ => rfl) i t ht x hx
    exact ⟨g, 0, rfl, by rw [Nat.zero_add]; exact hc _ _ (hf 0 (by decide)), by rw [Nat.zero_add]; exact hc _ _ (hf 1 (by decide))⟩
  · obtain rfl : hs = [] := List.eq_nil_of_length_eq_zero (by omega)
    rcases h.2 with ⟨rfl, _⟩ | ⟨g, cap, cur, rfl, _, _, hc, hm, _⟩
    · exact ⟨none, 0, rfl, Nat.le_refl _, Nat.zero_le _, fun i e he => by cases he⟩
    · exact ⟨_, cap, rfl, hc, hm, fun i e he => by cases he⟩

set_option maxHeartbeats 1000000 in
set_option maxRecDepth 100000 in
theorem searchH_any (t : Int) (vs : Value) (hs : List HeC) (w : World) (h : HeIn w vs hs) (hup : UpI (hs.map (·.1))) (hn : hs.length ≤ 100000) :
    Calls Tryz.prog 82 #[vs, .int .i64 t, .func (.func 83) #[] #[]] w fun e w' => FoundI e (hs.map (·.1)) t ∧ Below w.heap.size w w' := by
  have eg := Tryz.enters_cmpH
  have HSO : Hid (UpI (hs.map (·.1))) := hup
  obtain ⟨A, C, rfl, _, _, ha⟩ := h
  have HK : Hid (∀ (i : Nat) (x : HeC), hs[i]? = some x → (hs.map (·.1))[i]? = some x.1) := fun i x hx => by
    show (hs.map (·.1))[i]? = some x.1
    rw [List.getElem?_map, hx]
    rfl
  have HKL : Hid ((hs.map (·.1)).length = hs.length) := List.length_map ..
  clear hup
  go_enter Tryz.func82, Tryz.ntmps82
  go_wp2_with fail
  go_loopw [9, 10] (fun x y wr => ∃ i j : Nat, i ≤ j ∧ j ≤ hs.length ∧ x = .int .i64 i ∧ y = .int .i64 j ∧ Hid (∀ k a, k < i → (hs.map (·.1))[k]? = some a → a < t) ∧ Hid (∀ k a, j ≤ k → (hs.map (·.1))[k]? = some a → t ≤ a) ∧ Below w.heap.size w wr) (fun x y _ => (intOf y).toNat - (intOf x).toNat)
  case atStart => exact ⟨0, hs.length, Nat.zero_le _, Nat.le_refl _, rfl, rfl, fun k a hk => absurd hk (Nat.not_lt_zero k), fun k a hk ha => absurd (List.getElem?_eq_some_iff.1 ha).1 (by rw [HKL.out]; omega), Below.refl _ _⟩
  case round =>
    obtain ⟨i, j, hij, hjl, rfl, rfl, HLO, HHI, hb⟩ := hrel
    by_cases hlt : i < j
    · have hlt' : (i : Int) < (j : Int) := by omega
      obtain ⟨q, hq⟩ : ∃ q, q = (i + j) / 2 := ⟨_, rfl⟩
      have hq1 : i ≤ q := by omega
      have hq2 : q < j := by omega
      obtain ⟨a, hak⟩ : ∃ a, hs[q]? = some a := ⟨hs[q], List.getElem?_eq_getElem (by omega)⟩
      obtain ⟨b, o, rfl, d0, d1⟩ := ha q a hak
      have hp : b < w.heap.size := World.block_lt_of_cell? _ _ d0
      have d0 := (hb.cell (p := ⟨b, o + q * 2, none⟩) hp).trans d0
      have d1 := (hb.cell (p := ⟨b, o + q * 2 + 1, none⟩) hp).trans d1
      have HAK : Hid ((hs.map (·.1))[q]? = some a.1) := HK.out q a hak
      have HC := cmpH_any a.1 t (slV a.2.1) wr
      have HCN : Hid (cmpI a.1 t < 0 ↔ a.1 < t) := cmpI_neg
      have HR := cmpI_range a.1 t
      generalize cmpI a.1 t = c at HC HCN HR
      have HQ : Hid (q = (i + j) / 2) := hq
      rw [hq] at d0 d1
      obtain ⟨z, hz⟩ : ∃ z : Value, z = slV a.2.1 := ⟨_, rfl⟩
      rw [← hz] at d1 HC
      clear ha hak hq hp hz
      by_cases hc : c < 0
      · have HLT : Hid (a.1 < t) := HCN.out.1 hc
        go_wp2_with fail
        refine HC.mono ?_
        rintro e w1 ⟨rfl, b1⟩
        clear HC
        go_wp2_with fail
        refine ⟨⟨q + 1, j, by omega, hjl, val_int (by have := HQ.out; omega), rfl, fun k x hk hx => ?_, HHI.out, bt hb b1⟩, ?_⟩
        · exact Int.lt_of_le_of_lt (upI_le HSO.out hx HAK.out (by omega)) HLT.out
        · have := HQ.out
          simp [intOf]
          omega
      · have HLT : Hid (t ≤ a.1) := Int.not_lt.1 fun z => hc (HCN.out.2 z)
        go_wp2_with fail
        refine HC.mono ?_
        rintro e w1 ⟨rfl, b1⟩
        clear HC
        go_wp2_with fail
        refine ⟨⟨i, q, hq1, by omega, rfl, val_int (by have := HQ.out; omega), HLO.out, fun k x hk hx => ?_, bt hb b1⟩, ?_⟩
        · exact Int.le_trans HLT.out (upI_le HSO.out HAK.out hx hk)
        · have := HQ.out
          simp [intOf]
          omega
    · obtain rfl : i = j := by omega
      by_cases hin : i < hs.length
      · have hin' : (i : Int) < (hs.length : Int) := by omega
        obtain ⟨a, hak⟩ : ∃ a, hs[i]? = some a := ⟨hs[i], List.getElem?_eq_getElem hin⟩
        obtain ⟨b, o, rfl, d0, d1⟩ := ha i a hak
        have hp : b < w.heap.size := World.block_lt_of_cell? _ _ d0
        have d0 := (hb.cell (p := ⟨b, o + i * 2, none⟩) hp).trans d0
        have d1 := (hb.cell (p := ⟨b, o + i * 2 + 1, none⟩) hp).trans d1
        have HC := cmpH_any a.1 t (slV a.2.1) wr
        have HF3 : Hid (FoundI (.returned (.tuple #[.int .i64 (i : Nat), .bool (cmpI a.1 t == 0)])) (hs.map (·.1)) t) := ⟨i, cmpI a.1 t == 0, rfl, ⟨by rw [HKL.out]; exact hjl, HLO.out, HHI.out⟩, by
          rw [beq_iff_eq, cmpI_zero, HK.out i a hak, Option.some.injEq]⟩
        obtain ⟨z, hz⟩ : ∃ z : Value, z = slV a.2.1 := ⟨_, rfl⟩
        rw [← hz] at d1 HC
        clear ha hak hp hz
        generalize cmpI a.1 t = c at HC HF3
        go_wp2_with fail
        refine HC.mono ?_
        rintro e w1 ⟨rfl, b1⟩
        clear HC
        go_wp2_with fail
        go_ret2
        exact ⟨HF3.out, bt hb b1⟩
      · have hin' : ¬ (i : Int) < (hs.length : Int) := by omega
        have HF : Hid (FoundI (.returned (.tuple #[.int .i64 (i : Nat), .bool false])) (hs.map (·.1)) t) := ⟨i, false, rfl, ⟨by rw [HKL.out]; exact hjl, HLO.out, HHI.out⟩, ⟨fun e => absurd e (by decide), fun hx => absurd (List.getElem?_eq_some_iff.1 hx).1 (by rw [HKL.out]; omega)⟩⟩
        clear ha
        go_wp2_with fail
        go_ret2
        exact ⟨HF.out, hb⟩

set_option maxHeartbeats 400000 in
theorem find_any (t : Int) (vs : Value) (hs : List HeC) (w : World) (h : HeIn w vs hs) (hup : UpI (hs.map (·.1))) (hn : hs.length ≤ 100000) :
    Calls Tryz.prog 57 #[vs, .int .i64 t] w fun e w' => FoundI e (hs.map (·.1)) t ∧ Below w.heap.size w w' := by
  have H := searchH_any t vs hs w h hup hn
  clear h hup
  go_enter Tryz.func57, Tryz.ntmps57
  go_wp2_with fail
  refine H.mono ?_
  rintro e w1 ⟨⟨i, y, rfl, hF⟩, b1⟩
  have HF : Hid (FoundI (.returned (.tuple #[.int .i64 (i : Nat), .bool y])) (hs.map (·.1)) t) := ⟨i, y, rfl, hF⟩
  clear H hF
  go_wp2_with fail
  go_ret2
  exact ⟨HF.out, b1⟩

end Go.Proofs.YtldjieplbeflfaaGreat

namespace Go.Proofs.YtldjieplbeflfaaGreat.Sto

section
variable {bl : List (Int × List Nat)} {k : Int} {i : Nat}
theorem up_iff : Up bl ↔ UpI (bl.map (·.1)) := up_keys
theorem key_at {h : Int × List Nat} (hi : bl[i]? = some h) : (bl.map (·.1))[i]? = some h.1 := by
  rw [List.getElem?_map, hi]
  rfl
/-- None but the one at i is of that segment. -/
theorem cut_only (hu : Up bl) (hc : CutI (bl.map (·.1)) k i) {j : Nat} {h : Int × List Nat} (hj : bl[j]? = some h) (hk : h.1 = k) : j = i := by
  have h1 := key_at hj
  by_cases q : j < i
  · have := hc.2.1 j _ q h1
    omega
  · by_cases e : j = i
    · exact e
    · obtain ⟨hl, rfl⟩ := List.getElem?_eq_some_iff.1 hj
      have hi : i < bl.length := by omega
      have h2 := hc.2.2 i _ (Nat.le_refl i) (key_at (List.getElem?_eq_getElem hi))
      have h3 := List.pairwise_iff_getElem.1 hu i j hi hl (by omega)
      omega
theorem none_of (hu : Up bl) (hc : CutI (bl.map (·.1)) k i) (hn : (bl.map (·.1))[i]? ≠ some k) : ∀ h, h ∈ bl → h.1 ≠ k := fun h hm e => by
  obtain ⟨j, hj⟩ := List.mem_iff_getElem?.1 hm
  have := cut_only hu hc hj e
  subst this
  exact hn (by rw [key_at hj, e])
theorem find_not (hu : Up bl) (hc : CutI (bl.map (·.1)) k i) (hn : (bl.map (·.1))[i]? ≠ some k) : bl.find? (fun h => decide (h.1 = k)) = none := by
  rw [List.find?_eq_none]
  intro h hm
  simpa using none_of hu hc hn h hm
theorem find_there (hu : Up bl) (hc : CutI (bl.map (·.1)) k i) {h : Int × List Nat} (hi : bl[i]? = some h) (hk : h.1 = k) : bl.find? (fun h => decide (h.1 = k)) = some h := by
  cases hf : bl.find? (fun h => decide (h.1 = k)) with
  | none =>
    rw [List.find?_eq_none] at hf
    exact absurd hk (by simpa using hf h (List.mem_of_getElem? hi))
  | some y =>
    have h1 : y.1 = k := by simpa using List.find?_some hf
    obtain ⟨j, hj⟩ := List.mem_iff_getElem?.1 (List.mem_of_find?_eq_some hf)
    have := cut_only hu hc hj h1
    subst this
    rw [hj] at hi
    cases hi
    rfl
theorem filter_below (hc : CutI (bl.map (·.1)) k i) : bl.filter (fun h => decide (h.1 < k)) = bl.take i := by
  conv => lhs; rw [← List.take_append_drop i bl]
  rw [List.filter_append]
  have h1 : (bl.take i).filter (fun h => decide (h.1 < k)) = bl.take i := by
    rw [List.filter_eq_self]
    intro h hm
    obtain ⟨j, hj⟩ := List.mem_iff_getElem?.1 hm
    have hji : j < i := by
      have := (List.getElem?_eq_some_iff.1 hj).1
      rw [List.length_take] at this
      omega
    rw [List.getElem?_take, if_pos hji] at hj
    exact decide_eq_true (hc.2.1 j _ hji (key_at hj))
  have h2 : (bl.drop i).filter (fun h => decide (h.1 < k)) = [] := by
    rw [List.filter_eq_nil_iff]
    intro h hm
    obtain ⟨j, hj⟩ := List.mem_iff_getElem?.1 hm
    rw [List.getElem?_drop] at hj
    have := hc.2.2 (i + j) _ (Nat.le_add_right i j) (key_at hj)
    simpa using this
  rw [h1, h2, List.append_nil]
theorem filter_above (hc : CutI (bl.map (·.1)) k i) : bl.filter (fun h => decide (k < h.1)) = (bl.drop i).filter (fun h => decide (k < h.1)) := by
  conv => lhs; rw [← List.take_append_drop i bl]
  rw [List.filter_append]
  have h1 : (bl.take i).filter (fun h => decide (k < h.1)) = [] := by
    rw [List.filter_eq_nil_iff]
    intro h hm
    obtain ⟨j, hj⟩ := List.mem_iff_getElem?.1 hm
    have hji : j < i := by
      have := (List.getElem?_eq_some_iff.1 hj).1
      rw [List.length_take] at this
      omega
    rw [List.getElem?_take, if_pos hji] at hj
    have := hc.2.1 j _ hji (key_at hj)
    simp
    omega
  rw [h1, List.nil_append]
/-- A block is written where there is one already. -/
theorem ins_there (hu : Up bl) (hc : CutI (bl.map (·.1)) k i) {h : Int × List Nat} (hi : bl[i]? = some h) (hk : h.1 = k) (x : List Nat) : ins k x false bl = bl.set i (k, x) := by
  obtain ⟨hl, rfl⟩ := List.getElem?_eq_some_iff.1 hi
  rw [ins_up hu, filter_below hc, filter_above hc, List.set_eq_take_append_cons_drop, if_pos hl, List.drop_eq_getElem_cons hl, List.filter_cons_of_neg (by rw [hk]; simp)]
  congr 2
  rw [List.filter_eq_self]
  intro y hm
  obtain ⟨j, hj⟩ := List.mem_iff_getElem?.1 hm
  rw [List.getElem?_drop] at hj
  obtain ⟨hl2, rfl⟩ := List.getElem?_eq_some_iff.1 hj
  have := List.pairwise_iff_getElem.1 hu i (i + 1 + j) hl hl2 (by omega)
  rw [hk] at this
  exact decide_eq_true this
/-- A block is written where there is none yet. -/
theorem ins_new (hu : Up bl) (hc : CutI (bl.map (·.1)) k i) (hn : (bl.map (·.1))[i]? ≠ some k) (x : List Nat) : ins k x false bl = bl.take i ++ (k, x) :: bl.drop i := by
  rw [ins_up hu, filter_below hc, filter_above hc]
  congr 2
  rw [List.filter_eq_self]
  intro y hm
  have hm2 := List.mem_of_mem_drop hm
  obtain ⟨j, hj⟩ := List.mem_iff_getElem?.1 hm
  rw [List.getElem?_drop] at hj
  have h1 := hc.2.2 (i + j) _ (Nat.le_add_right i j) (key_at hj)
  have h2 := none_of hu hc hn y hm2
  exact decide_eq_true (by omega)
end
theorem spoil_there {k : Int} {p y : Nat} : ∀ {bl : List (Int × List Nat)} {i : Nat} {h : Int × List Nat}, Up bl → bl[i]? = some h → h.1 = k → spoil k p y bl = bl.set i (k, h.2.set p (h.2.getD p 0 ^^^ y))
  | [], _, _, _, hi, _ => by cases hi
  | x :: t, 0, h, hu, hi, hk => by
    cases hi
    rw [spoil, if_pos hk]
    rfl
  | x :: t, i + 1, h, hu, hi, hk => by
    obtain ⟨h1, h2⟩ := List.pairwise_cons.1 hu
    have hi : t[i]? = some h := hi
    have := h1 h (List.mem_of_getElem? hi)
    rw [spoil, if_neg (by omega), spoil_there h2 hi hk]
    rfl

end Go.Proofs.YtldjieplbeflfaaGreat.Sto

namespace Go.Proofs.YtldjieplbeflfaaGreat
open Go.RowKit

/-- What disks may have: segments rise, none is beyond; a disk that is gone has nothing. -/
def WfD (ds : List Sto.Disk) (m : Nat) : Prop := ∀ (i : Nat) (d : Sto.Disk), ds[i]? = some d → Sto.Up d.bl ∧ (∀ h, h ∈ d.bl → 0 ≤ h.1 ∧ h.1 < (m : Int)) ∧ (d.gone = true → d.bl = [])
theorem upI_len : ∀ {l : List Int} {a m : Int}, UpI l → (∀ x, x ∈ l → a ≤ x ∧ x < m) → a ≤ m → (l.length : Int) ≤ m - a
  | [], a, m, _, _, h => by
    simp
    omega
  | x :: r, a, m, hu, hm, h => by
    obtain ⟨h1, h2⟩ := List.pairwise_cons.1 hu
    have hx := hm x List.mem_cons_self
    have := upI_len (a := x + 1) (m := m) h2 (fun y hy => ⟨by have := h1 y hy; omega, (hm y (List.mem_cons_of_mem _ hy)).2⟩) (by omega)
    rw [List.length_cons]
    omega
theorem keys_of (hs : List HeC) : (hs.map heOf).map (·.1) = hs.map (·.1) := by
  rw [List.map_map]
  rfl
section
variable {w : World} {N D m : Nat} {V : Nat → Value} {U : Nat → List HeC} {ds : List Sto.Disk}
theorem DkAt.up (h : DkAt w N D V U ds) (hw : WfD ds m) {i : Nat} (hi : i < ds.length) : UpI ((U i).map (·.1)) ∧ (U i).length ≤ m := by
  obtain ⟨q1, q2, _⟩ := hw i ds[i] (List.getElem?_eq_getElem hi)
  have hb := h.bl i ds[i] (List.getElem?_eq_getElem hi)
  rw [hb] at q1 q2
  have hu : UpI ((U i).map (·.1)) := by
    have := Sto.up_iff.1 q1
    rw [keys_of] at this
    exact this
  refine ⟨hu, ?_⟩
  have := upI_len (a := 0) (m := (m : Int)) hu (fun x hx => by
    obtain ⟨y, hy, rfl⟩ := List.mem_map.1 hx
    exact q2 (heOf y) (List.mem_map_of_mem hy)) (by omega)
  rw [List.length_map] at this
  omega
theorem DkAt.heIn (h : DkAt w N D V U ds) {i : Nat} (hi : i < ds.length) : HeIn w (V i) (U i) := heIn_of (h.own i hi)
end
/-- Where the bytes of a segment's block lie. -/
def bvV (hs : List HeC) (k : Int) : Value := match hs.find? (fun h => decide (h.1 = k)) with
  | some h => slV h.2.1
  | none => .slice none 0 0
theorem bvV_there {hs : List HeC} {k : Int} {i : Nat} (hu : UpI (hs.map (·.1))) (hc : CutI (hs.map (·.1)) k i) {h : HeC} (hi : hs[i]? = some h) (hk : h.1 = k) : bvV hs k = slV h.2.1 := by
  have hf : hs.find? (fun h => decide (h.1 = k)) = some h := by
    cases hf : hs.find? (fun h => decide (h.1 = k)) with
    | none =>
      rw [List.find?_eq_none] at hf
      exact absurd hk (by simpa using hf h (List.mem_of_getElem? hi))
    | some y =>
      have h1 : y.1 = k := by simpa using List.find?_some hf
      obtain ⟨j, hj⟩ := List.mem_iff_getElem?.1 (List.mem_of_find?_eq_some hf)
      have hjo : (hs.map heOf)[j]? = some (heOf y) := by rw [List.getElem?_map, hj]; rfl
      have := Sto.cut_only (bl := hs.map heOf) (i := i) (k := k) (Sto.up_iff.2 (by rw [keys_of]; exact hu)) (by rw [keys_of]; exact hc) hjo h1
      subst this
      rw [hj] at hi
      cases hi
      rfl
  unfold bvV
  rw [hf]
theorem bvV_not {hs : List HeC} {k : Int} {i : Nat} (hu : UpI (hs.map (·.1))) (hc : CutI (hs.map (·.1)) k i) (hn : (hs.map (·.1))[i]? ≠ some k) : bvV hs k = .slice none 0 0 := by
  have hf : hs.find? (fun h => decide (h.1 = k)) = none := by
    rw [List.find?_eq_none]
    intro h hm
    have := Sto.none_of (bl := hs.map heOf) (i := i) (k := k) (Sto.up_iff.2 (by rw [keys_of]; exact hu)) (by rw [keys_of]; exact hc) (by rw [keys_of]; exact hn) (heOf h) (List.mem_map_of_mem hm)
    simpa using (show ¬ h.1 = k from this)
  unfold bvV
  rw [hf]
/-- The bytes of a segment's block. -/
theorem bvV_bytes {w : World} {N : Nat} {hs : List HeC} {k : Int} (hu : UpI (hs.map (·.1))) (hb : ∀ x : HeC, x ∈ hs → OwnB w N (slV x.2.1) x.2.2) : BytL w (bvV hs k) (Sto.pickB k (hs.map heOf) []) := by
  unfold bvV
  cases hf : hs.find? (fun h => decide (h.1 = k)) with
  | none =>
    rw [Sto.pickB_none fun h hm e => ?_]
    · exact BytL.nil w
    · obtain ⟨x, hx, rfl⟩ := List.mem_map.1 hm
      rw [List.find?_eq_none] at hf
      exact absurd (show x.1 = k from e) (by simpa using hf x hx)
  | some y =>
    have h1 : y.1 = k := by simpa using List.find?_some hf
    have hm := List.mem_of_find?_eq_some hf
    rw [Sto.pickB_up (h := heOf y) (Sto.up_iff.2 (by rw [keys_of]; exact hu)) (List.mem_map_of_mem hm) h1]
    exact (hb y hm).bytL
/-- A segment's blocks are told. -/
def BlkO (e : Ending) (w' : World) (bs : List (List Nat)) : Prop := ∃ v', e = .returned v' ∧ Lls w' v' bs.length (Sto.lenF bs) (Sto.valF bs)
theorem blocks_getD {ds : List Sto.Disk} {m : Nat} (hw : WfD ds m) {k : Int} {i : Nat} {d : Sto.Disk} (hd : ds[i]? = some d) : (Sto.blocks ds k).getD i [] = Sto.pickB k d.bl [] := by
  rw [List.getD_eq_getElem?_getD, Sto.blocks, List.getElem?_map, hd]
  show (if d.gone then [] else Sto.pickB k d.bl []) = _
  by_cases q : d.gone = true
  · rw [if_pos q, (hw i d hd).2.2 q]
    rfl
  · rw [if_neg q]

theorem row_next {α : Type} (B : Nat → α) (z : α) (n q : Nat) : ((List.range n).map fun j => if j < q then B j else z).set q (B q) = (List.range n).map fun j => if j < q + 1 then B j else z := by
  apply List.ext_getElem?
  intro i
  by_cases hi : i < n
  · by_cases e : i = q
    · subst e
      rw [List.getElem?_set_self (by simpa using hi)]
      simp [hi]
    · rw [List.getElem?_set_ne (fun z => e z.symm)]
      simp [hi, show i < q ↔ i < q + 1 by omega]
  · rw [List.getElem?_eq_none (by simpa using hi), List.getElem?_eq_none (by simpa using hi)]
theorem row_same {α : Type} (B : Nat → α) (z : α) (n q : Nat) (h : B q = z) : ((List.range n).map fun j => if j < q then B j else z) = (List.range n).map fun j => if j < q + 1 then B j else z := by
  refine List.map_congr_left fun i _ => ?_
  by_cases e : i = q
  · subst e
    rw [if_neg (Nat.lt_irrefl i), if_pos (by omega), h]
  · by_cases g : i < q
    · rw [if_pos g, if_pos (by omega)]
    · rw [if_neg g, if_neg (by omega)]

set_option maxHeartbeats 1000000 in
set_option maxRecDepth 100000 in
theorem sblocks_any (R D n N m : Nat) (k : Int) (V : Nat → Value) (U : Nat → List HeC) (ds : List Sto.Disk) (w : World) (c3 : w.cell? ⟨R, 3, none⟩ = some (.slice (some ⟨D, 0, none⟩) n n)) (hd : DkAt w N D V U ds) (hn : ds.length = n) (h12 : n ≤ 12) (hw : WfD ds m) (hm : m ≤ 100000) :
    Calls Tryz.prog 58 #[.pointer (some ⟨R, 0, none⟩), .int .i64 k] w fun e w' => BlkO e w' (Sto.blocks ds k) ∧ Below w.heap.size w w' := by
  have hmk := run_make_row' (P := Tryz.prog) 113 76 (.slice none 0 0) 24 Tryz.underlying113 Tryz.infoRow rfl .i64 .i64 n (by omega) (by omega)
  have hb0 : Below w.heap.size w (w.alloc (.cells (madeCells #[.slice none 0 0] n) 76)) := (Below.refl _ _).alloc (Nat.le_refl _) _
  have c3' := (hb0.cell (p := ⟨R, 3, none⟩) (World.block_lt_of_cell? _ _ c3)).trans c3
  have HD : Hid (DkAt w N D V U ds) := hd
  have HN : Hid (ds.length = n) := hn
  have HW : Hid (WfD ds m) := hw
  have R0 : (w.alloc (.cells (madeCells #[.slice none 0 0] n) 76)).ownsRow w.heap.size 76 1 (.slice (some ⟨w.heap.size, 0, none⟩) n n) n ((List.range n).map fun j => if j < 0 then bvV (U j) k else .slice none 0 0) := by
    have := World.ownsRow_lit w (madeCells #[.slice none 0 0] n) n (e := 76) (size := 1) (Nat.le_refl w.heap.size) (by unfold maxLen; omega) (by simp [madeCells])
    rw [show (madeCells #[Value.slice none 0 0] n).toList = (List.range n).map fun j => if j < 0 then bvV (U j) k else Value.slice none 0 0 from ?_] at this
    · exact this
    · rw [toList_madeCells_one]
      apply List.ext_getElem?
      intro i
      by_cases hi : i < n
      · simp [hi]
      · simp [hi]
  clear hd hn hw
  go_enter Tryz.func58, Tryz.ntmps58
  go_wp2_with fail
  generalize w.alloc (.cells (madeCells #[.slice none 0 0] n) 76) = W0 at hb0 c3' R0 ⊢
  go_loopw [23] (fun x wr => ∃ q : Nat, q ≤ n ∧ x = .int .i64 q ∧ wr.ownsRow w.heap.size 76 1 (.slice (some ⟨w.heap.size, 0, none⟩) n n) n ((List.range n).map fun j => if j < q then bvV (U j) k else .slice none 0 0) ∧ Below w.heap.size w wr) (fun x _ => n - (intOf x).toNat)
  case atStart => exact ⟨0, Nat.zero_le _, rfl, R0, hb0⟩
  case round =>
    obtain ⟨q, hq, rfl, hR, hb⟩ := hrel
    by_cases hlt : q < n
    · have hlt' : (q : Int) < (n : Int) := by omega
      have DK := HD.out.below hb
      have hql : q < ds.length := by rw [HN.out]; exact hlt
      obtain ⟨d, hdq⟩ : ∃ d, ds[q]? = some d := ⟨ds[q], List.getElem?_eq_getElem hql⟩
      have g0 := DK.gone hdq
      have g1 := DK.held hql
      have HE := DK.heIn hql
      obtain ⟨hup, hlen⟩ := DK.up HW.out hql
      have HUP : Hid (UpI ((U q).map (·.1))) := hup
      obtain ⟨A, C, hV, hC1, hC2, hcell⟩ := HE
      have HF := fun w' (hb' : Below wr.heap.size wr w') => find_any k (V q) (U q) w' ((DK.heIn hql).below hb') hup (by omega)
      rw [hV] at g1 HF
      have hC2' : C ≤ 9223372036854775807 := by unfold maxLen at hC2; exact hC2
      have bA : Below wr.heap.size wr (wr.alloc (.cells #[.bool d.gone, .slice A (U q).length C] 52)) := (Below.refl _ _).alloc (Nat.le_refl _) _
      have VD := varF_new wr 52 (.bool d.gone) (.slice A (U q).length C)
      have HCE : Hid (∀ (i : Nat) (x : HeC), (U q)[i]? = some x → ∃ b o, A = some ⟨b, o, none⟩ ∧ wr.cell? ⟨b, o + i * 2, none⟩ = some (.int .i64 x.1) ∧ wr.cell? ⟨b, o + i * 2 + 1, none⟩ = some (slV x.2.1)) := hcell
      clear DK hdq hV hcell hup hC2
      go_wp2_with fail
      refine (HF _ bA).mono ?_
      rintro e w1 ⟨⟨i, y, rfl, hcut, hy⟩, b1⟩
      have HCU : Hid (CutI ((U q).map (·.1)) k i) := hcut
      have b2 := bt bA b1
      have hR1 := owns_below hR b2
      have hlw := (hR1.lt w.heap.size rfl).2
      obtain ⟨v0, v1, _⟩ := VD.below b1
      clear HF VD bA b1 hcut
      cases y with
      | true =>
        have hk := hy.1 rfl
        rw [List.getElem?_map] at hk
        obtain ⟨h, hh, hhk⟩ := Option.map_eq_some_iff.1 hk
        have hil : i < (U q).length := (List.getElem?_eq_some_iff.1 hh).1
        obtain ⟨b, o, rfl, _, d1⟩ := HCE.out i h hh
        have d1 := (b2.cell (p := ⟨b, o + i * 2 + 1, none⟩) (World.block_lt_of_cell? _ _ d1)).trans d1
        have HB : Hid (bvV (U q) k = slV h.2.1) := bvV_there HUP.out HCU.out hh hhk
        have hST := hR1.stored q (slV h.2.1)
        have HST : Hid ((w1.setCell ⟨w.heap.size, q, none⟩ (slV h.2.1)).ownsRow w.heap.size 76 1 (.slice (some ⟨w.heap.size, 0, none⟩) n n) n ((List.range n).map fun j => if j < q + 1 then bvV (U j) k else .slice none 0 0)) := by
          have := hST.1
          rw [← HB.out, row_next] at this
          rw [← HB.out]
          exact this
        have hil' : (i : Int) < ((U q).length : Int) := by omega
        have hfr := hR1.frozenAt q
        obtain ⟨u0, hu0⟩ : ∃ u0, w1.cell? ⟨w.heap.size, q, none⟩ = some u0 := by
          obtain ⟨g, cap, hv, _, _, _, _, hc⟩ := owns_cells hR1 (by omega)
          cases hv
          exact ⟨_, hc q _ (by rw [List.getElem?_map, List.getElem?_range hlt]; rfl)⟩
        unfold slV at d1 HST
        clear hy hk hh hhk hST hR hR1 HB
        go_wp2_with fail
        refine ⟨⟨q + 1, by omega, by go_num, HST.out, (bt hb b2).setCell (Nat.le_refl _) _⟩, by simp [intOf]; omega⟩
      | false =>
        have HN2 : Hid (bvV (U q) k = .slice none 0 0) := bvV_not HUP.out HCU.out fun z => absurd (hy.2 z) (by decide)
        rw [row_same (fun j => bvV (U j) k) (.slice none 0 0) n q HN2.out] at hR1
        clear hy hR
        go_wp2_with fail
        exact ⟨⟨q + 1, by omega, by go_num, hR1, bt hb b2⟩, by simp [intOf]; omega⟩
    · obtain rfl : q = n := by omega
      have HL : Hid (BlkO (.returned (.slice (some ⟨w.heap.size, 0, none⟩) q q)) wr (Sto.blocks ds k)) := by
        have hl : (Sto.blocks ds k).length = q := by
          unfold Sto.blocks
          rw [List.length_map, HN.out]
        have DK := HD.out.below hb
        refine ⟨_, rfl, ?_⟩
        rw [hl]
        have hR2 : wr.ownsRow w.heap.size 76 1 (.slice (some ⟨w.heap.size, 0, none⟩) q q) q ((List.range q).map fun j => bvV (U j) k) := by
          rw [show ((List.range q).map fun j => bvV (U j) k) = (List.range q).map fun j => if j < q then bvV (U j) k else .slice none 0 0 from List.map_congr_left fun j hj => by rw [if_pos (List.mem_range.1 hj)]]
          exact hR
        refine lls_own hR2 (fun j hj => ?_) (Below.refl _ _) (fun j kk => ?_)
        · have hjl : j < ds.length := by rw [HN.out]; exact hj
          have hdj : ds[j]? = some ds[j] := List.getElem?_eq_getElem hjl
          have := (bvV_bytes (k := k) (DK.up HW.out hjl).1 fun x hx => DK.byt j x hjl hx).byts
          unfold Sto.lenF Sto.valF
          rw [blocks_getD HW.out hdj, DK.bl j _ hdj]
          exact this
        · unfold Sto.valF
          by_cases hjl : j < ds.length
          · have hdj : ds[j]? = some ds[j] := List.getElem?_eq_getElem hjl
            rw [blocks_getD HW.out hdj, DK.bl j _ hdj]
            exact Sto.getD_bytes (bvV_bytes (k := k) (DK.up HW.out hjl).1 fun x hx => DK.byt j x hjl hx).1 kk
          · have hnn : (Sto.blocks ds k)[j]? = none := List.getElem?_eq_none (by rw [hl, ← HN.out]; omega)
            rw [List.getD_eq_getElem?_getD (l := Sto.blocks ds k), hnn]
            simp
      clear hR
      go_wp2_with fail
      go_ret
      exact ⟨HL.out, hb⟩

end Go.Proofs.YtldjieplbeflfaaGreat
