/-
  Texts of the proof, joined: VInsert.
-/
import Derived.Test.YtmcaejooaaahdaaGreatZ20
import Derived.Shelf.Spec.SlicesInsertGrow
import Derived.Laws.CopyRow
import Derived.Lib.AppendZerosOnto
import Derived.Lib.Overlaps
import Derived.Laws.CopyOwn
namespace Go.Proofs.YtmcaejooaaahdaaGreat
open Go.RowKit

theorem flat_take {α β : Type} (f : α → List β) (m : Nat) : ∀ (l : List α) (i : Nat), (∀ a, a ∈ l → (f a).length = m) → i ≤ l.length → (l.flatMap f).take (i * m) = (l.take i).flatMap f
  | _, 0, _, _ => by simp
  | [], i + 1, _, h => absurd h (by simp)
  | x :: l, i + 1, hm, h => by
    have hx := hm x List.mem_cons_self
    rw [List.flatMap_cons, List.take_succ_cons, List.flatMap_cons, List.take_append, hx, Nat.succ_mul, List.take_of_length_le (by omega), show i * m + m - m = i * m by omega, flat_take f m l i (fun a ha => hm a (List.mem_cons_of_mem _ ha)) (by simpa using h)]
theorem flat_drop {α β : Type} (f : α → List β) (m : Nat) : ∀ (l : List α) (i : Nat), (∀ a, a ∈ l → (f a).length = m) → i ≤ l.length → (l.flatMap f).drop (i * m) = (l.drop i).flatMap f
  | _, 0, _, _ => by simp
  | [], i + 1, _, h => absurd h (by simp)
  | x :: l, i + 1, hm, h => by
    have hx := hm x List.mem_cons_self
    rw [List.flatMap_cons, List.drop_succ_cons, List.drop_append, hx, Nat.succ_mul, List.drop_eq_nil_of_le (by omega), List.nil_append, show i * m + m - m = i * m by omega, flat_drop f m l i (fun a ha => hm a (List.mem_cons_of_mem _ ha)) (by simpa using h)]

/-- What is shifted up by m, and m laid between. -/
theorem shift_list (c E xs : List Value) (p n m : Nat) (hE : c.take n = E) (hp : p ≤ n) (hc : n + m ≤ c.length) (hx : xs.length = m) :
    ∃ arr1, arr1 = c.take (p + m) ++ (c.drop p).take (n - p) ++ c.drop (p + m + (n - p)) ∧ arr1.length = c.length ∧ arr1.take p ++ xs ++ arr1.drop (p + m) = (E.take p ++ (xs ++ E.drop p)) ++ c.drop (n + m) := by
  have h1 : (c.drop p).take (n - p) = E.drop p := by
    rw [← hE, List.drop_take]
  refine ⟨_, rfl, ?_, ?_⟩
  · simp
    omega
  · rw [h1, show p + m + (n - p) = n + m by omega]
    have e1 : (c.take (p + m) ++ E.drop p ++ c.drop (n + m)).take p = E.take p := by
      rw [List.append_assoc, List.take_append_of_le_length (by simp; omega), List.take_take, ← hE, List.take_take, show min p (p + m) = min p n by omega]
    have e2 : (c.take (p + m) ++ E.drop p ++ c.drop (n + m)).drop (p + m) = E.drop p ++ c.drop (n + m) := by
      rw [List.append_assoc, List.drop_append, List.drop_eq_nil_of_le (by simp; omega), List.nil_append, List.length_take, show p + m - min (p + m) c.length = 0 by omega, List.drop_zero]
    rw [e1, e2, List.append_assoc, List.append_assoc, List.append_assoc]

theorem Tryz.sizeAccount : (Tryz.prog.info? 93).map (·.size) = some 4 := by kernel_rfl
/-- Accounts are copied over others. -/
theorem run_copy_acs (w : World) (ty : TypeId) (g o dLen dCap : Nat) (a : Addr) (sLen sCap n : Nat) (cur : Array Value) (cs : List Value) (hn : n = Nat.min sLen dLen) (hl : cs.length = n * 4)
    (hg : w.heap[g]? = some (.cells cur 93 (0, 0))) (hsrc : ∀ j v, cs[j]? = some v → w.cell? (a.add j) = some v) (hfit : o + cs.length ≤ cur.size) (h1 : ∀ v ∈ cs, v.oneCell' = true) :
    (Builtin.copy_ #[28, 28] ty #[.slice (some ⟨g, o, none⟩) dLen dCap, .slice (some a) sLen sCap]).run Tryz.prog w = .ok (goInt n) (w.setRow g (cur.toList.take o ++ cs ++ cur.toList.drop (o + cs.length)).toArray) := by
  have hld := run_loadCells_list (P := Tryz.prog) w a cs hsrc
  have hst := run_storeCells_at Tryz.prog g o 93 cs 0 cur w hg (by simpa using hfit) h1
  have hu := Tryz.underlying28
  cases hq : Tryz.prog.info? 93 with
  | none =>
    have := Tryz.sizeAccount
    simp [hq] at this
  | some i =>
    have hi : i.size = 4 := by
      have := Tryz.sizeAccount
      simpa [hq] using this
    simp [Builtin.copy_, run_underlying hu, Builtin.lenOf, Builtin.firstCells, sizeOf, typeInfo, hq, hi, ← hn, ← hl, hld, hst]

/-- A new account lies in a block of its own. -/
abbrev NewA (w : World) (vb : Nat) (x : AcC) : Prop := w.heap[vb]? = some (.cells (acCells x).toArray 93 (0, 0))

set_option maxHeartbeats 4000000 in
set_option maxRecDepth 100000 in
theorem insert_shift (g cap i vb : Nat) (cur : Array Value) (es : List AcC) (x : AcC) (w : World) (hi : i < es.length) (hcap : es.length + 1 ≤ cap) (hm : cap ≤ 9223372036854775807) (hcs : cur.size = cap * 4)
    (hg : w.heap[g]? = some (.cells cur 93 (0, 0))) (htk : cur.toList.take (es.length * 4) = es.flatMap acCells) (hv : NewA w vb x) (hne : vb ≠ g) :
    Calls Tryz.prog 132 #[.slice (some ⟨g, 0, none⟩) es.length cap, .int .i64 i, .slice (some ⟨vb, 0, none⟩) 1 1] w fun e w' => e = .returned (.slice (some ⟨g, 0, none⟩) (es.length + 1) cap) ∧ ∃ arr : Array Value, w' = w.drew.setRow g arr ∧ arr.size = cap * 4 ∧ arr.toList.take ((es.length + 1) * 4) = (es.take i ++ x :: es.drop i).flatMap acCells := by
  obtain ⟨n, hn⟩ : ∃ n, n = es.length := ⟨_, rfl⟩
  rw [← hn] at hi hcap htk ⊢
  have HN : Hid (n = es.length) := hn
  clear hn
  have hzE : ∀ w, (Go.sizeOf 93).run Tryz.prog w = .ok 4 w := Tryz.sizeOf93
  have hov : ∀ lb cb, (callFunc 156 #[.slice (some ⟨vb, 0, none⟩) 1 1, .slice (some ⟨g, (i + 1) * 4, none⟩) lb cb]).run Tryz.prog w = .ok (.value (.bool false)) w := fun lb cb => by
    rw [run_callFunc_extern Tryz.func156 (by kernel_rfl) (by kernel_rfl) (by kernel_rfl) (e := Extern.SlicesOverlaps.overlaps #[28, 28] #[4]) (by kernel_rfl),
      Lib.run_overlaps_apart w 28 4 93 Tryz.underlying28 4 hzE ⟨vb, 0, none⟩ ⟨g, (i + 1) * 4, none⟩ 1 1 lb cb hne 93 93 4 (cap * 4) (by simp [World.shape?, hv, acCells]) (by simp [World.shape?, hg, hcs]) (by omega) (by simp [World.frozen?, hv]) (by simp [World.frozen?, hv])]
    rfl
  have hz2 : ¬ ((i : Int) = (n : Int)) := by omega
  have hw1 : IntKind.i64.wrap ((i : Int) + 1) = (i : Int) + 1 := by rw [IntKind.wrap_i64]; omega
  have hin : i ≤ n := by omega
  have hb4 : ¬ (cap = i) := by omega
  have hb2 : ¬ (cap = i + 1) := by omega
  have hb1 : (0 : Int) ≤ (i : Int) + 1 := by omega
  have htn : ((i : Int) + 1).toNat = i + 1 := by omega
  have hb3 : (i : Int) ≤ (n : Int) + 1 := by omega
  have hcl : cur.toList.length = cap * 4 := by rw [Array.length_toList]; exact hcs
  obtain ⟨arr1, ha1, hal, ha2⟩ := shift_list cur.toList (es.flatMap acCells) (acCells x) (i * 4) (n * 4) 4 htk (by omega) (by omega) rfl
  have hE1 : (cur.toList.drop (i * 4)).take (n * 4 - i * 4) = (es.flatMap acCells).drop (i * 4) := by rw [← htk, List.drop_take]
  have hEl : ((es.flatMap acCells).drop (i * 4)).length = (n - i) * 4 := by
    rw [List.length_drop, ac_len, ← HN.out]
    omega
  rw [hE1] at ha1
  have hcell : ∀ j v, ((es.flatMap acCells).drop (i * 4))[j]? = some v → w.drew.cell? ((⟨g, i * 4, none⟩ : Addr).add j) = some v := fun j v hj => by
    rw [WideShapes.add_plain]
    rw [← htk, List.getElem?_drop, List.getElem?_take] at hj
    split at hj
    · simp only [World.cell?, World.drew, hg]
      simpa using hj
    · cases hj
  have hcp1 : ∀ ty dc sc, (Builtin.copy_ #[28, 28] ty #[.slice (some ⟨g, (i + 1) * 4, none⟩) (n + 1 - (i + 1)) dc, .slice (some ⟨g, i * 4, none⟩) (n + 1 - i) sc]).run Tryz.prog w.drew = .ok (goInt (n - i : Nat)) (w.drew.setRow g arr1.toArray) := fun ty dc sc => by
    rw [run_copy_acs w.drew ty g ((i + 1) * 4) (n + 1 - (i + 1)) dc ⟨g, i * 4, none⟩ (n + 1 - i) sc (n - i) cur ((es.flatMap acCells).drop (i * 4)) (by simp only [Nat.min_def]; split <;> omega) hEl hg hcell (by rw [hEl]; omega) (fun v hv => ac_one es v (List.mem_of_mem_drop hv)), ha1, hEl, show (i + 1) * 4 = i * 4 + 4 by omega, show (n - i) * 4 = n * 4 - i * 4 by omega]
  have hg1 : (w.drew.setRow g arr1.toArray).heap[g]? = some (.cells arr1.toArray 93 (0, 0)) := setRow_heap w.drew g cur _ 93 _ hg
  have hv1 : (w.drew.setRow g arr1.toArray).heap[vb]? = some (.cells (acCells x).toArray 93 (0, 0)) := by
    rw [setRow_other _ _ _ _ hne]
    exact hv
  have hvc : ∀ j v, (acCells x)[j]? = some v → (w.drew.setRow g arr1.toArray).cell? ((⟨vb, 0, none⟩ : Addr).add j) = some v := fun j v hj => by
    rw [WideShapes.add_plain, Nat.zero_add]
    simp only [World.cell?, hv1]
    simpa using hj
  have hcp2 : ∀ ty dc, (Builtin.copy_ #[28, 28] ty #[.slice (some ⟨g, i * 4, none⟩) (n + 1 - i) dc, .slice (some ⟨vb, 0, none⟩) 1 1]).run Tryz.prog (w.drew.setRow g arr1.toArray) = .ok (goInt (1 : Nat)) (w.drew.setRow g ((arr1.take (i * 4) ++ acCells x ++ arr1.drop (i * 4 + 4))).toArray) := fun ty dc => by
    rw [run_copy_acs (w.drew.setRow g arr1.toArray) ty g (i * 4) (n + 1 - i) dc ⟨vb, 0, none⟩ 1 1 1 arr1.toArray (acCells x) (by simp only [Nat.min_def]; split <;> omega) rfl hg1 hvc (by show i * 4 + 4 ≤ arr1.toArray.size; rw [List.size_toArray, hal]; omega) (fun v hv => by
      have := ac_one [x] v (by simpa using hv)
      exact this), setRow_setRow]
    rfl
  obtain ⟨arr2, hA2⟩ : ∃ arr2 : Array Value, arr2 = (arr1.take (i * 4) ++ acCells x ++ arr1.drop (i * 4 + 4)).toArray := ⟨_, rfl⟩
  rw [← hA2] at hcp2
  have HF : Hid (∃ arr : Array Value, w.drew.setRow g arr2 = w.drew.setRow g arr ∧ arr.size = cap * 4 ∧ arr.toList.take ((n + 1) * 4) = (es.take i ++ x :: es.drop i).flatMap acCells) := by
    refine ⟨_, rfl, ?_, ?_⟩
    · rw [hA2, List.size_toArray]
      simp only [List.length_append, List.length_take, List.length_drop, hal, hcl]
      show min (i * 4) (cap * 4) + 4 + (cap * 4 - (i * 4 + 4)) = cap * 4
      omega
    · rw [hA2]
      show (arr1.take (i * 4) ++ acCells x ++ arr1.drop (i * 4 + 4)).take ((n + 1) * 4) = _
      rw [ha2, List.flatMap_append, List.flatMap_cons, ← flat_take acCells 4 es i (fun _ _ => rfl) (by rw [← HN.out]; omega), ← flat_drop acCells 4 es i (fun _ _ => rfl) (by rw [← HN.out]; omega)]
      exact List.take_left' (by
        simp only [List.length_append, List.length_take, ac_len, hEl]
        show min (i * 4) (es.length * 4) + (4 + (n - i) * 4) = (n + 1) * 4
        rw [← HN.out]
        omega)
  clear hA2 ha1 hal ha2 hE1 hEl hcell hg1 hv1 hvc htk hg hv hcl hcs
  have mixed : Tryz.prog.follows Departure.mixedOrders = true := by kernel_rfl
  go_enter Tryz.func132, Tryz.ntmps132
  go_wp2_with (simp only [hov])
  go_region_law_o (go_loud (refine step_copy_runI rfl _ _ 28 28 rfl (.slice (some ⟨g, (i + 1) * 4, none⟩) (n + 1 - (i + 1)) (cap - (i + 1))) (.slice (some ⟨g, i * 4, none⟩) (n + 1 - i) (cap - i)) (by simp [Act.eval, Act.put]) (by simp [Act.eval, Act.put]) (hcp1 3 (cap - (i + 1)) (cap - i)) ?_))
  go_wp2_with (at_builtin; refine wpList_copy_runI _ rfl _ _ 28 28 rfl _ _ rfl rfl (hcp2 _ _) ?_)
  go_ret
  exact ⟨rfl, HF.out⟩

/-- What is laid into new room. -/
theorem grow_list (R E xs : List Value) (p n m : Nat) (hp : p ≤ n) (hR : n + m ≤ R.length) (hR2 : R.take p = E.take p) (hx : xs.length = m) :
    ∃ A, A = R.take p ++ xs ++ R.drop (p + m) ∧ A.length = R.length ∧ A.take (p + m) ++ E.drop p ++ A.drop (p + m + (n - p)) = (E.take p ++ (xs ++ E.drop p)) ++ R.drop (n + m) := by
  refine ⟨_, rfl, ?_, ?_⟩
  · simp
    omega
  · have hl : (R.take p ++ xs).length = p + m := by
      simp
      omega
    have e1 : (R.take p ++ xs ++ R.drop (p + m)).take (p + m) = R.take p ++ xs := by
      rw [List.take_append_of_le_length (by omega), List.take_of_length_le (by omega)]
    have e2 : (R.take p ++ xs ++ R.drop (p + m)).drop (p + m + (n - p)) = R.drop (n + m) := by
      rw [List.drop_append, List.drop_eq_nil_of_le (by omega), List.nil_append, hl, List.drop_drop]
      congr 1
      omega
    rw [e1, e2, hR2]
    simp only [List.append_assoc]

set_option maxHeartbeats 4000000 in
set_option maxRecDepth 100000 in
theorem insert_grow (g cap i vb : Nat) (cur : Array Value) (es : List AcC) (x : AcC) (w : World) (hi : i < es.length) (hcap : es.length ≤ cap) (hcap2 : cap < es.length + 1) (hsm : es.length ≤ 100000)
    (hg : w.heap[g]? = some (.cells cur 93 (0, 0))) (htk : cur.toList.take (es.length * 4) = es.flatMap acCells) (hv : NewA w vb x) :
    Calls Tryz.prog 132 #[.slice (some ⟨g, 0, none⟩) es.length cap, .int .i64 i, .slice (some ⟨vb, 0, none⟩) 1 1] w fun e w' => ∃ (G : Nat) (arr : Array Value), e = .returned (.slice (some ⟨w.heap.size, 0, none⟩) (es.length + 1) G) ∧ es.length + 1 ≤ G ∧ G ≤ maxLen ∧ w'.heap[w.heap.size]? = some (.cells arr 93 (0, 0)) ∧ arr.size = G * 4 ∧ arr.toList.take ((es.length + 1) * 4) = (es.take i ++ x :: es.drop i).flatMap acCells ∧ Below w.heap.size w w' := by
  obtain ⟨n, hn⟩ : ∃ n, n = es.length := ⟨_, rfl⟩
  rw [← hn] at hi hcap hcap2 htk hsm ⊢
  have HN : Hid (n = es.length) := hn
  clear hn
  have hgl : g < w.heap.size := (Array.getElem?_eq_some_iff.1 hg).1
  have hvl : vb < w.heap.size := (Array.getElem?_eq_some_iff.1 hv).1
  obtain ⟨i4, hi4, hh4⟩ := Option.map_eq_some_iff.1 Tryz.infoAccount
  simp only [Prod.mk.injEq] at hh4
  obtain ⟨hy0, hy1, hy2⟩ := hh4
  have hElen : (es.flatMap acCells).length = n * 4 := by rw [ac_len, ← HN.out]
  have hold : (Builtin.firstCells i4.size i (.slice (some ⟨g, 0, none⟩) i cap)).run Tryz.prog w.drew = .ok ((es.flatMap acCells).take (i * 4)).toArray w.drew := by
    rw [hy1]
    refine run_firstCells_some w.drew 4 i ⟨g, 0, none⟩ i cap _ (by rw [List.length_take, hElen]; omega) (fun j v hj => ?_)
    rw [WideShapes.add_plain, Nat.zero_add]
    rw [List.getElem?_take] at hj
    split at hj
    · rw [← htk, List.getElem?_take] at hj
      split at hj
      · simp only [World.cell?, World.drew, hg]
        simpa using hj
      · cases hj
    · cases hj
  have hkk : (n : Int) + 1 - (i : Int) = ((n + 1 - i : Nat) : Int) := by omega
  have hik : i + (n + 1 - i) = n + 1 := by omega
  obtain ⟨G, hG⟩ : ∃ G, G = grownCap w (n + 1) cap 93 := ⟨_, rfl⟩
  have hGn : n + 1 ≤ G := by rw [hG]; exact grownCap_ge w _ _ _
  have hG63 : G ≤ maxLen := by
    rw [hG]
    exact grownCap_le_maxLen w (n + 1) cap 93 (by unfold maxLen; omega)
  obtain ⟨ROW, hROW⟩ : ∃ ROW : Array Value, ROW = ((es.flatMap acCells).take (i * 4)).toArray ++ Builtin.zeroCells (Value.agg #[.string ByteArray.empty, .int .i64 0, .int .i64 0, .bool false]).cells (n + 1 - i) ++ Builtin.zeroCells (Value.agg #[.string ByteArray.empty, .int .i64 0, .int .i64 0, .bool false]).cells (G - (n + 1)) := ⟨_, rfl⟩
  have hrz : ∀ ty, (Builtin.append_ #[28, 3] ty #[.slice (some ⟨g, 0, none⟩) i cap, .int .i64 ((n : Int) + 1 - (i : Int))]).run Tryz.prog w = .ok (.slice (some ⟨w.heap.size, 0, none⟩) (n + 1) G) (w.drew.alloc (.cells ROW 93)) := fun ty => by
    have h := Lib.run_append_grow_zeros (P := Tryz.prog) w 28 3 ty 93 i4 _ .i64 .i64 Tryz.underlying28 Tryz.underlying3 hi4 hy0 (some ⟨g, 0, none⟩) i cap _ hold (n + 1 - i) (by omega) (by omega) (by omega) (by omega) (by rw [hy2]; omega) (by rw [hy2, hik]; exact growslice_fits (by omega) (by omega))
    rw [hik, ← hG, ← hROW] at h
    rw [hkk]
    exact h
  have hzl : ∀ k, (Builtin.zeroCells (Value.agg #[.string ByteArray.empty, .int .i64 0, .int .i64 0, .bool false]).cells k).size = k * 4 := fun k => by
    simp [Builtin.zeroCells, Value.cells]
  have hRs : ROW.toList.length = G * 4 := by
    rw [Array.length_toList, hROW, Array.size_append, Array.size_append, hzl, hzl, List.size_toArray, List.length_take, hElen]
    omega
  have hRt : ROW.toList.take (i * 4) = (es.flatMap acCells).take (i * 4) := by
    rw [hROW, Array.toList_append, Array.toList_append, List.append_assoc]
    exact List.take_left' (by rw [List.length_take, hElen]; omega)
  obtain ⟨A, hA1, hA2, hA3⟩ := grow_list ROW.toList (es.flatMap acCells) (acCells x) (i * 4) (n * 4) 4 (by omega) (by omega) hRt rfl
  obtain ⟨B, hB⟩ : ∃ B : Array Value, B = (A.take (i * 4 + 4) ++ (es.flatMap acCells).drop (i * 4) ++ A.drop (i * 4 + 4 + (n * 4 - i * 4))).toArray := ⟨_, rfl⟩
  have hEl : ((es.flatMap acCells).drop (i * 4)).length = (n - i) * 4 := by
    rw [List.length_drop, hElen]
    omega
  have hcpA : ∀ (W : World), W.heap[w.heap.size]? = some (.cells ROW 93 (0, 0)) → W.heap[vb]? = w.heap[vb]? → ∀ ty dc, (Builtin.copy_ #[28, 28] ty #[.slice (some ⟨w.heap.size, i * 4, none⟩) (n + 1 - i) dc, .slice (some ⟨vb, 0, none⟩) 1 1]).run Tryz.prog W = .ok (goInt (1 : Nat)) (W.setRow w.heap.size A.toArray) := fun W hW1 hW2 ty dc => by
    rw [run_copy_acs W ty w.heap.size (i * 4) (n + 1 - i) dc ⟨vb, 0, none⟩ 1 1 1 ROW (acCells x) (by simp only [Nat.min_def]; split <;> omega) rfl hW1 (fun j v hj => by
      rw [WideShapes.add_plain, Nat.zero_add]
      rw [hv] at hW2
      simp only [World.cell?, hW2]
      simpa using hj) (by show i * 4 + 4 ≤ ROW.size; rw [← Array.length_toList, hRs]; omega) (fun v hv => ac_one [x] v (by simpa using hv)), hA1]
    rfl
  have hcpB : ∀ (W : World), W.heap[w.heap.size]? = some (.cells A.toArray 93 (0, 0)) → W.heap[g]? = w.heap[g]? → ∀ ty dc sc, (Builtin.copy_ #[28, 28] ty #[.slice (some ⟨w.heap.size, (i + 1) * 4, none⟩) (n + 1 - (i + 1)) dc, .slice (some ⟨g, i * 4, none⟩) (n - i) sc]).run Tryz.prog W = .ok (goInt (n - i : Nat)) (W.setRow w.heap.size B) := fun W hW1 hW2 ty dc sc => by
    rw [run_copy_acs W ty w.heap.size ((i + 1) * 4) (n + 1 - (i + 1)) dc ⟨g, i * 4, none⟩ (n - i) sc (n - i) A.toArray ((es.flatMap acCells).drop (i * 4)) (by simp only [Nat.min_def]; split <;> omega) hEl hW1 (fun j v hj => by
      rw [WideShapes.add_plain]
      rw [← htk, List.getElem?_drop, List.getElem?_take] at hj
      split at hj
      · rw [hg] at hW2
        simp only [World.cell?, hW2]
        simpa using hj
      · cases hj) (by rw [hEl, List.size_toArray, hA2, hRs]; omega) (fun v hv => ac_one es v (List.mem_of_mem_drop hv)), hEl, hB, show (i + 1) * 4 = i * 4 + 4 by omega, show (n - i) * 4 = n * 4 - i * 4 by omega]
  have HB1 : Hid (B.size = G * 4) := by
    show B.size = G * 4
    rw [hB, List.size_toArray, hA3]
    simp only [List.length_append, List.length_take, List.length_drop, hElen, hRs]
    show min (i * 4) (n * 4) + (4 + (n * 4 - i * 4)) + (G * 4 - (n * 4 + 4)) = G * 4
    omega
  have HB2 : Hid (B.toList.take ((n + 1) * 4) = (es.take i ++ x :: es.drop i).flatMap acCells) := by
    show B.toList.take ((n + 1) * 4) = _
    rw [hB]
    show (A.take (i * 4 + 4) ++ (es.flatMap acCells).drop (i * 4) ++ A.drop (i * 4 + 4 + (n * 4 - i * 4))).take ((n + 1) * 4) = _
    rw [hA3, List.flatMap_append, List.flatMap_cons, ← flat_take acCells 4 es i (fun _ _ => rfl) (by rw [← HN.out]; omega), ← flat_drop acCells 4 es i (fun _ _ => rfl) (by rw [← HN.out]; omega)]
    exact List.take_left' (by
      simp only [List.length_append, List.length_take, List.length_drop, hElen]
      show min (i * 4) (n * 4) + (4 + (n * 4 - i * 4)) = (n + 1) * 4
      omega)
  have h0 : (w.drew.alloc (.cells ROW 93)).heap[w.heap.size]? = some (.cells ROW 93 (0, 0)) := heap_alloc_new w.drew _
  have h0v : (w.drew.alloc (.cells ROW 93)).heap[vb]? = w.heap[vb]? := Deep.blk_alloc_lt w.drew _ _ hvl
  have h0g : (w.drew.alloc (.cells ROW 93)).heap[g]? = w.heap[g]? := Deep.blk_alloc_lt w.drew _ _ hgl
  have hcA := hcpA (w.drew.alloc (.cells ROW 93)) h0 h0v
  have h1 : ((w.drew.alloc (.cells ROW 93)).setRow w.heap.size A.toArray).heap[w.heap.size]? = some (.cells A.toArray 93 (0, 0)) := setRow_heap _ _ ROW _ 93 _ h0
  have h1g : ((w.drew.alloc (.cells ROW 93)).setRow w.heap.size A.toArray).heap[g]? = w.heap[g]? := by
    rw [setRow_other _ _ _ _ (by omega)]
    exact h0g
  have hcB := hcpB ((w.drew.alloc (.cells ROW 93)).setRow w.heap.size A.toArray).drew h1 h1g
  have h2 : (((w.drew.alloc (.cells ROW 93)).setRow w.heap.size A.toArray).drew.setRow w.heap.size B).heap[w.heap.size]? = some (.cells B 93 (0, 0)) := setRow_heap _ _ A.toArray _ 93 _ h1
  have hbl : Below w.heap.size w (((w.drew.alloc (.cells ROW 93)).setRow w.heap.size A.toArray).drew.setRow w.heap.size B) := by
    have b0 : Below w.heap.size w w.drew := ⟨rfl, rfl, rfl, Nat.le_refl _, fun _ _ => rfl⟩
    have b1 := b0.alloc (Nat.le_refl _) (.cells ROW 93)
    have b2 := below_setRow b1 (Nat.le_refl _) A.toArray
    exact below_setRow (w := ((w.drew.alloc (.cells ROW 93)).setRow w.heap.size A.toArray).drew) ⟨b2.os, b2.tape, b2.output, b2.size, b2.block⟩ (Nat.le_refl _) B
  generalize hW1 : w.drew.alloc (.cells ROW 93) = W1 at hrz hcA hcB h2 hbl
  generalize hW2 : W1.setRow w.heap.size A.toArray = W2 at hcA hcB h2 hbl
  have HF : Hid (Below w.heap.size w (W2.drew.setRow w.heap.size B) ∧ (W2.drew.setRow w.heap.size B).heap[w.heap.size]? = some (.cells B 93 (0, 0))) := ⟨hbl, h2⟩
  clear hW1 hW2 hbl h2 h1 h1g h0 h0v h0g hcpA hcpB hB hA1 hA2 hA3 hRt hRs hzl hROW hold hEl htk hg hv hi4 hy0 hy1 hy2 hkk hik hG hElen
  have hz2 : ¬ ((i : Int) = (n : Int)) := by omega
  have hz3 : (cap : Int) < (n : Int) + 1 := by omega
  have hw1 : IntKind.i64.wrap ((i : Int) + 1) = (i : Int) + 1 := by rw [IntKind.wrap_i64]; omega
  have hin : i ≤ n := by omega
  have hb1 : (0 : Int) ≤ (i : Int) + 1 := by omega
  have htn : ((i : Int) + 1).toNat = i + 1 := by omega
  have hb3 : (i : Int) ≤ (n : Int) := by omega
  have hGi : ¬ (G = i) := by omega
  have hGim : ¬ (G = i + 1) := by omega
  have hci : ¬ (cap = i) := by omega
  have hG63' : G ≤ 9223372036854775807 := by unfold maxLen at hG63; omega
  have mixed : Tryz.prog.follows Departure.mixedOrders = true := by kernel_rfl
  go_enter Tryz.func132, Tryz.ntmps132
  go_wp2_with (first
    | (at_builtin; refine Lib.wpList_append_run _ rfl _ _ _ _ rfl _ _ rfl rfl _ _ (hrz _) ?_)
    | (at_builtin; refine wpList_copy_runI _ rfl _ _ 28 28 rfl _ _ rfl rfl (hcA _ _) ?_))
  go_region_law_o (go_loud (refine step_copy_runI rfl _ _ 28 28 rfl (.slice (some ⟨w.heap.size, (i + 1) * 4, none⟩) (n + 1 - (i + 1)) (G - (i + 1))) (.slice (some ⟨g, i * 4, none⟩) (n - i) (cap - i)) (by simp [Act.eval, Act.put]) (by simp [Act.eval, Act.put]) (hcB 3 (G - (i + 1)) (cap - i)) ?_))
  go_wp2_with fail
  go_ret
  exact ⟨G, B, rfl, hGn, hG63, HF.out.2, HB1.out, HB2.out, HF.out.1⟩

/-- Accounts of the call's own are told. -/
def InsO (e : Ending) (w' : World) (B : Nat) (es : List AcC) : Prop := ∃ v, e = .returned v ∧ ABuf w' B v es

set_option maxHeartbeats 1000000 in
set_option maxRecDepth 100000 in
theorem insert_end (B vb : Nat) (v : Value) (es : List AcC) (x : AcC) (w : World) (h : ABuf w B v es) (hB : B ≤ w.heap.size) (hn : es.length ≤ 100000) (hv : NewA w vb x) (hx : x.1.size ≤ 9223372036854775807) :
    Calls Tryz.prog 132 #[v, .int .i64 es.length, .slice (some ⟨vb, 0, none⟩) 1 1] w fun e w' => InsO e w' B (es ++ [x]) ∧ Below B w w' := by
  obtain ⟨v', w', hrun, hBuf, hbl, _⟩ := app_acs w B v es [x] h hB ⟨vb, 0, none⟩ 1 (fun j u hj => by
    rw [WideShapes.add_plain, Nat.zero_add]
    simp only [World.cell?, hv]
    simpa using hj) (fun e he => by rw [List.mem_singleton.1 he]; exact hx) (by simp; omega)
  have HR : Hid (InsO (.returned v') w' B (es ++ [x]) ∧ Below B w w') := ⟨⟨v', rfl, hBuf⟩, hbl⟩
  have hrun' : (Builtin.append_ #[28, 28] 28 #[v, .slice (some ⟨vb, 0, none⟩) 1 1]).run Tryz.prog w = .ok v' w' := hrun
  clear hrun hBuf hbl
  rcases h.1.2 with ⟨rfl, h0⟩ | ⟨g, cap, cur, rfl, _, _, hc, hm, _⟩
  · rw [h0]
    clear h hv
    go_enter Tryz.func132, Tryz.ntmps132
    go_wp2_with (at_builtin; refine Lib.wpList_append_run _ rfl _ _ _ _ rfl _ _ rfl rfl _ _ hrun' ?_)
    go_ret
    exact HR.out
  · clear h hv
    unfold maxLen at hm
    by_cases hcn : cap = es.length
    · subst hcn
      go_enter Tryz.func132, Tryz.ntmps132
      go_wp2_with (at_builtin; refine Lib.wpList_append_run _ rfl _ _ _ _ rfl _ _ rfl rfl _ _ hrun' ?_)
      go_ret
      exact HR.out
    · go_enter Tryz.func132, Tryz.ntmps132
      go_wp2_with (at_builtin; refine Lib.wpList_append_run _ rfl _ _ _ _ rfl _ _ rfl rfl _ _ hrun' ?_)
      go_ret
      exact HR.out

theorem insert_any (B i vb : Nat) (v : Value) (es : List AcC) (x : AcC) (w : World) (h : ABuf w B v es) (hB : B ≤ w.heap.size) (hi : i ≤ es.length) (hn : es.length ≤ 100000) (hv : NewA w vb x) (hne : v.ownBlock ≠ some vb) (hx : x.1.size ≤ 9223372036854775807) :
    Calls Tryz.prog 132 #[v, .int .i64 i, .slice (some ⟨vb, 0, none⟩) 1 1] w fun e w' => InsO e w' B (es.take i ++ x :: es.drop i) ∧ Below B w w' := by
  have hsz : ∀ e, e ∈ es.take i ++ x :: es.drop i → e.1.size ≤ 9223372036854775807 := fun e he => by
    rcases List.mem_append.1 he with q | q
    · exact h.2 e (List.mem_of_mem_take q)
    · rcases List.mem_cons.1 q with rfl | q
      · exact hx
      · exact h.2 e (List.mem_of_mem_drop q)
  have hlen : (es.take i ++ x :: es.drop i).length = es.length + 1 := by
    simp
    omega
  by_cases he : i = es.length
  · subst he
    have H := insert_end B vb v es x w h hB hn hv hx
    rw [List.take_length, List.drop_length]
    exact H
  · rcases h.1.2 with ⟨_, h0⟩ | ⟨g, cap, cur, rfl, hBg, hg, hc, hm, hcs, htk⟩
    · omega
    · by_cases hroom : es.length + 1 ≤ cap
      · refine (insert_shift g cap i vb cur es x w (by omega) hroom (by unfold maxLen at hm; exact hm) hcs hg htk hv (fun e => hne (by rw [e]; rfl))).mono ?_
        rintro e w' ⟨rfl, arr, rfl, ha1, ha2⟩
        have hg1 : (w.drew.setRow g arr).heap[g]? = some (.cells arr 93 (0, 0)) := setRow_heap w.drew g cur _ 93 _ hg
        refine ⟨⟨_, rfl, ⟨?_, hsz⟩⟩, ?_⟩
        · rw [hlen]
          exact ⟨by rw [ac_len, hlen], Or.inr ⟨g, cap, arr, rfl, hBg, hg1, hroom, hm, ha1, ha2⟩⟩
        · exact below_setRow (w0 := w) (w := w.drew) ⟨rfl, rfl, rfl, Nat.le_refl _, fun _ _ => rfl⟩ hBg arr
      · refine (insert_grow g cap i vb cur es x w (by omega) hc (by omega) hn hg htk hv).mono ?_
        rintro e w' ⟨G, arr, rfl, hG1, hG2, hg1, ha1, ha2, hbl⟩
        refine ⟨⟨_, rfl, ⟨?_, hsz⟩⟩, hbl.mono hB⟩
        rw [hlen]
        exact ⟨by rw [ac_len, hlen], Or.inr ⟨w.heap.size, G, arr, rfl, hB, hg1, hG1, hG2, ha1, ha2⟩⟩

end Go.Proofs.YtmcaejooaaahdaaGreat
