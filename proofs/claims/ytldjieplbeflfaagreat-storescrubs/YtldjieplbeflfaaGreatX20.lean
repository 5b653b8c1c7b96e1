/-
  Texts of the proof, joined: HInsH, VChange.
-/
import Derived.Test.YtldjieplbeflfaaGreatX16
import Derived.Test.YtldjieplbeflfaaGreatX19
import Derived.Maps.AppendAt
namespace Go.Proofs.YtldjieplbeflfaaGreat
open Go.RowKit

/-- What is told: the list, with one more; nothing but its own block has turned. -/
def InsHO (e : Ending) (w w' : World) (B : Nat) (v : Value) (es : List HeC) : Prop := ∃ v', e = .returned v' ∧ w'.ownsRow B 78 2 v' es.length (es.flatMap heCells) ∧ Off (fun k => v.ownBlock = some k) w w' ∧ (v'.ownBlock = v.ownBlock ∨ ∀ g, v'.ownBlock = some g → w.heap.size ≤ g)

theorem Tryz.sizeH : (Tryz.prog.info? 78).map (·.size) = some 2 := by kernel_rfl
/-- Elements are copied over others. -/
theorem run_copy_H (w : World) (ty : TypeId) (g o dLen dCap : Nat) (a : Addr) (sLen sCap n : Nat) (cur : Array Value) (cs : List Value) (hn : n = Nat.min sLen dLen) (hl : cs.length = n * 2)
    (hg : w.heap[g]? = some (.cells cur 78 (0, 0))) (hsrc : ∀ j v, cs[j]? = some v → w.cell? (a.add j) = some v) (hfit : o + cs.length ≤ cur.size) (h1 : ∀ v ∈ cs, v.oneCell' = true) :
    (Builtin.copy_ #[50, 50] ty #[.slice (some ⟨g, o, none⟩) dLen dCap, .slice (some a) sLen sCap]).run Tryz.prog w = .ok (goInt n) (w.setRow g (cur.toList.take o ++ cs ++ cur.toList.drop (o + cs.length)).toArray) := by
  have hld := run_loadCells_list (P := Tryz.prog) w a cs hsrc
  have hst := run_storeCells_at Tryz.prog g o 78 cs 0 cur w hg (by simpa using hfit) h1
  have hu := Tryz.underlying50
  cases hq : Tryz.prog.info? 78 with
  | none =>
    have := Tryz.sizeH
    simp [hq] at this
  | some i =>
    have hi : i.size = 2 := by
      have := Tryz.sizeH
      simpa [hq] using this
    simp [Builtin.copy_, run_underlying hu, Builtin.lenOf, Builtin.firstCells, sizeOf, typeInfo, hq, hi, ← hn, ← hl, hld, hst]

/-- A new element lies in a block of its own. -/
abbrev NewH (w : World) (vb : Nat) (x : HeC) : Prop := w.heap[vb]? = some (.cells (heCells x).toArray 78 (0, 0))

set_option maxHeartbeats 4000000 in
set_option maxRecDepth 100000 in
theorem insH_shift (g cap i vb : Nat) (cur : Array Value) (es : List HeC) (x : HeC) (w : World) (hi : i < es.length) (hcap : es.length + 1 ≤ cap) (hm : cap ≤ 9223372036854775807) (hcs : cur.size = cap * 2)
    (hg : w.heap[g]? = some (.cells cur 78 (0, 0))) (htk : cur.toList.take (es.length * 2) = es.flatMap heCells) (hv : NewH w vb x) (hne : vb ≠ g) :
    Calls Tryz.prog 86 #[.slice (some ⟨g, 0, none⟩) es.length cap, .int .i64 i, .slice (some ⟨vb, 0, none⟩) 1 1] w fun e w' => e = .returned (.slice (some ⟨g, 0, none⟩) (es.length + 1) cap) ∧ ∃ arr : Array Value, w' = w.drew.setRow g arr ∧ arr.size = cap * 2 ∧ arr.toList.take ((es.length + 1) * 2) = (es.take i ++ x :: es.drop i).flatMap heCells := by
  obtain ⟨n, hn⟩ : ∃ n, n = es.length := ⟨_, rfl⟩
  rw [← hn] at hi hcap htk ⊢
  have HN : Hid (n = es.length) := hn
  clear hn
  have hzE : ∀ w, (Go.sizeOf 78).run Tryz.prog w = .ok 2 w := Tryz.sizeOf78
  have hov : ∀ lb cb, (callFunc 105 #[.slice (some ⟨vb, 0, none⟩) 1 1, .slice (some ⟨g, (i + 1) * 2, none⟩) lb cb]).run Tryz.prog w = .ok (.value (.bool false)) w := fun lb cb => by
    rw [run_callFunc_extern Tryz.func105 (by kernel_rfl) (by kernel_rfl) (by kernel_rfl) (e := Extern.SlicesOverlaps.overlaps #[50, 50] #[4]) (by kernel_rfl),
      Lib.run_overlaps_apart w 50 4 78 Tryz.underlying50 2 hzE ⟨vb, 0, none⟩ ⟨g, (i + 1) * 2, none⟩ 1 1 lb cb hne 78 78 2 (cap * 2) (by simp [World.shape?, hv, heCells]) (by simp [World.shape?, hg, hcs]) (by omega) (by simp [World.frozen?, hv]) (by simp [World.frozen?, hv])]
    rfl
  have hz2 : ¬ ((i : Int) = (n : Int)) := by omega
  have hw1 : IntKind.i64.wrap ((i : Int) + 1) = (i : Int) + 1 := by rw [IntKind.wrap_i64]; omega
  have hin : i ≤ n := by omega
  have hb4 : ¬ (cap = i) := by omega
  have hb2 : ¬ (cap = i + 1) := by omega
  have hb1 : (0 : Int) ≤ (i : Int) + 1 := by omega
  have htn : ((i : Int) + 1).toNat = i + 1 := by omega
  have hb3 : (i : Int) ≤ (n : Int) + 1 := by omega
  have hcl : cur.toList.length = cap * 2 := by rw [Array.length_toList]; exact hcs
  obtain ⟨arr1, ha1, hal, ha2⟩ := shift_list cur.toList (es.flatMap heCells) (heCells x) (i * 2) (n * 2) 2 htk (by omega) (by omega) rfl
  have hE1 : (cur.toList.drop (i * 2)).take (n * 2 - i * 2) = (es.flatMap heCells).drop (i * 2) := by rw [← htk, List.drop_take]
  have hEl : ((es.flatMap heCells).drop (i * 2)).length = (n - i) * 2 := by
    rw [List.length_drop, he_len, ← HN.out]
    omega
  rw [hE1] at ha1
  have hcell : ∀ j v, ((es.flatMap heCells).drop (i * 2))[j]? = some v → w.drew.cell? ((⟨g, i * 2, none⟩ : Addr).add j) = some v := fun j v hj => by
    rw [WideShapes.add_plain]
    rw [← htk, List.getElem?_drop, List.getElem?_take] at hj
    split at hj
    · simp only [World.cell?, World.drew, hg]
      simpa using hj
    · cases hj
  have hcp1 : ∀ ty dc sc, (Builtin.copy_ #[50, 50] ty #[.slice (some ⟨g, (i + 1) * 2, none⟩) (n + 1 - (i + 1)) dc, .slice (some ⟨g, i * 2, none⟩) (n + 1 - i) sc]).run Tryz.prog w.drew = .ok (goInt (n - i : Nat)) (w.drew.setRow g arr1.toArray) := fun ty dc sc => by
    rw [run_copy_H w.drew ty g ((i + 1) * 2) (n + 1 - (i + 1)) dc ⟨g, i * 2, none⟩ (n + 1 - i) sc (n - i) cur ((es.flatMap heCells).drop (i * 2)) (by simp only [Nat.min_def]; split <;> omega) hEl hg hcell (by rw [hEl]; omega) (fun v hv => he_one es v (List.mem_of_mem_drop hv)), ha1, hEl, show (i + 1) * 2 = i * 2 + 2 by omega, show (n - i) * 2 = n * 2 - i * 2 by omega]
  have hg1 : (w.drew.setRow g arr1.toArray).heap[g]? = some (.cells arr1.toArray 78 (0, 0)) := setRow_heap w.drew g cur _ 78 _ hg
  have hv1 : (w.drew.setRow g arr1.toArray).heap[vb]? = some (.cells (heCells x).toArray 78 (0, 0)) := by
    rw [setRow_other _ _ _ _ hne]
    exact hv
  have hvc : ∀ j v, (heCells x)[j]? = some v → (w.drew.setRow g arr1.toArray).cell? ((⟨vb, 0, none⟩ : Addr).add j) = some v := fun j v hj => by
    rw [WideShapes.add_plain, Nat.zero_add]
    simp only [World.cell?, hv1]
    simpa using hj
  have hcp2 : ∀ ty dc, (Builtin.copy_ #[50, 50] ty #[.slice (some ⟨g, i * 2, none⟩) (n + 1 - i) dc, .slice (some ⟨vb, 0, none⟩) 1 1]).run Tryz.prog (w.drew.setRow g arr1.toArray) = .ok (goInt (1 : Nat)) (w.drew.setRow g ((arr1.take (i * 2) ++ heCells x ++ arr1.drop (i * 2 + 2))).toArray) := fun ty dc => by
    rw [run_copy_H (w.drew.setRow g arr1.toArray) ty g (i * 2) (n + 1 - i) dc ⟨vb, 0, none⟩ 1 1 1 arr1.toArray (heCells x) (by simp only [Nat.min_def]; split <;> omega) rfl hg1 hvc (by show i * 2 + 2 ≤ arr1.toArray.size; rw [List.size_toArray, hal]; omega) (fun v hv => by
      have := he_one [x] v (by simpa using hv)
      exact this), setRow_setRow]
    rfl
  obtain ⟨arr2, hA2⟩ : ∃ arr2 : Array Value, arr2 = (arr1.take (i * 2) ++ heCells x ++ arr1.drop (i * 2 + 2)).toArray := ⟨_, rfl⟩
  rw [← hA2] at hcp2
  have HF : Hid (∃ arr : Array Value, w.drew.setRow g arr2 = w.drew.setRow g arr ∧ arr.size = cap * 2 ∧ arr.toList.take ((n + 1) * 2) = (es.take i ++ x :: es.drop i).flatMap heCells) := by
    refine ⟨_, rfl, ?_, ?_⟩
    · rw [hA2, List.size_toArray]
      simp only [List.length_append, List.length_take, List.length_drop, hal, hcl]
      show min (i * 2) (cap * 2) + 2 + (cap * 2 - (i * 2 + 2)) = cap * 2
      omega
    · rw [hA2]
      show (arr1.take (i * 2) ++ heCells x ++ arr1.drop (i * 2 + 2)).take ((n + 1) * 2) = _
      rw [ha2, List.flatMap_append, List.flatMap_cons, ← flat_take heCells 2 es i (fun _ _ => rfl) (by rw [← HN.out]; omega), ← flat_drop heCells 2 es i (fun _ _ => rfl) (by rw [← HN.out]; omega)]
      exact List.take_left' (by
        simp only [List.length_append, List.length_take, he_len, hEl]
        show min (i * 2) (es.length * 2) + (2 + (n - i) * 2) = (n + 1) * 2
        rw [← HN.out]
        omega)
  clear hA2 ha1 hal ha2 hE1 hEl hcell hg1 hv1 hvc htk hg hv hcl hcs
  have mixed : Tryz.prog.follows Departure.mixedOrders = true := by kernel_rfl
  go_enter Tryz.func86, Tryz.ntmps86
  go_wp2_with (simp only [hov])
  go_region_law_o (go_loud (refine step_copy_runI rfl _ _ 50 50 rfl (.slice (some ⟨g, (i + 1) * 2, none⟩) (n + 1 - (i + 1)) (cap - (i + 1))) (.slice (some ⟨g, i * 2, none⟩) (n + 1 - i) (cap - i)) (by simp [Act.eval, Act.put]) (by simp [Act.eval, Act.put]) (hcp1 3 (cap - (i + 1)) (cap - i)) ?_))
  go_wp2_with (at_builtin; refine wpList_copy_runI _ rfl _ _ 50 50 rfl _ _ rfl rfl (hcp2 _ _) ?_)
  go_ret
  exact ⟨rfl, HF.out⟩

set_option maxHeartbeats 4000000 in
set_option maxRecDepth 100000 in
theorem insH_grow (g cap i vb : Nat) (cur : Array Value) (es : List HeC) (x : HeC) (w : World) (hi : i < es.length) (hcap : es.length ≤ cap) (hcap2 : cap < es.length + 1) (hsm : es.length ≤ 100000)
    (hg : w.heap[g]? = some (.cells cur 78 (0, 0))) (htk : cur.toList.take (es.length * 2) = es.flatMap heCells) (hv : NewH w vb x) :
    Calls Tryz.prog 86 #[.slice (some ⟨g, 0, none⟩) es.length cap, .int .i64 i, .slice (some ⟨vb, 0, none⟩) 1 1] w fun e w' => ∃ (G : Nat) (arr : Array Value), e = .returned (.slice (some ⟨w.heap.size, 0, none⟩) (es.length + 1) G) ∧ es.length + 1 ≤ G ∧ G ≤ maxLen ∧ w'.heap[w.heap.size]? = some (.cells arr 78 (0, 0)) ∧ arr.size = G * 2 ∧ arr.toList.take ((es.length + 1) * 2) = (es.take i ++ x :: es.drop i).flatMap heCells ∧ Below w.heap.size w w' := by
  obtain ⟨n, hn⟩ : ∃ n, n = es.length := ⟨_, rfl⟩
  rw [← hn] at hi hcap hcap2 htk hsm ⊢
  have HN : Hid (n = es.length) := hn
  clear hn
  have hgl : g < w.heap.size := (Array.getElem?_eq_some_iff.1 hg).1
  have hvl : vb < w.heap.size := (Array.getElem?_eq_some_iff.1 hv).1
  obtain ⟨i4, hi4, hh4⟩ := Option.map_eq_some_iff.1 Tryz.infoH
  simp only [Prod.mk.injEq] at hh4
  obtain ⟨hy0, hy1, hy2⟩ := hh4
  have hElen : (es.flatMap heCells).length = n * 2 := by rw [he_len, ← HN.out]
  have hold : (Builtin.firstCells i4.size i (.slice (some ⟨g, 0, none⟩) i cap)).run Tryz.prog w.drew = .ok ((es.flatMap heCells).take (i * 2)).toArray w.drew := by
    rw [hy1]
    refine run_firstCells_some w.drew 2 i ⟨g, 0, none⟩ i cap _ (by rw [List.length_take, hElen]; omega) (fun j v hj => ?_)
    rw [WideShapes.add_plain, Nat.zero_add]
    rw [List.getElem?_take] at hj
    split at hj
    · rw [← htk, List.getElem?_take] at hj
      split at hj
      · simp only [World.cell?, World.drew, hg]
        simpa using hj
      · cases hj
    · cases hj
  have hkk : (n : Int) + 1 - (i : Int) = ((n + 1 - i : Nat) : Int) := by omega
  have hik : i + (n + 1 - i) = n + 1 := by omega
  obtain ⟨G, hG⟩ : ∃ G, G = grownCap w (n + 1) cap 78 := ⟨_, rfl⟩
  have hGn : n + 1 ≤ G := by rw [hG]; exact grownCap_ge w _ _ _
  have hG63 : G ≤ maxLen := by
    rw [hG]
    exact grownCap_le_maxLen w (n + 1) cap 78 (by unfold maxLen; omega)
  obtain ⟨ROW, hROW⟩ : ∃ ROW : Array Value, ROW = ((es.flatMap heCells).take (i * 2)).toArray ++ Builtin.zeroCells (Value.agg #[.int .i64 0, .slice none 0 0]).cells (n + 1 - i) ++ Builtin.zeroCells (Value.agg #[.int .i64 0, .slice none 0 0]).cells (G - (n + 1)) := ⟨_, rfl⟩
  have hrz : ∀ ty, (Builtin.append_ #[50, 3] ty #[.slice (some ⟨g, 0, none⟩) i cap, .int .i64 ((n : Int) + 1 - (i : Int))]).run Tryz.prog w = .ok (.slice (some ⟨w.heap.size, 0, none⟩) (n + 1) G) (w.drew.alloc (.cells ROW 78)) := fun ty => by
    have h := Lib.run_append_grow_zeros (P := Tryz.prog) w 50 3 ty 78 i4 _ .i64 .i64 Tryz.underlying50 Tryz.underlying3 hi4 hy0 (some ⟨g, 0, none⟩) i cap _ hold (n + 1 - i) (by omega) (by omega) (by omega) (by omega) (by rw [hy2]; omega) (by rw [hy2, hik]; exact growslice_fits (by omega) (by omega))
    rw [hik, ← hG, ← hROW] at h
    rw [hkk]
    exact h
  have hzl : ∀ k, (Builtin.zeroCells (Value.agg #[.int .i64 0, .slice none 0 0]).cells k).size = k * 2 := fun k => by
    simp [Builtin.zeroCells, Value.cells]
  have hRs : ROW.toList.length = G * 2 := by
    rw [Array.length_toList, hROW, Array.size_append, Array.size_append, hzl, hzl, List.size_toArray, List.length_take, hElen]
    omega
  have hRt : ROW.toList.take (i * 2) = (es.flatMap heCells).take (i * 2) := by
    rw [hROW, Array.toList_append, Array.toList_append, List.append_assoc]
    exact List.take_left' (by rw [List.length_take, hElen]; omega)
  obtain ⟨A, hA1, hA2, hA3⟩ := grow_list ROW.toList (es.flatMap heCells) (heCells x) (i * 2) (n * 2) 2 (by omega) (by omega) hRt rfl
  obtain ⟨B, hB⟩ : ∃ B : Array Value, B = (A.take (i * 2 + 2) ++ (es.flatMap heCells).drop (i * 2) ++ A.drop (i * 2 + 2 + (n * 2 - i * 2))).toArray := ⟨_, rfl⟩
  have hEl : ((es.flatMap heCells).drop (i * 2)).length = (n - i) * 2 := by
    rw [List.length_drop, hElen]
    omega
  have hcpA : ∀ (W : World), W.heap[w.heap.size]? = some (.cells ROW 78 (0, 0)) → W.heap[vb]? = w.heap[vb]? → ∀ ty dc, (Builtin.copy_ #[50, 50] ty #[.slice (some ⟨w.heap.size, i * 2, none⟩) (n + 1 - i) dc, .slice (some ⟨vb, 0, none⟩) 1 1]).run Tryz.prog W = .ok (goInt (1 : Nat)) (W.setRow w.heap.size A.toArray) := fun W hW1 hW2 ty dc => by
    rw [run_copy_H W ty w.heap.size (i * 2) (n + 1 - i) dc ⟨vb, 0, none⟩ 1 1 1 ROW (heCells x) (by simp only [Nat.min_def]; split <;> omega) rfl hW1 (fun j v hj => by
      rw [WideShapes.add_plain, Nat.zero_add]
      rw [hv] at hW2
      simp only [World.cell?, hW2]
      simpa using hj) (by show i * 2 + 2 ≤ ROW.size; rw [← Array.length_toList, hRs]; omega) (fun v hv => he_one [x] v (by simpa using hv)), hA1]
    rfl
  have hcpB : ∀ (W : World), W.heap[w.heap.size]? = some (.cells A.toArray 78 (0, 0)) → W.heap[g]? = w.heap[g]? → ∀ ty dc sc, (Builtin.copy_ #[50, 50] ty #[.slice (some ⟨w.heap.size, (i + 1) * 2, none⟩) (n + 1 - (i + 1)) dc, .slice (some ⟨g, i * 2, none⟩) (n - i) sc]).run Tryz.prog W = .ok (goInt (n - i : Nat)) (W.setRow w.heap.size B) := fun W hW1 hW2 ty dc sc => by
    rw [run_copy_H W ty w.heap.size ((i + 1) * 2) (n + 1 - (i + 1)) dc ⟨g, i * 2, none⟩ (n - i) sc (n - i) A.toArray ((es.flatMap heCells).drop (i * 2)) (by simp only [Nat.min_def]; split <;> omega) hEl hW1 (fun j v hj => by
      rw [WideShapes.add_plain]
      rw [← htk, List.getElem?_drop, List.getElem?_take] at hj
      split at hj
      · rw [hg] at hW2
        simp only [World.cell?, hW2]
        simpa using hj
      · cases hj) (by rw [hEl, List.size_toArray, hA2, hRs]; omega) (fun v hv => he_one es v (List.mem_of_mem_drop hv)), hEl, hB, show (i + 1) * 2 = i * 2 + 2 by omega, show (n - i) * 2 = n * 2 - i * 2 by omega]
  have HB1 : Hid (B.size = G * 2) := by
    show B.size = G * 2
    rw [hB, List.size_toArray, hA3]
    simp only [List.length_append, List.length_take, List.length_drop, hElen, hRs]
    show min (i * 2) (n * 2) + (2 + (n * 2 - i * 2)) + (G * 2 - (n * 2 + 2)) = G * 2
    omega
  have HB2 : Hid (B.toList.take ((n + 1) * 2) = (es.take i ++ x :: es.drop i).flatMap heCells) := by
    show B.toList.take ((n + 1) * 2) = _
    rw [hB]
    show (A.take (i * 2 + 2) ++ (es.flatMap heCells).drop (i * 2) ++ A.drop (i * 2 + 2 + (n * 2 - i * 2))).take ((n + 1) * 2) = _
    rw [hA3, List.flatMap_append, List.flatMap_cons, ← flat_take heCells 2 es i (fun _ _ => rfl) (by rw [← HN.out]; omega), ← flat_drop heCells 2 es i (fun _ _ => rfl) (by rw [← HN.out]; omega)]
    exact List.take_left' (by
      simp only [List.length_append, List.length_take, List.length_drop, hElen]
      show min (i * 2) (n * 2) + (2 + (n * 2 - i * 2)) = (n + 1) * 2
      omega)
  have h0 : (w.drew.alloc (.cells ROW 78)).heap[w.heap.size]? = some (.cells ROW 78 (0, 0)) := heap_alloc_new w.drew _
  have h0v : (w.drew.alloc (.cells ROW 78)).heap[vb]? = w.heap[vb]? := Deep.blk_alloc_lt w.drew _ _ hvl
  have h0g : (w.drew.alloc (.cells ROW 78)).heap[g]? = w.heap[g]? := Deep.blk_alloc_lt w.drew _ _ hgl
  have hcA := hcpA (w.drew.alloc (.cells ROW 78)) h0 h0v
  have h1 : ((w.drew.alloc (.cells ROW 78)).setRow w.heap.size A.toArray).heap[w.heap.size]? = some (.cells A.toArray 78 (0, 0)) := setRow_heap _ _ ROW _ 78 _ h0
  have h1g : ((w.drew.alloc (.cells ROW 78)).setRow w.heap.size A.toArray).heap[g]? = w.heap[g]? := by
    rw [setRow_other _ _ _ _ (by omega)]
    exact h0g
  have hcB := hcpB ((w.drew.alloc (.cells ROW 78)).setRow w.heap.size A.toArray).drew h1 h1g
  have h2 : (((w.drew.alloc (.cells ROW 78)).setRow w.heap.size A.toArray).drew.setRow w.heap.size B).heap[w.heap.size]? = some (.cells B 78 (0, 0)) := setRow_heap _ _ A.toArray _ 78 _ h1
  have hbl : Below w.heap.size w (((w.drew.alloc (.cells ROW 78)).setRow w.heap.size A.toArray).drew.setRow w.heap.size B) := by
    have b0 : Below w.heap.size w w.drew := ⟨rfl, rfl, rfl, Nat.le_refl _, fun _ _ => rfl⟩
    have b1 := b0.alloc (Nat.le_refl _) (.cells ROW 78)
    have b2 := below_setRow b1 (Nat.le_refl _) A.toArray
    exact below_setRow (w := ((w.drew.alloc (.cells ROW 78)).setRow w.heap.size A.toArray).drew) ⟨b2.os, b2.tape, b2.output, b2.size, b2.block⟩ (Nat.le_refl _) B
  generalize hW1 : w.drew.alloc (.cells ROW 78) = W1 at hrz hcA hcB h2 hbl
  generalize hW2 : W1.setRow w.heap.size A.toArray = W2 at hcA hcB h2 hbl
  have HF : Hid (Below w.heap.size w (W2.drew.setRow w.heap.size B) ∧ (W2.drew.setRow w.heap.size B).heap[w.heap.size]? = some (.cells B 78 (0, 0))) := ⟨hbl, h2⟩
  clear hW1 hW2 hbl h2 h1 h1g h0 h0v h0g hcpA hcpB hB hA1 hA2 hA3 hRt hRs hzl hROW hold hEl htk hg hv hi4 hy0 hy1 hy2 hkk hik hG hElen
  have hz2 : ¬ ((i : Int) = (n : Int)) := by omega
  have hz3 : (cap : Int) < (n : Int) + 1 := by omega
  have hw1 : IntKind.i64.wrap ((i : Int) + 1) = (i : Int) + 1 := by rw [IntKind.wrap_i64]; omega
  have hin : i ≤ n := by omega
  have hb1 : (0 : Int) ≤ (i : Int) + 1 := by omega
  have htn : ((i : Int) + 1).toNat = i + 1 := by omega
  have hb3 : (i : Int) ≤ (n : Int) := by omega
  have hGi : ¬ (G = i) := by omega
  have hGim : ¬ (G = i + 1) := by omega
  have hci : ¬ (cap = i) := by omega
  have hG63' : G ≤ 9223372036854775807 := by unfold maxLen at hG63; omega
  have mixed : Tryz.prog.follows Departure.mixedOrders = true := by kernel_rfl
  go_enter Tryz.func86, Tryz.ntmps86
  go_wp2_with (first
    | (at_builtin; refine Lib.wpList_append_run _ rfl _ _ _ _ rfl _ _ rfl rfl _ _ (hrz _) ?_)
    | (at_builtin; refine wpList_copy_runI _ rfl _ _ 50 50 rfl _ _ rfl rfl (hcA _ _) ?_))
  go_region_law_o (go_loud (refine step_copy_runI rfl _ _ 50 50 rfl (.slice (some ⟨w.heap.size, (i + 1) * 2, none⟩) (n + 1 - (i + 1)) (G - (i + 1))) (.slice (some ⟨g, i * 2, none⟩) (n - i) (cap - i)) (by simp [Act.eval, Act.put]) (by simp [Act.eval, Act.put]) (hcB 3 (G - (i + 1)) (cap - i)) ?_))
  go_wp2_with fail
  go_ret
  exact ⟨G, B, rfl, hGn, hG63, HF.out.2, HB1.out, HB2.out, HF.out.1⟩


set_option maxHeartbeats 1000000 in
set_option maxRecDepth 100000 in
theorem insH_end (B vb : Nat) (v : Value) (es : List HeC) (x : HeC) (w : World) (h : w.ownsRow B 78 2 v es.length (es.flatMap heCells)) (hB : B ≤ w.heap.size) (hn : es.length ≤ 100000) (hv : NewH w vb x) :
    Calls Tryz.prog 86 #[v, .int .i64 es.length, .slice (some ⟨vb, 0, none⟩) 1 1] w fun e w' => InsHO e w w' B v (es ++ [x]) := by
  obtain ⟨i4, hi4, hh4⟩ := Option.map_eq_some_iff.1 Tryz.infoH
  simp only [Prod.mk.injEq] at hh4
  obtain ⟨hy0, hy1, hy2⟩ := hh4
  obtain ⟨v', w', hrun, ho, hg, _, hat⟩ := run_append_own_at (P := Tryz.prog) w B 50 50 78 i4 _ 2 32 Tryz.underlying50 hi4 hy0 hy1 hy2 rfl (by decide) v es.length _ h ⟨vb, 0, none⟩ 1 1 (heCells x) rfl (fun j u hj => by
    rw [WideShapes.add_plain, Nat.zero_add]
    simp only [World.cell?, hv]
    simpa using hj) (fun u hu => he_one [x] u (by simpa using hu)) (by unfold maxLen; omega) (by omega) hB
  have HR : Hid (InsHO (.returned v') w w' B v (es ++ [x])) := by
    refine ⟨v', rfl, ?_, off_of_grown hg, ?_⟩
    · rw [List.length_append, List.flatMap_append, List.length_singleton, List.flatMap_cons, List.flatMap_nil, List.append_nil]
      exact ho
    · rcases hat with q | q
      · exact Or.inl q
      · refine Or.inr fun g hg => ?_
        rw [q] at hg
        cases hg
        exact Nat.le_refl _
  clear ho hg hat
  rcases h.2 with ⟨rfl, h0⟩ | ⟨g, cap, cur, rfl, _, _, hc, hm, _⟩
  · rw [h0]
    clear h hv
    go_enter Tryz.func86, Tryz.ntmps86
    go_wp2_with (at_builtin; refine Lib.wpList_append_run _ rfl _ _ _ _ rfl _ _ rfl rfl _ _ hrun ?_)
    go_ret
    exact HR.out
  · clear h hv
    unfold maxLen at hm
    by_cases hcn : cap = es.length
    · subst hcn
      go_enter Tryz.func86, Tryz.ntmps86
      go_wp2_with (at_builtin; refine Lib.wpList_append_run _ rfl _ _ _ _ rfl _ _ rfl rfl _ _ hrun ?_)
      go_ret
      exact HR.out
    · go_enter Tryz.func86, Tryz.ntmps86
      go_wp2_with (at_builtin; refine Lib.wpList_append_run _ rfl _ _ _ _ rfl _ _ rfl rfl _ _ hrun ?_)
      go_ret
      exact HR.out

theorem insH_any (B i vb : Nat) (v : Value) (es : List HeC) (x : HeC) (w : World) (h : w.ownsRow B 78 2 v es.length (es.flatMap heCells)) (hB : B ≤ w.heap.size) (hi : i ≤ es.length) (hn : es.length ≤ 100000) (hv : NewH w vb x) (hne : v.ownBlock ≠ some vb) :
    Calls Tryz.prog 86 #[v, .int .i64 i, .slice (some ⟨vb, 0, none⟩) 1 1] w fun e w' => InsHO e w w' B v (es.take i ++ x :: es.drop i) := by
  have hlen : (es.take i ++ x :: es.drop i).length = es.length + 1 := by
    simp
    omega
  by_cases he : i = es.length
  · subst he
    have H := insH_end B vb v es x w h hB hn hv
    rw [List.take_length, List.drop_length]
    exact H
  · rcases h.2 with ⟨_, h0⟩ | ⟨g, cap, cur, rfl, hBg, hg, hc, hm, hcs, htk⟩
    · omega
    · by_cases hroom : es.length + 1 ≤ cap
      · refine (insH_shift g cap i vb cur es x w (by omega) hroom (by unfold maxLen at hm; exact hm) hcs hg htk hv (fun e => hne (by rw [e]; rfl))).mono ?_
        rintro e w' ⟨rfl, arr, rfl, ha1, ha2⟩
        have hg1 : (w.drew.setRow g arr).heap[g]? = some (.cells arr 78 (0, 0)) := setRow_heap w.drew g cur _ 78 _ hg
        refine ⟨_, rfl, ?_, ?_, Or.inl rfl⟩
        · rw [hlen]
          exact ⟨by rw [he_len, hlen], Or.inr ⟨g, cap, arr, rfl, hBg, hg1, hroom, hm, ha1, ha2⟩⟩
        · exact off_setRow w g arr
      · refine (insH_grow g cap i vb cur es x w (by omega) hc (by omega) hn hg htk hv).mono ?_
        rintro e w' ⟨G, arr, rfl, hG1, hG2, hg1, ha1, ha2, hbl⟩
        refine ⟨_, rfl, ?_, Off.of_below hbl, Or.inr fun x hx => ?_⟩
        · rw [hlen]
          exact ⟨by rw [he_len, hlen], Or.inr ⟨w.heap.size, G, arr, rfl, hB, hg1, hG1, hG2, ha1, ha2⟩⟩
        · cases hx
          exact Nat.le_refl _

end Go.Proofs.YtldjieplbeflfaaGreat

namespace Go.Proofs.YtldjieplbeflfaaGreat
open Go.RowKit

theorem flat_set {α β : Type} (f : α → List β) (m : Nat) : ∀ (l : List α) (i t : Nat) (a a' : α) (u : β), (∀ a, a ∈ l → (f a).length = m) → t < m → l[i]? = some a → f a' = (f a).set t u → (l.flatMap f).set (i * m + t) u = (l.set i a').flatMap f
  | [], i, t, a, a', u, _, _, h, _ => by cases h
  | x :: l, 0, t, a, a', u, hm, ht, h, hf => by
    cases h
    rw [List.flatMap_cons, List.set_cons_zero, List.flatMap_cons, Nat.zero_mul, Nat.zero_add, List.set_append_left _ _ (by rw [hm x List.mem_cons_self]; exact ht), hf]
  | x :: l, i + 1, t, a, a', u, hm, ht, h, hf => by
    have hx := hm x List.mem_cons_self
    rw [List.flatMap_cons, List.set_cons_succ, List.flatMap_cons, List.set_append_right _ _ (by rw [hx, Nat.succ_mul]; omega), hx, show (i + 1) * m + t - m = i * m + t by rw [Nat.succ_mul]; omega, flat_set f m l i t a a' u (fun a ha => hm a (List.mem_cons_of_mem _ ha)) ht (by simpa using h) hf]
/-- A cell of one account is another one. -/
theorem ABuf.store {w : World} {B g n cap : Nat} {es : List AcC} (h : ABuf w B (.slice (some ⟨g, 0, none⟩) n cap) es) (hn : n = es.length) {i : Nat} {q : AcC} (hi : es[i]? = some q) (t : Nat) (ht : t < 4) (u : Value) (q' : AcC) (hq : acCells q' = (acCells q).set t u) (hs : q'.1.size ≤ 9223372036854775807) :
    ABuf (w.setCell ⟨g, i * 4 + t, none⟩ u) B (.slice (some ⟨g, 0, none⟩) n cap) (es.set i q') ∧ Below B w (w.setCell ⟨g, i * 4 + t, none⟩ u) := by
  subst hn
  have hB := (h.1.lt g rfl).1
  obtain ⟨h1, _⟩ := h.1.stored (i * 4 + t) u
  refine ⟨⟨?_, fun e he => ?_⟩, (Below.refl B w).setCell hB u⟩
  · rw [List.length_set, ← flat_set acCells 4 es i t q q' u (fun _ _ => rfl) ht hi hq]
    exact h1
  · rcases List.mem_or_eq_of_mem_set he with k | rfl
    · exact h.2 e k
    · exact hs
theorem ABuf.at {w : World} {B g n cap : Nat} {es : List AcC} (h : ABuf w B (.slice (some ⟨g, 0, none⟩) n cap) es) {i : Nat} {q : AcC} (hi : es[i]? = some q) :
    w.cell? ⟨g, i * 4, none⟩ = some (.string q.1) ∧ w.cell? ⟨g, i * 4 + 1, none⟩ = some (.int .i64 q.2.1) ∧ w.cell? ⟨g, i * 4 + 2, none⟩ = some (.int .i64 q.2.2.1) ∧ w.cell? ⟨g, i * 4 + 3, none⟩ = some (.bool q.2.2.2) ∧ ∀ j, w.frozen? ⟨g, j, none⟩ = false := by
  have hc : ∀ j u, (es.flatMap acCells)[j]? = some u → w.cell? ⟨g, j, none⟩ = some u := fun j u hj => by
    have := h.1.cells (g := g) rfl j u hj
    rw [WideShapes.add_plain, Nat.zero_add] at this
    exact this
  have hf := fun t ht => flat_get acCells 4 es (fun _ _ => rfl) i t ht q hi
  exact ⟨hc _ _ (hf 0 (by decide)), hc _ _ (hf 1 (by decide)), hc _ _ (hf 2 (by decide)), hc _ _ (hf 3 (by decide)), owns_frozen h.1 rfl⟩

/-- The account that e makes of another one, with its cells. -/
def chgC (q : AcC) (k m : Int) : AcC := (q.1, if k = 2 then q.2.1 + m else if k = 3 then q.2.1 - m else q.2.1, q.2.2.1 + 1, if k = 1 then true else if k = 4 then false else q.2.2.2)
theorem chgC_of (q : AcC) (n : List Nat) (k m : Int) : acOf (chgC q k m) = Vw.chg (acOf q) ⟨n, k, m⟩ := rfl

/-- What the change leaves. -/
def ChgO (e : Ending) (w w' : World) (B : Nat) (v : Value) (es : List AcC) : Prop := e = .returned (.tuple #[]) ∧ ABuf w' B v es ∧ Below B w w'

theorem Tryz.enters_chg : ∀ args w, (callFunc 69 args).run Tryz.prog w = .ok (.enter 69 args) w := enters_of Tryz.func69 (by kernel_rfl) rfl
set_option maxHeartbeats 1000000 in
set_option maxRecDepth 100000 in
theorem chg_any (B g n cap i p : Nat) (es : List AcC) (q : AcC) (k m : Int) (w : World) (h : ABuf w B (.slice (some ⟨g, 0, none⟩) n cap) es) (hn : n = es.length) (hi : es[i]? = some q) (hpB : p < B)
    (e1 : w.cell? ⟨p, 1, none⟩ = some (.int .i64 k)) (e2 : w.cell? ⟨p, 2, none⟩ = some (.int .i64 m)) (hk1 : 1 ≤ k) (hk4 : k ≤ 4) (hm0 : 0 ≤ m) (hm1 : m ≤ 1000000)
    (hc0 : 0 ≤ q.2.2.1) (hc1 : q.2.2.1 ≤ 150) (hs0 : -150000000 ≤ q.2.1) (hs1 : q.2.1 ≤ 150000000) :
    Calls Tryz.prog 69 #[.pointer (some ⟨g, i * 4, none⟩), .pointer (some ⟨p, 0, none⟩)] w fun e w' => ChgO e w w' B (.slice (some ⟨g, 0, none⟩) n cap) (es.set i (chgC q k m)) := by
  obtain ⟨s0, S, c, b⟩ := q
  have hsz : s0.size ≤ 9223372036854775807 := h.2 _ (List.mem_of_getElem? hi)
  have hB := (h.1.lt g rfl).1
  have hpg : p ≠ g := by omega
  obtain ⟨d0, d1, d2, d3, fr⟩ := h.at hi
  have f1 := fr (i * 4 + 1)
  have f2 := fr (i * 4 + 2)
  have f3 := fr (i * 4 + 3)
  obtain ⟨A1, b1⟩ := h.store hn hi 2 (by decide) (.int .i64 (c + 1)) (s0, S, c + 1, b) rfl hsz
  have hil : i < es.length := (List.getElem?_eq_some_iff.1 hi).1
  have hi1 : (es.set i (s0, S, c + 1, b))[i]? = some (s0, S, c + 1, b) := by simp [hil]
  have hc0 : 0 ≤ c := hc0
  have hc1 : c ≤ 150 := hc1
  have hs0 : -150000000 ≤ S := hs0
  have hs1 : S ≤ 150000000 := hs1
  have hw : wrap64 (c + 1) = c + 1 := by
    unfold wrap64
    omega
  have hwa : wrap64 (S + m) = S + m := by
    unfold wrap64
    omega
  have hwb : wrap64 (S - m) = S - m := by
    unfold wrap64
    omega
  rcases (show k = 1 ∨ k = 2 ∨ k = 3 ∨ k = 4 by omega) with rfl | rfl | rfl | rfl
  · obtain ⟨A2, b2⟩ := ABuf.store A1 (by rw [List.length_set]; exact hn) hi1 3 (by decide) (.bool true) (s0, S, c + 1, true) rfl hsz
    rw [List.set_set] at A2
    have HA : Hid (ABuf ((w.setCell ⟨g, i * 4 + 2, none⟩ (.int .i64 (c + 1))).setCell ⟨g, i * 4 + 3, none⟩ (.bool true)) B (.slice (some ⟨g, 0, none⟩) n cap) (es.set i (chgC (s0, S, c, b) 1 m)) ∧ Below B w ((w.setCell ⟨g, i * 4 + 2, none⟩ (.int .i64 (c + 1))).setCell ⟨g, i * 4 + 3, none⟩ (.bool true))) := ⟨A2, b1.trans b2⟩
    clear h hi A1 A2 b1 b2 hi1 hn fr
    go_enter Tryz.func69, Tryz.ntmps69
    go_wp2_with fail
    go_end0
    exact ⟨rfl, HA.out.1, HA.out.2⟩
  · obtain ⟨A2, b2⟩ := ABuf.store (show ABuf (w.setCell ⟨g, i * 4 + 2, none⟩ (.int .i64 (c + 1))).drew B (.slice (some ⟨g, 0, none⟩) n cap) _ from A1) (by rw [List.length_set]; exact hn) hi1 1 (by decide) (.int .i64 (S + m)) (s0, S + m, c + 1, b) rfl hsz
    rw [List.set_set] at A2
    have HA : Hid (ABuf ((w.setCell ⟨g, i * 4 + 2, none⟩ (.int .i64 (c + 1))).drew.setCell ⟨g, i * 4 + 1, none⟩ (.int .i64 (S + m))) B (.slice (some ⟨g, 0, none⟩) n cap) (es.set i (chgC (s0, S, c, b) 2 m)) ∧ Below B w ((w.setCell ⟨g, i * 4 + 2, none⟩ (.int .i64 (c + 1))).drew.setCell ⟨g, i * 4 + 1, none⟩ (.int .i64 (S + m)))) := ⟨A2, (show Below B w (w.setCell ⟨g, i * 4 + 2, none⟩ (.int .i64 (c + 1))).drew from ⟨b1.os, b1.tape, b1.output, b1.size, b1.block⟩).trans b2⟩
    clear h hi A1 A2 b1 b2 hi1 hn fr
    go_enter Tryz.func69, Tryz.ntmps69
    go_wp2_with fail
    go_region
    go_wp2_with fail
    go_end0
    exact ⟨rfl, HA.out.1, HA.out.2⟩
  · obtain ⟨A2, b2⟩ := ABuf.store (show ABuf (w.setCell ⟨g, i * 4 + 2, none⟩ (.int .i64 (c + 1))).drew B (.slice (some ⟨g, 0, none⟩) n cap) _ from A1) (by rw [List.length_set]; exact hn) hi1 1 (by decide) (.int .i64 (S - m)) (s0, S - m, c + 1, b) rfl hsz
    rw [List.set_set] at A2
    have HA : Hid (ABuf ((w.setCell ⟨g, i * 4 + 2, none⟩ (.int .i64 (c + 1))).drew.setCell ⟨g, i * 4 + 1, none⟩ (.int .i64 (S - m))) B (.slice (some ⟨g, 0, none⟩) n cap) (es.set i (chgC (s0, S, c, b) 3 m)) ∧ Below B w ((w.setCell ⟨g, i * 4 + 2, none⟩ (.int .i64 (c + 1))).drew.setCell ⟨g, i * 4 + 1, none⟩ (.int .i64 (S - m)))) := ⟨A2, (show Below B w (w.setCell ⟨g, i * 4 + 2, none⟩ (.int .i64 (c + 1))).drew from ⟨b1.os, b1.tape, b1.output, b1.size, b1.block⟩).trans b2⟩
    clear h hi A1 A2 b1 b2 hi1 hn fr
    go_enter Tryz.func69, Tryz.ntmps69
    go_wp2_with fail
    go_region
    go_wp2_with fail
    go_end0
    exact ⟨rfl, HA.out.1, HA.out.2⟩
  · obtain ⟨A2, b2⟩ := ABuf.store A1 (by rw [List.length_set]; exact hn) hi1 3 (by decide) (.bool false) (s0, S, c + 1, false) rfl hsz
    rw [List.set_set] at A2
    have HA : Hid (ABuf ((w.setCell ⟨g, i * 4 + 2, none⟩ (.int .i64 (c + 1))).setCell ⟨g, i * 4 + 3, none⟩ (.bool false)) B (.slice (some ⟨g, 0, none⟩) n cap) (es.set i (chgC (s0, S, c, b) 4 m)) ∧ Below B w ((w.setCell ⟨g, i * 4 + 2, none⟩ (.int .i64 (c + 1))).setCell ⟨g, i * 4 + 3, none⟩ (.bool false))) := ⟨A2, b1.trans b2⟩
    clear h hi A1 A2 b1 b2 hi1 hn fr
    go_enter Tryz.func69, Tryz.ntmps69
    go_wp2_with fail
    go_end0
    exact ⟨rfl, HA.out.1, HA.out.2⟩

/-- What is told of changed accounts. -/
def PutO (e : Ending) (w' : World) (N : Nat) (l : List Vw.Acc) : Prop := ∃ v es, e = .returned v ∧ es.map acOf = l ∧ ABuf w' N v es

set_option maxHeartbeats 1000000 in
set_option maxRecDepth 100000 in
theorem changed_any (u : Int) (t s : ByteArray) (k m : Int) (p : Nat) (vs : Value) (l : List Vw.Acc) (w : World) (h : Accs w vs l) (hr : Vw.Right u l) (ht : t.size ≤ 9223372036854775807)
    (e0 : w.cell? ⟨p, 0, none⟩ = some (.string s)) (e1 : w.cell? ⟨p, 1, none⟩ = some (.int .i64 k)) (e2 : w.cell? ⟨p, 2, none⟩ = some (.int .i64 m)) (hk1 : 1 ≤ k) (hk4 : k ≤ 4) (hm0 : 0 ≤ m) (hm1 : m ≤ 1000000) :
    Calls Tryz.prog 47 #[vs, .string t, .func (.func 69) #[] #[.pointer (some ⟨p, 0, none⟩)]] w fun e w' => PutO e w' w.heap.size (Vw.put l ⟨nb t, k, m⟩) ∧ Below w.heap.size w w' := by
  have eg := Tryz.enters_chg
  have hln := hr.len
  have hpl : p < w.heap.size := World.block_lt_of_cell? _ _ e0
  have H1 := search_any t vs l w h hr.srt hr.len
  have HR : Hid (Vw.Right u l) := hr
  clear hr
  go_enter Tryz.func47, Tryz.ntmps47
  go_wp2_with fail
  refine H1.mono ?_
  rintro e w1 ⟨⟨i, y, rfl, HC0, HY0⟩, b1⟩
  have hil : i ≤ l.length := HC0.1
  have HC : Hid (Vw.Cut l (nb t) i) := HC0
  have HY : Hid (y = true ↔ ∃ a, l[i]? = some a ∧ a.name = nb t) := HY0
  clear HC0 HY0
  have H2 := cloneA_any vs l w1 (h.below b1) (by omega)
  clear H1
  go_wp2_with fail
  refine H2.mono ?_
  rintro e w2 ⟨⟨v2, es, rfl, hes, hB0⟩, b2⟩
  have b12 := bt b1 b2
  have hB2 : ABuf w2 w.heap.size v2 es := ⟨⟨hB0.1.1, hB0.1.2.imp id (fun ⟨g, cap, cur, q1, q2, q3⟩ => ⟨g, cap, cur, q1, Nat.le_trans b1.size q2, q3⟩)⟩, hB0.2⟩
  have hel : es.length = l.length := by rw [← hes, List.length_map]
  have HE : Hid (es.map acOf = l) := hes
  have HEL : Hid (es.length = l.length) := hel
  clear H2 hes hel hB0
  cases y with
  | true =>
    have hel := HEL.out
    obtain ⟨a, ha1, ha2⟩ := HY.out.1 rfl
    have hil2 : i < es.length := by
      rw [hel]
      exact (List.getElem?_eq_some_iff.1 ha1).1
    obtain ⟨q, hq⟩ : ∃ q, es[i]? = some q := ⟨es[i], List.getElem?_eq_getElem hil2⟩
    have hqa : acOf q = a := by
      have := HE.out
      rw [← this, List.getElem?_map, hq] at ha1
      exact Option.some.inj ha1
    obtain ⟨r1, r2, r3, r4⟩ : 0 ≤ q.2.2.1 ∧ q.2.2.1 ≤ 150 ∧ -150000000 ≤ q.2.1 ∧ q.2.1 ≤ 150000000 := by
      obtain ⟨_, r1, r2, r3, r4⟩ := Vw.wrongA_inv (HR.out.acc a (List.mem_of_getElem? ha1))
      have ru := HR.out.hi
      rw [← hqa] at r1 r2 r3 r4
      have r1 : 1 ≤ q.2.2.1 := r1
      have r2 : q.2.2.1 ≤ u := r2
      have r3 : q.2.1 ≤ 1000000 * q.2.2.1 := r3
      have r4 : -(1000000 * q.2.2.1) ≤ q.2.1 := r4
      omega
    have HP : Hid ((es.set i (chgC q k m)).map acOf = Vw.put l ⟨nb t, k, m⟩) := by
      show _ = _
      rw [Vw.put_there (e := ⟨nb t, k, m⟩) HC.out ha1 ha2, List.map_set, HE.out, chgC_of q (nb t) k m, hqa]
    obtain ⟨g, cap, hve, hBg, hc1, hc2, hgl, hdr⟩ := owns_cells hB2.1 (by omega)
    subst hve
    unfold maxLen at hc2
    clear hdr
    have H3 := chg_any w.heap.size g es.length cap i p es q k m w2 hB2 rfl hq hpl ((b12.cell (p := ⟨p, 1, none⟩) hpl).trans e1) ((b12.cell (p := ⟨p, 2, none⟩) hpl).trans e2) hk1 hk4 hm0 hm1 r1 r2 r3 r4
    have hil3 : (i : Int) < (es.length : Int) := by omega
    clear hel hil2 hB2 hq hqa ha1 ha2 r1 r2 r3 r4
    go_wp2_with fail
    refine H3.mono ?_
    rintro e w3 ⟨rfl, hB3, b3⟩
    clear H3
    go_wp2_with fail
    go_ret
    exact ⟨⟨_, _, rfl, HP.out, hB3⟩, b12.trans b3⟩
  | false =>
    have HN : Hid (∀ a, l[i]? = some a → a.name ≠ nb t) := fun a ha e => absurd (HY.out.2 ⟨a, ha, e⟩) (by decide)
    have hNA : NewA (w2.alloc (.cells #[.string t, .int .i64 0, .int .i64 0, .bool false] 56)) w2.heap.size (t, 0, 0, false) := heap_alloc_new w2 _
    have b23 : Below w2.heap.size w2 (w2.alloc (.cells #[.string t, .int .i64 0, .int .i64 0, .bool false] 56)) := (Below.refl _ _).alloc (Nat.le_refl _) _
    have hel := HEL.out
    have H3 := insert_any w.heap.size i w2.heap.size v2 es (t, 0, 0, false) _ (hB2.below b23) (Nat.le_trans b12.size b23.size) (by omega) (by omega) hNA (fun e => by
      have := (hB2.1.lt _ e).2
      omega) ht
    have b13 := bt b12 b23
    obtain ⟨es3, hes3⟩ : ∃ es3, es3 = es.take i ++ ((t, 0, 0, false) : AcC) :: es.drop i := ⟨_, rfl⟩
    rw [← hes3] at H3
    have hil3 : i < es3.length := by
      rw [hes3]
      simp
      omega
    have hq : es3[i]? = some (t, 0, 0, false) := by
      rw [hes3, List.getElem?_append_right (by rw [List.length_take]; omega), List.length_take, show i - min i es.length = 0 by omega]
      rfl
    have HP : Hid ((es3.set i (chgC (t, 0, 0, false) k m)).map acOf = Vw.put l ⟨nb t, k, m⟩) := by
      show _ = _
      rw [Vw.put_new (e := ⟨nb t, k, m⟩) HC.out HN.out, hes3, List.set_append_right _ _ (by rw [List.length_take]; omega), List.length_take, show i - min i es.length = 0 by omega, List.set_cons_zero, List.map_append, List.map_cons, List.map_take, List.map_drop, HE.out, chgC_of _ (nb t) k m]
      rfl
    clear hNA hB2 hel hes3
    go_wp2_with fail
    refine H3.mono ?_
    rintro e w3 ⟨⟨v3, rfl, hB3⟩, b3⟩
    have b3 := b13.trans b3
    obtain ⟨g, cap, rfl, hBg, hc1, hc2, hgl, _⟩ := owns_cells hB3.1 (by omega)
    unfold maxLen at hc2
    have H4 := chg_any w.heap.size g es3.length cap i p es3 (t, 0, 0, false) k m w3 hB3 rfl hq hpl ((b3.cell (p := ⟨p, 1, none⟩) hpl).trans e1) ((b3.cell (p := ⟨p, 2, none⟩) hpl).trans e2) hk1 hk4 hm0 hm1 (Int.le_refl 0) (by show (0 : Int) ≤ 150; omega) (by show -150000000 ≤ (0 : Int); omega) (by show (0 : Int) ≤ 150000000; omega)
    have hil4 : (i : Int) < (es3.length : Int) := by omega
    clear H3 hB3 hq
    go_wp2_with fail
    refine H4.mono ?_
    rintro e w4 ⟨rfl, hB4, b4⟩
    clear H4
    go_wp2_with fail
    go_ret
    exact ⟨⟨_, _, rfl, HP.out, hB4⟩, b3.trans b4⟩

end Go.Proofs.YtldjieplbeflfaaGreat
