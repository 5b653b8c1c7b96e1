/-
  Texts of the proof, joined: HInsH.
-/
import Derived.Test.YtmcaejooaaahdaaGreatZ19
import Derived.Test.YtmcaejooaaahdaaGreatZ21
import Derived.Maps.AppendAt
namespace Go.Proofs.YtmcaejooaaahdaaGreat
open Go.RowKit

/-- What is told: the list, with one more; nothing but its own block has turned. -/
def InsHO (e : Ending) (w w' : World) (B : Nat) (v : Value) (es : List HeC) : Prop := ∃ v', e = .returned v' ∧ w'.ownsRow B 61 2 v' es.length (es.flatMap heCells) ∧ Off (fun k => v.ownBlock = some k) w w' ∧ (v'.ownBlock = v.ownBlock ∨ ∀ g, v'.ownBlock = some g → w.heap.size ≤ g)

theorem Tryz.sizeH : (Tryz.prog.info? 61).map (·.size) = some 2 := by kernel_rfl
/-- Elements are copied over others. -/
theorem run_copy_H (w : World) (ty : TypeId) (g o dLen dCap : Nat) (a : Addr) (sLen sCap n : Nat) (cur : Array Value) (cs : List Value) (hn : n = Nat.min sLen dLen) (hl : cs.length = n * 2)
    (hg : w.heap[g]? = some (.cells cur 61 (0, 0))) (hsrc : ∀ j v, cs[j]? = some v → w.cell? (a.add j) = some v) (hfit : o + cs.length ≤ cur.size) (h1 : ∀ v ∈ cs, v.oneCell' = true) :
    (Builtin.copy_ #[56, 56] ty #[.slice (some ⟨g, o, none⟩) dLen dCap, .slice (some a) sLen sCap]).run Tryz.prog w = .ok (goInt n) (w.setRow g (cur.toList.take o ++ cs ++ cur.toList.drop (o + cs.length)).toArray) := by
  have hld := run_loadCells_list (P := Tryz.prog) w a cs hsrc
  have hst := run_storeCells_at Tryz.prog g o 61 cs 0 cur w hg (by simpa using hfit) h1
  have hu := Tryz.underlying56
  cases hq : Tryz.prog.info? 61 with
  | none =>
    have := Tryz.sizeH
    simp [hq] at this
  | some i =>
    have hi : i.size = 2 := by
      have := Tryz.sizeH
      simpa [hq] using this
    simp [Builtin.copy_, run_underlying hu, Builtin.lenOf, Builtin.firstCells, sizeOf, typeInfo, hq, hi, ← hn, ← hl, hld, hst]

/-- A new element lies in a block of its own. -/
abbrev NewH (w : World) (vb : Nat) (x : HeC) : Prop := w.heap[vb]? = some (.cells (heCells x).toArray 61 (0, 0))

set_option maxHeartbeats 4000000 in
set_option maxRecDepth 100000 in
theorem insH_shift (g cap i vb : Nat) (cur : Array Value) (es : List HeC) (x : HeC) (w : World) (hi : i < es.length) (hcap : es.length + 1 ≤ cap) (hm : cap ≤ 9223372036854775807) (hcs : cur.size = cap * 2)
    (hg : w.heap[g]? = some (.cells cur 61 (0, 0))) (htk : cur.toList.take (es.length * 2) = es.flatMap heCells) (hv : NewH w vb x) (hne : vb ≠ g) :
    Calls Tryz.prog 91 #[.slice (some ⟨g, 0, none⟩) es.length cap, .int .i64 i, .slice (some ⟨vb, 0, none⟩) 1 1] w fun e w' => e = .returned (.slice (some ⟨g, 0, none⟩) (es.length + 1) cap) ∧ ∃ arr : Array Value, w' = w.drew.setRow g arr ∧ arr.size = cap * 2 ∧ arr.toList.take ((es.length + 1) * 2) = (es.take i ++ x :: es.drop i).flatMap heCells := by
  obtain ⟨n, hn⟩ : ∃ n, n = es.length := ⟨_, rfl⟩
  rw [← hn] at hi hcap htk ⊢
  have HN : Hid (n = es.length) := hn
  clear hn
  have hzE : ∀ w, (Go.sizeOf 61).run Tryz.prog w = .ok 2 w := Tryz.sizeOf61
  have hov : ∀ lb cb, (callFunc 121 #[.slice (some ⟨vb, 0, none⟩) 1 1, .slice (some ⟨g, (i + 1) * 2, none⟩) lb cb]).run Tryz.prog w = .ok (.value (.bool false)) w := fun lb cb => by
    rw [run_callFunc_extern Tryz.func121 (by kernel_rfl) (by kernel_rfl) (by kernel_rfl) (e := Extern.SlicesOverlaps.overlaps #[56, 56] #[4]) (by kernel_rfl),
      Lib.run_overlaps_apart w 56 4 61 Tryz.underlying56 2 hzE ⟨vb, 0, none⟩ ⟨g, (i + 1) * 2, none⟩ 1 1 lb cb hne 61 61 2 (cap * 2) (by simp [World.shape?, hv, heCells]) (by simp [World.shape?, hg, hcs]) (by omega) (by simp [World.frozen?, hv]) (by simp [World.frozen?, hv])]
    rfl
  have hz2 : ¬ ((i : Int) = (n : Int)) := by omega
  have hw1 : IntKind.i64.wrap ((i : Int) + 1) = (i : Int) + 1 := by rw [IntKind.wrap_i64]; omega
  have hin : i ≤ n := by omega
  have hb4 : ¬ (cap = i) := by omega
  have hb2 : ¬ (cap = i + 1) := by omega
  have hb1 : (0 : Int) ≤ (i : Int) + 1 := by omega
  have htn : ((i : Int) + 1).toNat = i + 1 := by omega
  have hb3 : (i : Int) ≤ (n : Int) + 1 := by omega
  have hcl : cur.toList.length = cap * 2 := by rw [Array.length_toList]; exact hcs
  obtain ⟨arr1, ha1, hal, ha2⟩ := shift_list cur.toList (es.flatMap heCells) (heCells x) (i * 2) (n * 2) 2 htk (by omega) (by omega) rfl
  have hE1 : (cur.toList.drop (i * 2)).take (n * 2 - i * 2) = (es.flatMap heCells).drop (i * 2) := by rw [← htk, List.drop_take]
  have hEl : ((es.flatMap heCells).drop (i * 2)).length = (n - i) * 2 := by
    rw [List.length_drop, he_len, ← HN.out]
    omega
  rw [hE1] at ha1
  have hcell : ∀ j v, ((es.flatMap heCells).drop (i * 2))[j]? = some v → w.drew.cell? ((⟨g, i * 2, none⟩ : Addr).add j) = some v := fun j v hj => by
    rw [WideShapes.add_plain]
    rw [← htk, List.getElem?_drop, List.getElem?_take] at hj
    split at hj
    · simp only [World.cell?, World.drew, hg]
      simpa using hj
    · cases hj
  have hcp1 : ∀ ty dc sc, (Builtin.copy_ #[56, 56] ty #[.slice (some ⟨g, (i + 1) * 2, none⟩) (n + 1 - (i + 1)) dc, .slice (some ⟨g, i * 2, none⟩) (n + 1 - i) sc]).run Tryz.prog w.drew = .ok (goInt (n - i : Nat)) (w.drew.setRow g arr1.toArray) := fun ty dc sc => by
    rw [run_copy_H w.drew ty g ((i + 1) * 2) (n + 1 - (i + 1)) dc ⟨g, i * 2, none⟩ (n + 1 - i) sc (n - i) cur ((es.flatMap heCells).drop (i * 2)) (by simp only [Nat.min_def]; split <;> omega) hEl hg hcell (by rw [hEl]; omega) (fun v hv => he_one es v (List.mem_of_mem_drop hv)), ha1, hEl, show (i + 1) * 2 = i * 2 + 2 by omega, show (n - i) * 2 = n * 2 - i * 2 by omega]
  have hg1 : (w.drew.setRow g arr1.toArray).heap[g]? = some (.cells arr1.toArray 61 (0, 0)) := setRow_heap w.drew g cur _ 61 _ hg
  have hv1 : (w.drew.setRow g arr1.toArray).heap[vb]? = some (.cells (heCells x).toArray 61 (0, 0)) := by
    rw [setRow_other _ _ _ _ hne]
    exact hv
  have hvc : ∀ j v, (heCells x)[j]? = some v → (w.drew.setRow g arr1.toArray).cell? ((⟨vb, 0, none⟩ : Addr).add j) = some v := fun j v hj => by
    rw [WideShapes.add_plain, Nat.zero_add]
    simp only [World.cell?, hv1]
    simpa using hj
  have hcp2 : ∀ ty dc, (Builtin.copy_ #[56, 56] ty #[.slice (some ⟨g, i * 2, none⟩) (n + 1 - i) dc, .slice (some ⟨vb, 0, none⟩) 1 1]).run Tryz.prog (w.drew.setRow g arr1.toArray) = .ok (goInt (1 : Nat)) (w.drew.setRow g ((arr1.take (i * 2) ++ heCells x ++ arr1.drop (i * 2 + 2))).toArray) := fun ty dc => by
    rw [run_copy_H (w.drew.setRow g arr1.toArray) ty g (i * 2) (n + 1 - i) dc ⟨vb, 0, none⟩ 1 1 1 arr1.toArray (heCells x) (by simp only [Nat.min_def]; split <;> omega) rfl hg1 hvc (by show i * 2 + 2 ≤ arr1.toArray.size; rw [List.size_toArray, hal]; omega) (fun v hv => by
      have := he_one [x] v (by simpa using hv)
      exact this), setRow_setRow]
    rfl
  obtain ⟨arr2, hA2⟩ : ∃ arr2 : Array Value, arr2 = (arr1.take (i * 2) ++ heCells x ++ arr1.drop (i * 2 + 2)).toArray := ⟨_, rfl⟩
  rw [← hA2] at hcp2
  have HF : Hid (∃ arr : Array Value, w.drew.setRow g arr2 = w.drew.setRow g arr ∧ arr.size = cap * 2 ∧ arr.toList.take ((n + 1) * 2) = (es.take i ++ x :: es.drop i).flatMap heCells) := by
    refine ⟨_, rfl, ?_, ?_⟩
    · rw [hA2, List.size_toArray]
      simp only [List.length_append, List.length_take, List.length_drop, hal, hcl]
      show min (i * 2) (cap * 2) + 2 + (cap * 2 - (i * 2 + 2)) = cap * 2
      omega
    · rw [hA2]
      show (arr1.take (i * 2) ++ heCells x ++ arr1.drop (i * 2 + 2)).take ((n + 1) * 2) = _
      rw [ha2, List.flatMap_append, List.flatMap_cons, ← flat_take heCells 2 es i (fun _ _ => rfl) (by rw [← HN.out]; omega), ← flat_drop heCells 2 es i (fun _ _ => rfl) (by rw [← HN.out]; omega)]
      exact List.take_left' (by
        simp only [List.length_append, List.length_take, he_len, hEl]
        show min (i * 2) (es.length * 2) + (2 + (n - i) * 2) = (n + 1) * 2
        rw [← HN.out]
        omega)
  clear hA2 ha1 hal ha2 hE1 hEl hcell hg1 hv1 hvc htk hg hv hcl hcs
  have mixed : Tryz.prog.follows Departure.mixedOrders = true := by kernel_rfl
  go_enter Tryz.func91, Tryz.ntmps91
  go_wp2_with (simp only [hov])
  go_region_law_o (go_loud (refine step_copy_runI rfl _ _ 56 56 rfl (.slice (some ⟨g, (i + 1) * 2, none⟩) (n + 1 - (i + 1)) (cap - (i + 1))) (.slice (some ⟨g, i * 2, none⟩) (n + 1 - i) (cap - i)) (by simp [Act.eval, Act.put]) (by simp [Act.eval, Act.put]) (hcp1 3 (cap - (i + 1)) (cap - i)) ?_))
  go_wp2_with (at_builtin; refine wpList_copy_runI _ rfl _ _ 56 56 rfl _ _ rfl rfl (hcp2 _ _) ?_)
  go_ret
  exact ⟨rfl, HF.out⟩

set_option maxHeartbeats 4000000 in
set_option maxRecDepth 100000 in
theorem insH_grow (g cap i vb : Nat) (cur : Array Value) (es : List HeC) (x : HeC) (w : World) (hi : i < es.length) (hcap : es.length ≤ cap) (hcap2 : cap < es.length + 1) (hsm : es.length ≤ 100000)
    (hg : w.heap[g]? = some (.cells cur 61 (0, 0))) (htk : cur.toList.take (es.length * 2) = es.flatMap heCells) (hv : NewH w vb x) :
    Calls Tryz.prog 91 #[.slice (some ⟨g, 0, none⟩) es.length cap, .int .i64 i, .slice (some ⟨vb, 0, none⟩) 1 1] w fun e w' => ∃ (G : Nat) (arr : Array Value), e = .returned (.slice (some ⟨w.heap.size, 0, none⟩) (es.length + 1) G) ∧ es.length + 1 ≤ G ∧ G ≤ maxLen ∧ w'.heap[w.heap.size]? = some (.cells arr 61 (0, 0)) ∧ arr.size = G * 2 ∧ arr.toList.take ((es.length + 1) * 2) = (es.take i ++ x :: es.drop i).flatMap heCells ∧ Below w.heap.size w w' := by
  obtain ⟨n, hn⟩ : ∃ n, n = es.length := ⟨_, rfl⟩
  rw [← hn] at hi hcap hcap2 htk hsm ⊢
  have HN : Hid (n = es.length) := hn
  clear hn
  have hgl : g < w.heap.size := (Array.getElem?_eq_some_iff.1 hg).1
  have hvl : vb < w.heap.size := (Array.getElem?_eq_some_iff.1 hv).1
  obtain ⟨i4, hi4, hh4⟩ := Option.map_eq_some_iff.1 Tryz.infoH
  simp only [Prod.mk.injEq] at hh4
  obtain ⟨hy0, hy1, hy2⟩ := hh4
  have hElen : (es.flatMap heCells).length = n * 2 := by rw [he_len, ← HN.out]
  have hold : (Builtin.firstCells i4.size i (.slice (some ⟨g, 0, none⟩) i cap)).run Tryz.prog w.drew = .ok ((es.flatMap heCells).take (i * 2)).toArray w.drew := by
    rw [hy1]
    refine run_firstCells_some w.drew 2 i ⟨g, 0, none⟩ i cap _ (by rw [List.length_take, hElen]; omega) (fun j v hj => ?_)
    rw [WideShapes.add_plain, Nat.zero_add]
    rw [List.getElem?_take] at hj
    split at hj
    · rw [← htk, List.getElem?_take] at hj
      split at hj
      · simp only [World.cell?, World.drew, hg]
        simpa using hj
      · cases hj
    · cases hj
  have hkk : (n : Int) + 1 - (i : Int) = ((n + 1 - i : Nat) : Int) := by omega
  have hik : i + (n + 1 - i) = n + 1 := by omega
  obtain ⟨G, hG⟩ : ∃ G, G = grownCap w (n + 1) cap 61 := ⟨_, rfl⟩
  have hGn : n + 1 ≤ G := by rw [hG]; exact grownCap_ge w _ _ _
  have hG63 : G ≤ maxLen := by
    rw [hG]
    exact grownCap_le_maxLen w (n + 1) cap 61 (by unfold maxLen; omega)
  obtain ⟨ROW, hROW⟩ : ∃ ROW : Array Value, ROW = ((es.flatMap heCells).take (i * 2)).toArray ++ Builtin.zeroCells (Value.agg #[.int .i64 0, .slice none 0 0]).cells (n + 1 - i) ++ Builtin.zeroCells (Value.agg #[.int .i64 0, .slice none 0 0]).cells (G - (n + 1)) := ⟨_, rfl⟩
  have hrz : ∀ ty, (Builtin.append_ #[56, 3] ty #[.slice (some ⟨g, 0, none⟩) i cap, .int .i64 ((n : Int) + 1 - (i : Int))]).run Tryz.prog w = .ok (.slice (some ⟨w.heap.size, 0, none⟩) (n + 1) G) (w.drew.alloc (.cells ROW 61)) := fun ty => by
    have h := Lib.run_append_grow_zeros (P := Tryz.prog) w 56 3 ty 61 i4 _ .i64 .i64 Tryz.underlying56 Tryz.underlying3 hi4 hy0 (some ⟨g, 0, none⟩) i cap _ hold (n + 1 - i) (by omega) (by omega) (by omega) (by omega) (by rw [hy2]; omega) (by rw [hy2, hik]; exact growslice_fits (by omega) (by omega))
    rw [hik, ← hG, ← hROW] at h
    rw [hkk]
    exact h
  have hzl : ∀ k, (Builtin.zeroCells (Value.agg #[.int .i64 0, .slice none 0 0]).cells k).size = k * 2 := fun k => by
    simp [Builtin.zeroCells, Value.cells]
  have hRs : ROW.toList.length = G * 2 := by
    rw [Array.length_toList, hROW, Array.size_append, Array.size_append, hzl, hzl, List.size_toArray, List.length_take, hElen]
    omega
  have hRt : ROW.toList.take (i * 2) = (es.flatMap heCells).take (i * 2) := by
    rw [hROW, Array.toList_append, Array.toList_append, List.append_assoc]
    exact List.take_left' (by rw [List.length_take, hElen]; omega)
  obtain ⟨A, hA1, hA2, hA3⟩ := grow_list ROW.toList (es.flatMap heCells) (heCells x) (i * 2) (n * 2) 2 (by omega) (by omega) hRt rfl
  obtain ⟨B, hB⟩ : ∃ B : Array Value, B = (A.take (i * 2 + 2) ++ (es.flatMap heCells).drop (i * 2) ++ A.drop (i * 2 + 2 + (n * 2 - i * 2))).toArray := ⟨_, rfl⟩
  have hEl : ((es.flatMap heCells).drop (i * 2)).length = (n - i) * 2 := by
    rw [List.length_drop, hElen]
    omega
  have hcpA : ∀ (W : World), W.heap[w.heap.size]? = some (.cells ROW 61 (0, 0)) → W.heap[vb]? = w.heap[vb]? → ∀ ty dc, (Builtin.copy_ #[56, 56] ty #[.slice (some ⟨w.heap.size, i * 2, none⟩) (n + 1 - i) dc, .slice (some ⟨vb, 0, none⟩) 1 1]).run Tryz.prog W = .ok (goInt (1 : Nat)) (W.setRow w.heap.size A.toArray) := fun W hW1 hW2 ty dc => by
    rw [run_copy_H W ty w.heap.size (i * 2) (n + 1 - i) dc ⟨vb, 0, none⟩ 1 1 1 ROW (heCells x) (by simp only [Nat.min_def]; split <;> omega) rfl hW1 (fun j v hj => by
      rw [WideShapes.add_plain, Nat.zero_add]
      rw [hv] at hW2
      simp only [World.cell?, hW2]
      simpa using hj) (by show i * 2 + 2 ≤ ROW.size; rw [← Array.length_toList, hRs]; omega) (fun v hv => he_one [x] v (by simpa using hv)), hA1]
    rfl
  have hcpB : ∀ (W : World), W.heap[w.heap.size]? = some (.cells A.toArray 61 (0, 0)) → W.heap[g]? = w.heap[g]? → ∀ ty dc sc, (Builtin.copy_ #[56, 56] ty #[.slice (some ⟨w.heap.size, (i + 1) * 2, none⟩) (n + 1 - (i + 1)) dc, .slice (some ⟨g, i * 2, none⟩) (n - i) sc]).run Tryz.prog W = .ok (goInt (n - i : Nat)) (W.setRow w.heap.size B) := fun W hW1 hW2 ty dc sc => by
    rw [run_copy_H W ty w.heap.size ((i + 1) * 2) (n + 1 - (i + 1)) dc ⟨g, i * 2, none⟩ (n - i) sc (n - i) A.toArray ((es.flatMap heCells).drop (i * 2)) (by simp only [Nat.min_def]; split <;> omega) hEl hW1 (fun j v hj => by
      rw [WideShapes.add_plain]
      rw [← htk, List.getElem?_drop, List.getElem?_take] at hj
      split at hj
      · rw [hg] at hW2
        simp only [World.cell?, hW2]
        simpa using hj
      · cases hj) (by rw [hEl, List.size_toArray, hA2, hRs]; omega) (fun v hv => he_one es v (List.mem_of_mem_drop hv)), hEl, hB, show (i + 1) * 2 = i * 2 + 2 by omega, show (n - i) * 2 = n * 2 - i * 2 by omega]
  have HB1 : Hid (B.size = G * 2) := by
    show B.size = G * 2
    rw [hB, List.size_toArray, hA3]
    simp only [List.length_append, List.length_take, List.length_drop, hElen, hRs]
    show min (i * 2) (n * 2) + (2 + (n * 2 - i * 2)) + (G * 2 - (n * 2 + 2)) = G * 2
    omega
  have HB2 : Hid (B.toList.take ((n + 1) * 2) = (es.take i ++ x :: es.drop i).flatMap heCells) := by
    show B.toList.take ((n + 1) * 2) = _
    rw [hB]
    show (A.take (i * 2 + 2) ++ (es.flatMap heCells).drop (i * 2) ++ A.drop (i * 2 + 2 + (n * 2 - i * 2))).take ((n + 1) * 2) = _
    rw [hA3, List.flatMap_append, List.flatMap_cons, ← flat_take heCells 2 es i (fun _ _ => rfl) (by rw [← HN.out]; omega), ← flat_drop heCells 2 es i (fun _ _ => rfl) (by rw [← HN.out]; omega)]
    exact List.take_left' (by
      simp only [List.length_append, List.length_take, List.length_drop, hElen]
      show min (i * 2) (n * 2) + (2 + (n * 2 - i * 2)) = (n + 1) * 2
      omega)
  have h0 : (w.drew.alloc (.cells ROW 61)).heap[w.heap.size]? = some (.cells ROW 61 (0, 0)) := heap_alloc_new w.drew _
  have h0v : (w.drew.alloc (.cells ROW 61)).heap[vb]? = w.heap[vb]? := Deep.blk_alloc_lt w.drew _ _ hvl
  have h0g : (w.drew.alloc (.cells ROW 61)).heap[g]? = w.heap[g]? := Deep.blk_alloc_lt w.drew _ _ hgl
  have hcA := hcpA (w.drew.alloc (.cells ROW 61)) h0 h0v
  have h1 : ((w.drew.alloc (.cells ROW 61)).setRow w.heap.size A.toArray).heap[w.heap.size]? = some (.cells A.toArray 61 (0, 0)) := setRow_heap _ _ ROW _ 61 _ h0
  have h1g : ((w.drew.alloc (.cells ROW 61)).setRow w.heap.size A.toArray).heap[g]? = w.heap[g]? := by
    rw [setRow_other _ _ _ _ (by omega)]
    exact h0g
  have hcB := hcpB ((w.drew.alloc (.cells ROW 61)).setRow w.heap.size A.toArray).drew h1 h1g
  have h2 : (((w.drew.alloc (.cells ROW 61)).setRow w.heap.size A.toArray).drew.setRow w.heap.size B).heap[w.heap.size]? = some (.cells B 61 (0, 0)) := setRow_heap _ _ A.toArray _ 61 _ h1
  have hbl : Below w.heap.size w (((w.drew.alloc (.cells ROW 61)).setRow w.heap.size A.toArray).drew.setRow w.heap.size B) := by
    have b0 : Below w.heap.size w w.drew := ⟨rfl, rfl, rfl, Nat.le_refl _, fun _ _ => rfl⟩
    have b1 := b0.alloc (Nat.le_refl _) (.cells ROW 61)
    have b2 := below_setRow b1 (Nat.le_refl _) A.toArray
    exact below_setRow (w := ((w.drew.alloc (.cells ROW 61)).setRow w.heap.size A.toArray).drew) ⟨b2.os, b2.tape, b2.output, b2.size, b2.block⟩ (Nat.le_refl _) B
  generalize hW1 : w.drew.alloc (.cells ROW 61) = W1 at hrz hcA hcB h2 hbl
  generalize hW2 : W1.setRow w.heap.size A.toArray = W2 at hcA hcB h2 hbl
  have HF : Hid (Below w.heap.size w (W2.drew.setRow w.heap.size B) ∧ (W2.drew.setRow w.heap.size B).heap[w.heap.size]? = some (.cells B 61 (0, 0))) := ⟨hbl, h2⟩
  clear hW1 hW2 hbl h2 h1 h1g h0 h0v h0g hcpA hcpB hB hA1 hA2 hA3 hRt hRs hzl hROW hold hEl htk hg hv hi4 hy0 hy1 hy2 hkk hik hG hElen
  have hz2 : ¬ ((i : Int) = (n : Int)) := by omega
  have hz3 : (cap : Int) < (n : Int) + 1 := by omega
  have hw1 : IntKind.i64.wrap ((i : Int) + 1) = (i : Int) + 1 := by rw [IntKind.wrap_i64]; omega
  have hin : i ≤ n := by omega
  have hb1 : (0 : Int) ≤ (i : Int) + 1 := by omega
  have htn : ((i : Int) + 1).toNat = i + 1 := by omega
  have hb3 : (i : Int) ≤ (n : Int) := by omega
  have hGi : ¬ (G = i) := by omega
  have hGim : ¬ (G = i + 1) := by omega
  have hci : ¬ (cap = i) := by omega
  have hG63' : G ≤ 9223372036854775807 := by unfold maxLen at hG63; omega
  have mixed : Tryz.prog.follows Departure.mixedOrders = true := by kernel_rfl
  go_enter Tryz.func91, Tryz.ntmps91
  go_wp2_with (first
    | (at_builtin; refine Lib.wpList_append_run _ rfl _ _ _ _ rfl _ _ rfl rfl _ _ (hrz _) ?_)
    | (at_builtin; refine wpList_copy_runI _ rfl _ _ 56 56 rfl _ _ rfl rfl (hcA _ _) ?_))
  go_region_law_o (go_loud (refine step_copy_runI rfl _ _ 56 56 rfl (.slice (some ⟨w.heap.size, (i + 1) * 2, none⟩) (n + 1 - (i + 1)) (G - (i + 1))) (.slice (some ⟨g, i * 2, none⟩) (n - i) (cap - i)) (by simp [Act.eval, Act.put]) (by simp [Act.eval, Act.put]) (hcB 3 (G - (i + 1)) (cap - i)) ?_))
  go_wp2_with fail
  go_ret
  exact ⟨G, B, rfl, hGn, hG63, HF.out.2, HB1.out, HB2.out, HF.out.1⟩


set_option maxHeartbeats 1000000 in
set_option maxRecDepth 100000 in
theorem insH_end (B vb : Nat) (v : Value) (es : List HeC) (x : HeC) (w : World) (h : w.ownsRow B 61 2 v es.length (es.flatMap heCells)) (hB : B ≤ w.heap.size) (hn : es.length ≤ 100000) (hv : NewH w vb x) :
    Calls Tryz.prog 91 #[v, .int .i64 es.length, .slice (some ⟨vb, 0, none⟩) 1 1] w fun e w' => InsHO e w w' B v (es ++ [x]) := by
  obtain ⟨i4, hi4, hh4⟩ := Option.map_eq_some_iff.1 Tryz.infoH
  simp only [Prod.mk.injEq] at hh4
  obtain ⟨hy0, hy1, hy2⟩ := hh4
  obtain ⟨v', w', hrun, ho, hg, _, hat⟩ := run_append_own_at (P := Tryz.prog) w B 56 56 61 i4 _ 2 32 Tryz.underlying56 hi4 hy0 hy1 hy2 rfl (by decide) v es.length _ h ⟨vb, 0, none⟩ 1 1 (heCells x) rfl (fun j u hj => by
    rw [WideShapes.add_plain, Nat.zero_add]
    simp only [World.cell?, hv]
    simpa using hj) (fun u hu => he_one [x] u (by simpa using hu)) (by unfold maxLen; omega) (by omega) hB
  have HR : Hid (InsHO (.returned v') w w' B v (es ++ [x])) := by
    refine ⟨v', rfl, ?_, off_of_grown hg, ?_⟩
    · rw [List.length_append, List.flatMap_append, List.length_singleton, List.flatMap_cons, List.flatMap_nil, List.append_nil]
      exact ho
    · rcases hat with q | q
      · exact Or.inl q
      · refine Or.inr fun g hg => ?_
        rw [q] at hg
        cases hg
        exact Nat.le_refl _
  clear ho hg hat
  rcases h.2 with ⟨rfl, h0⟩ | ⟨g, cap, cur, rfl, _, _, hc, hm, _⟩
  · rw [h0]
    clear h hv
    go_enter Tryz.func91, Tryz.ntmps91
    go_wp2_with (at_builtin; refine Lib.wpList_append_run _ rfl _ _ _ _ rfl _ _ rfl rfl _ _ hrun ?_)
    go_ret
    exact HR.out
  · clear h hv
    unfold maxLen at hm
    by_cases hcn : cap = es.length
    · subst hcn
      go_enter Tryz.func91, Tryz.ntmps91
      go_wp2_with (at_builtin; refine Lib.wpList_append_run _ rfl _ _ _ _ rfl _ _ rfl rfl _ _ hrun ?_)
      go_ret
      exact HR.out
    · go_enter Tryz.func91, Tryz.ntmps91
      go_wp2_with (at_builtin; refine Lib.wpList_append_run _ rfl _ _ _ _ rfl _ _ rfl rfl _ _ hrun ?_)
      go_ret
      exact HR.out

theorem insH_any (B i vb : Nat) (v : Value) (es : List HeC) (x : HeC) (w : World) (h : w.ownsRow B 61 2 v es.length (es.flatMap heCells)) (hB : B ≤ w.heap.size) (hi : i ≤ es.length) (hn : es.length ≤ 100000) (hv : NewH w vb x) (hne : v.ownBlock ≠ some vb) :
    Calls Tryz.prog 91 #[v, .int .i64 i, .slice (some ⟨vb, 0, none⟩) 1 1] w fun e w' => InsHO e w w' B v (es.take i ++ x :: es.drop i) := by
  have hlen : (es.take i ++ x :: es.drop i).length = es.length + 1 := by
    simp
    omega
  by_cases he : i = es.length
  · subst he
    have H := insH_end B vb v es x w h hB hn hv
    rw [List.take_length, List.drop_length]
    exact H
  · rcases h.2 with ⟨_, h0⟩ | ⟨g, cap, cur, rfl, hBg, hg, hc, hm, hcs, htk⟩
    · omega
    · by_cases hroom : es.length + 1 ≤ cap
      · refine (insH_shift g cap i vb cur es x w (by omega) hroom (by unfold maxLen at hm; exact hm) hcs hg htk hv (fun e => hne (by rw [e]; rfl))).mono ?_
        rintro e w' ⟨rfl, arr, rfl, ha1, ha2⟩
        have hg1 : (w.drew.setRow g arr).heap[g]? = some (.cells arr 61 (0, 0)) := setRow_heap w.drew g cur _ 61 _ hg
        refine ⟨_, rfl, ?_, ?_, Or.inl rfl⟩
        · rw [hlen]
          exact ⟨by rw [he_len, hlen], Or.inr ⟨g, cap, arr, rfl, hBg, hg1, hroom, hm, ha1, ha2⟩⟩
        · exact off_setRow w g arr
      · refine (insH_grow g cap i vb cur es x w (by omega) hc (by omega) hn hg htk hv).mono ?_
        rintro e w' ⟨G, arr, rfl, hG1, hG2, hg1, ha1, ha2, hbl⟩
        refine ⟨_, rfl, ?_, Off.of_below hbl, Or.inr fun x hx => ?_⟩
        · rw [hlen]
          exact ⟨by rw [he_len, hlen], Or.inr ⟨w.heap.size, G, arr, rfl, hB, hg1, hG1, hG2, ha1, ha2⟩⟩
        · cases hx
          exact Nat.le_refl _

end Go.Proofs.YtmcaejooaaahdaaGreat
