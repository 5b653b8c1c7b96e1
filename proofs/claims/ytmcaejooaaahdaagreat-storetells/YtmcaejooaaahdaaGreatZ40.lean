/-
  Texts of the proof, joined: HDel, HTail, OpenE.
-/
import Derived.Test.YtmcaejooaaahdaaGreatZ39
import Derived.Laws.CopyRow
import Derived.Test.YtmcaejooaaahdaaGreatZ14
import Derived.Deep.SlicePairs
import Derived.Deep.Strs
namespace Go.Proofs.YtmcaejooaaahdaaGreat
open Go.RowKit

/-- Is an event another stream's? -/
theorem Tryz.enters_others : ∀ args w, (callFunc 49 args).run Tryz.prog w = .ok (.enter 49 args) w := enters_of Tryz.func49 (by kernel_rfl) rfl
set_option maxHeartbeats 400000 in
set_option maxRecDepth 100000 in
theorem others_any (p : Nat) (s t : ByteArray) (k m : Int) (w : World) (hc : w.cell? ⟨p, 0, none⟩ = some (.string t)) :
    Calls Tryz.prog 49 #[.agg #[.string s, .int .i64 k, .int .i64 m], .pointer (some ⟨p, 0, none⟩)] w fun e w' => e = .returned (.bool !(decide (nb s = nb t))) ∧ Below w.heap.size w w' := by
  have hb0 : Below w.heap.size w (w.alloc (.cells #[.string s, .int .i64 k, .int .i64 m] 83)) := (Below.refl _ _).alloc (Nat.le_refl _) _
  have hc' := (hb0.cell (p := ⟨p, 0, none⟩) (World.block_lt_of_cell? _ _ hc)).trans hc
  obtain ⟨c0, _, _⟩ := varE_new w (.string s) (.int .i64 k) (.int .i64 m)
  have HY : Hid ((s.toList == t.toList) = decide (nb s = nb t)) := same_nb s t
  go_enter Tryz.func49, Tryz.ntmps49
  go_wp2_with fail
  go_ret
  exact ⟨by rw [← HY.out]; rfl, hb0⟩

/-- The first one of another stream. -/
def FirstD (l : List EvC) (t : ByteArray) (i : Int) : Prop := (i = -1 ∧ ∀ (j : Nat) q, l[j]? = some q → nb q.1 = nb t) ∨ ∃ (r : Nat) (q : EvC), i = (r : Int) ∧ l[r]? = some q ∧ nb q.1 ≠ nb t ∧ ∀ (j : Nat) x, j < r → l[j]? = some x → nb x.1 = nb t
theorem EBuf.at {w : World} {N : Nat} {v : Value} {es : List EvC} (h : EBuf w N v es) {i : Nat} {q : EvC} (hi : es[i]? = some q) : ∃ g cap, v = .slice (some ⟨g, 0, none⟩) es.length cap ∧ cap ≤ 9223372036854775807 ∧ es.length ≤ cap ∧ w.cell? ⟨g, i * 3, none⟩ = some (.string q.1) ∧ w.cell? ⟨g, i * 3 + 1, none⟩ = some (.int .i64 q.2.1) ∧ w.cell? ⟨g, i * 3 + 2, none⟩ = some (.int .i64 q.2.2) := by
  have hl : 1 ≤ es.length := by
    have := (List.getElem?_eq_some_iff.1 hi).1
    omega
  obtain ⟨g, cap, rfl, _, h1, h2, _, hc⟩ := owns_cells h.1 hl
  have hf := fun t ht => flat_get evCells 3 es (fun _ _ => rfl) i t ht q hi
  exact ⟨g, cap, rfl, by unfold maxLen at h2; exact h2, h1, hc _ _ (hf 0 (by decide)), hc _ _ (hf 1 (by decide)), hc _ _ (hf 2 (by decide))⟩
theorem EBuf.shape {w : World} {N : Nat} {v : Value} {es : List EvC} (h : EBuf w N v es) : ∃ A C, v = .slice A es.length C := by
  rcases h.1.2 with ⟨rfl, h0⟩ | ⟨g, cap, cur, rfl, _⟩
  · exact ⟨none, 0, by rw [h0]⟩
  · exact ⟨_, _, rfl⟩
set_option maxHeartbeats 1000000 in
set_option maxRecDepth 100000 in
theorem indexE_any (p N : Nat) (t : ByteArray) (v : Value) (es : List EvC) (w : World) (h : EBuf w N v es) (hc : w.cell? ⟨p, 0, none⟩ = some (.string t)) :
    Calls Tryz.prog 86 #[v, .func (.func 49) #[] #[.pointer (some ⟨p, 0, none⟩)]] w fun e w' => ∃ i : Int, e = .returned (.int .i64 i) ∧ FirstD es t i ∧ Below w.heap.size w w' := by
  have eg := Tryz.enters_others
  obtain ⟨A, C, hv⟩ := h.shape
  have HB : Hid (EBuf w N v es) := h
  subst hv
  clear h
  go_enter Tryz.func86, Tryz.ntmps86
  go_wp2_with fail
  go_loopw [8] (fun i wr => ∃ k : Nat, k ≤ es.length ∧ i = .int .i64 k ∧ Hid (∀ (j : Nat) q, j < k → es[j]? = some q → nb q.1 = nb t) ∧ Below w.heap.size w wr) (fun i _ => es.length - (intOf i).toNat)
  case atStart => exact ⟨0, Nat.zero_le _, rfl, fun j q hj => absurd hj (Nat.not_lt_zero j), Below.refl _ _⟩
  case round =>
    obtain ⟨k, hk, rfl, HS, hb⟩ := hrel
    by_cases hlt : k < es.length
    · have hlt' : (k : Int) < (es.length : Int) := by omega
      obtain ⟨q, hq⟩ : ∃ q, es[k]? = some q := ⟨es[k], List.getElem?_eq_getElem hlt⟩
      obtain ⟨g, cap, hv, hcap, hcl, d0, d1, d2⟩ := (HB.out.below hb).at hq
      cases hv
      have HQ : Hid (es[k]? = some q) := hq
      have HC := others_any p q.1 t q.2.1 q.2.2 wr ((hb.cell (p := ⟨p, 0, none⟩) (World.block_lt_of_cell? _ _ hc)).trans hc)
      clear hq
      by_cases hy : nb q.1 = nb t
      · have HY : Hid (nb q.1 = nb t) := hy
        rw [decide_eq_true hy] at HC
        clear hy
        go_wp2_with fail
        refine HC.mono ?_
        rintro e w1 ⟨rfl, b1⟩
        clear HC
        go_wp2_with fail
        refine ⟨⟨k + 1, by omega, by go_num, fun j x hj hx => ?_, bt hb b1⟩, by simp [intOf]; omega⟩
        by_cases e : j = k
        · rw [e, HQ.out] at hx
          cases hx
          exact HY.out
        · exact HS.out j x (by omega) hx
      · have HF : Hid (FirstD es t (k : Int)) := Or.inr ⟨k, q, rfl, HQ.out, hy, HS.out⟩
        rw [decide_eq_false hy] at HC
        clear hy
        go_wp2_with fail
        refine HC.mono ?_
        rintro e w1 ⟨rfl, b1⟩
        clear HC
        go_wp2_with fail
        go_ret
        exact ⟨_, rfl, HF.out, bt hb b1⟩
    · obtain rfl : k = es.length := by omega
      have HF : Hid (FirstD es t (-1)) := Or.inl ⟨rfl, fun j q hq => HS.out j q (List.getElem?_eq_some_iff.1 hq).1 hq⟩
      go_wp2_with fail
      go_ret
      exact ⟨_, rfl, HF.out, hb⟩

/-! ### Those of other streams are struck -/
def keepT (t : ByteArray) (q : EvC) : Bool := decide (nb q.1 = nb t)
/-- An event is written over another one. -/
theorem EBuf.over {w : World} {N g n cap : Nat} {L : List EvC} (h : EBuf w N (.slice (some ⟨g, 0, none⟩) n cap) L) (hn : n = L.length) {i : Nat} (hi : i < n) (q : EvC) (hq : q.1.size ≤ 9223372036854775807) :
    EBuf (((w.setCell ⟨g, i * 3, none⟩ (.string q.1)).setCell ⟨g, i * 3 + 1, none⟩ (.int .i64 q.2.1)).setCell ⟨g, i * 3 + 2, none⟩ (.int .i64 q.2.2)) N (.slice (some ⟨g, 0, none⟩) n cap) (L.set i q) := by
  subst hn
  obtain ⟨x, hx⟩ : ∃ x, L[i]? = some x := ⟨L[i], List.getElem?_eq_getElem hi⟩
  have fs : ∀ (M : List EvC) (t : Nat) (a a' : EvC) (u : Value), t < 3 → M[i]? = some a → evCells a' = (evCells a).set t u → (M.flatMap evCells).set (i * 3 + t) u = (M.set i a').flatMap evCells := fun M t a a' u ht h1 h2 => flat_set evCells 3 M i t a a' u (fun _ _ => rfl) ht h1 h2
  have s1 := (h.1.stored (i * 3) (.string q.1)).1
  rw [show i * 3 = i * 3 + 0 from rfl, fs L 0 x (q.1, x.2) (.string q.1) (by decide) hx rfl] at s1
  have l1 : (L.set i (q.1, x.2)).length = L.length := List.length_set ..
  have g1 : (L.set i (q.1, x.2))[i]? = some (q.1, x.2) := List.getElem?_set_self hi
  have s2 := (s1.stored (i * 3 + 1) (.int .i64 q.2.1)).1
  rw [fs _ 1 _ (q.1, q.2.1, x.2.2) (.int .i64 q.2.1) (by decide) g1 rfl, List.set_set] at s2
  have g2 : (L.set i (q.1, q.2.1, x.2.2))[i]? = some (q.1, q.2.1, x.2.2) := List.getElem?_set_self hi
  have s3 := (s2.stored (i * 3 + 2) (.int .i64 q.2.2)).1
  rw [fs _ 2 _ q (.int .i64 q.2.2) (by decide) g2 rfl, List.set_set] at s3
  refine ⟨by rw [List.length_set]; exact s3, fun e he => ?_⟩
  rcases List.mem_or_eq_of_mem_set he with z | rfl
  · exact h.2 e z
  · exact hq
/-- Those from i on are made zero. -/
theorem clear_evs {w : World} {N g n cap : Nat} {L : List EvC} (h : EBuf w N (.slice (some ⟨g, 0, none⟩) n cap) L) (hn : n = L.length) {i : Nat} (hi : i < n) :
    ∃ w', (∀ ty c, (Builtin.clear_ #[40] ty #[.slice (some ⟨g, i * 3, none⟩) (n - i) c]).run Tryz.prog w = .ok (.tuple #[]) w') ∧ EBuf w' N (.slice (some ⟨g, 0, none⟩) i cap) (L.take i) ∧ Off (fun k => k = g) w w' := by
  subst hn
  rcases h.1.2 with ⟨e, _⟩ | ⟨g', cap', cur, e, hNg, hg, hc, hm, hcs, htk⟩
  · cases e
  · cases e
    obtain ⟨i3, hi3, hh3⟩ := Option.map_eq_some_iff.1 Tryz.infoEvent
    simp only [Prod.mk.injEq] at hh3
    obtain ⟨hy0, hy1, hy2⟩ := hh3
    have hz : ∀ w, (zeroValue 83).run Tryz.prog w = .ok (.agg #[.string ByteArray.empty, .int .i64 0, .int .i64 0]) w := fun w => by
      simp [zeroValue, typeInfo, hi3, hy0]
    obtain ⟨vs, hvs⟩ : ∃ vs, vs = (Builtin.zeroCells (Value.agg #[.string ByteArray.empty, .int .i64 0, .int .i64 0]).cells (L.length - i)).toList := ⟨_, rfl⟩
    have hvl : vs.length = (L.length - i) * 3 := by
      rw [hvs, Array.length_toList, size_zeroCells]
      rfl
    have hone : ∀ v ∈ vs, v.oneCell' = true := fun v hv => by
      rw [hvs] at hv
      simp only [Builtin.zeroCells, Array.toList_map, List.mem_map] at hv
      obtain ⟨j, _, rfl⟩ := hv
      have : j % (Value.agg #[.string ByteArray.empty, .int .i64 0, .int .i64 0]).cells.size < 3 := Nat.mod_lt _ (by decide)
      generalize j % (Value.agg #[.string ByteArray.empty, .int .i64 0, .int .i64 0]).cells.size = r at this
      rcases (show r = 0 ∨ r = 1 ∨ r = 2 by omega) with rfl | rfl | rfl <;> rfl
    have hst := run_storeCells_at (P := Tryz.prog) g (i * 3) 83 vs 0 cur w hg (by rw [hvl, hcs]; omega) hone
    rw [Nat.add_zero] at hst
    have hlen : (L.flatMap evCells).length = L.length * 3 := evC_len L
    refine ⟨_, fun ty c => ?_, ⟨⟨by rw [evC_len], Or.inr ⟨g, cap, (cur.toList.take (i * 3) ++ vs ++ cur.toList.drop (i * 3 + vs.length)).toArray, by rw [List.length_take, Nat.min_eq_left (Nat.le_of_lt hi)], hNg, setRow_heap w g cur _ 83 _ hg, by rw [List.length_take]; omega, hm, ?_, ?_⟩⟩, fun e he => h.2 e (List.mem_of_mem_take he)⟩, ⟨rfl, rfl, rfl, (below_setRow (Below.refl 0 w) (Nat.zero_le g) _).size, fun k _ hk => setRow_other w g k _ hk⟩⟩
    · obtain ⟨m, hm2⟩ : ∃ m, L.length - i = m + 1 := ⟨L.length - i - 1, by omega⟩
      rw [hm2]
      rw [hm2] at hvs
      simp only [Builtin.clear_]
      simp [run_underlying Tryz.underlying40, hz, ← hvs, hst]
    · rw [List.size_toArray]
      simp only [List.length_append, List.length_take, List.length_drop, Array.length_toList, hcs, hvl]
      omega
    · rw [List.length_take, Nat.min_eq_left (Nat.le_of_lt hi)]
      show (cur.toList.take (i * 3) ++ vs ++ cur.toList.drop (i * 3 + vs.length)).take (i * 3) = _
      rw [List.append_assoc, List.take_append_of_le_length (by rw [List.length_take, Array.length_toList, hcs]; omega), List.take_take, Nat.min_self]
      have := congrArg (List.take (i * 3)) htk
      rw [List.take_take, Nat.min_eq_left (by omega)] at this
      rw [this, flat_take evCells 3 L i (fun _ _ => rfl) (Nat.le_of_lt hi)]

/-- Under way: of the first j those that are kept are the first i. -/
def DelS (w wr : World) (N : Nat) (v : Value) (es : List EvC) (t : ByteArray) (p i j : Nat) : Prop := ∃ L, EBuf wr N v L ∧ L.length = es.length ∧ L.take i = (es.take j).filter (keepT t) ∧ L.drop j = es.drop j ∧ Off (fun k => v.ownBlock = some k) w wr ∧ wr.cell? ⟨p, 0, none⟩ = some (.string t)
theorem take_keep {t : ByteArray} {es : List EvC} {j : Nat} {q : EvC} (hq : es[j]? = some q) : (es.take (j + 1)).filter (keepT t) = (es.take j).filter (keepT t) ++ if nb q.1 = nb t then [q] else [] := by
  rw [List.take_add_one, hq, List.filter_append]
  congr 1
  show [q].filter (keepT t) = _
  by_cases h : nb q.1 = nb t
  · rw [if_pos h, List.filter_cons_of_pos (show keepT t q = true from decide_eq_true h)]
    rfl
  · rw [if_neg h, List.filter_cons_of_neg (show ¬ keepT t q = true from fun z => h (of_decide_eq_true z))]
    rfl
/-- Events of one stream are told. -/
def DelO (e : Ending) (w w' : World) (N : Nat) (v : Value) (es : List EvC) : Prop := ∃ v', e = .returned v' ∧ EBuf w' N v' es ∧ Off (fun k => v.ownBlock = some k) w w'
set_option maxHeartbeats 2000000 in
set_option maxRecDepth 100000 in
theorem deleteE_any (p N : Nat) (t : ByteArray) (v : Value) (es : List EvC) (w : World) (h : EBuf w N v es) (hc : w.cell? ⟨p, 0, none⟩ = some (.string t)) (hp : ∀ g, v.ownBlock = some g → g ≠ p) :
    Calls Tryz.prog 50 #[v, .func (.func 49) #[] #[.pointer (some ⟨p, 0, none⟩)]] w fun e w' => DelO e w w' N v (es.filter (keepT t)) := by
  have eg := Tryz.enters_others
  have HI := indexE_any p N t v es w h hc
  have HB : Hid (EBuf w N v es) := h
  obtain ⟨A, C, hv⟩ := h.shape
  subst hv
  clear h
  go_enter Tryz.func50, Tryz.ntmps50
  go_wp2_with fail
  refine HI.mono ?_
  rintro e w1 ⟨i, rfl, HF, b1⟩
  have hB1 := HB.out.below b1
  have c1 := (b1.cell (p := ⟨p, 0, none⟩) (World.block_lt_of_cell? _ _ hc)).trans hc
  clear HI
  rcases HF with ⟨rfl, hall⟩ | ⟨r, q, rfl, hq, hqn, hlow⟩
  · have HO : Hid (DelO (.returned (.slice A es.length C)) w w1 N (.slice A es.length C) (es.filter (keepT t))) := by
      have e1 : es.filter (keepT t) = es := List.filter_eq_self.2 fun q hq => by
        obtain ⟨j, hj⟩ := List.mem_iff_getElem?.1 hq
        exact decide_eq_true (hall j q hj)
      rw [e1]
      exact ⟨_, rfl, hB1, Off.of_below b1⟩
    clear hall hB1
    go_wp2_with fail
    go_ret
    exact HO.out
  · have hrl : r < es.length := (List.getElem?_eq_some_iff.1 hq).1
    have S0 : DelS w w1 N (.slice A es.length C) es t p r (r + 1) := by
      refine ⟨es, hB1, rfl, ?_, rfl, Off.of_below b1, c1⟩
      rw [take_keep hq, if_neg hqn, List.append_nil]
      refine (List.filter_eq_self.2 fun x hx => ?_).symm
      obtain ⟨j, hj⟩ := List.mem_iff_getElem?.1 hx
      have hjr : j < r := by
        have := (List.getElem?_eq_some_iff.1 hj).1
        rw [List.length_take] at this
        omega
      rw [List.getElem?_take, if_pos hjr] at hj
      exact decide_eq_true (hlow j x hjr hj)
    obtain ⟨g, cap, hve, hcap, hcl, _⟩ := hB1.at hq
    cases hve
    have hpg : g ≠ p := hp g rfl
    have hr1 : (r : Int) ≠ -1 := by omega
    have hr2 : ((r : Int) == -1) = false := by rw [beq_eq_false_iff_ne]; exact hr1
    clear hq hqn hlow hB1 hp
    go_wp2_with fail
    go_loopw [5, 6] (fun y x wr => ∃ i j : Nat, i < j ∧ j ≤ es.length ∧ y = .int .i64 i ∧ x = .int .i64 j ∧ DelS w wr N (.slice (some ⟨g, 0, none⟩) es.length C) es t p i j) (fun _ x _ => es.length - (intOf x).toNat)
    case atStart => exact ⟨r, r + 1, by omega, by omega, rfl, by go_num, S0⟩
    case round =>
      obtain ⟨i, j, hij, hjl, rfl, rfl, L, hL, hLl, hLt, hLd, hLb, hLc⟩ := hrel
      by_cases hlt : j < es.length
      · have hlt' : (j : Int) < (es.length : Int) := by omega
        obtain ⟨q, hq⟩ : ∃ q, es[j]? = some q := ⟨es[j], List.getElem?_eq_getElem hlt⟩
        have hqL : L[j]? = some q := by
          have := congrArg (fun z => z[0]?) hLd
          simp only [List.getElem?_drop, Nat.add_zero] at this
          rw [this]
          exact hq
        obtain ⟨g', cap', hve, _, _, d0, d1, d2⟩ := hL.at hqL
        rw [hLl] at hve
        cases hve
        have bA : Below wr.heap.size wr (wr.alloc (.cells #[.string q.1, .int .i64 q.2.1, .int .i64 q.2.2] 83)) := (Below.refl _ _).alloc (Nat.le_refl _) _
        have VE := varE_new wr (.string q.1) (.int .i64 q.2.1) (.int .i64 q.2.2)
        have HC := others_any p q.1 t q.2.1 q.2.2 _ ((bA.cell (p := ⟨p, 0, none⟩) (World.block_lt_of_cell? _ _ hLc)).trans hLc)
        have hqs : q.1.size ≤ 9223372036854775807 := hL.2 q (List.mem_of_getElem? hqL)
        have HD1 : Hid (L.drop (j + 1) = es.drop (j + 1)) := by
          show L.drop (j + 1) = es.drop (j + 1)
          have := congrArg (List.drop 1) hLd
          rw [List.drop_drop, List.drop_drop] at this
          exact this
        have HT : Hid ((es.take (j + 1)).filter (keepT t) = (es.take j).filter (keepT t) ++ if nb q.1 = nb t then [q] else []) := take_keep hq
        have HTK : Hid (L.take i = (es.take j).filter (keepT t)) := hLt
        have HLL : Hid (L.length = es.length) := hLl
        obtain ⟨wo, rfl⟩ : ∃ x, x = wr := ⟨wr, rfl⟩
        clear hq hqL hLd hLt hLl
        by_cases hy : nb q.1 = nb t
        · have HY : Hid (nb q.1 = nb t) := hy
          rw [decide_eq_true hy] at HC
          clear hy
          go_wp2_with fail
          refine HC.mono ?_
          rintro e w2 ⟨rfl, b2⟩
          obtain ⟨e0, e1, e2⟩ := VE.below b2
          have b3 := bt bA b2
          have hL2 := hL.below b3
          have fr := fun j => owns_frozen hL2.1 (g := g) rfl j
          have f0 := fr (i * 3)
          have f1 := fr (i * 3 + 1)
          have f2 := fr (i * 3 + 2)
          obtain ⟨x, hx⟩ : ∃ x, L[i]? = some x := ⟨L[i]'(by have := HLL.out; omega), List.getElem?_eq_getElem _⟩
          obtain ⟨g9, cap9, hve9, _, _, y0, y1, y2⟩ := hL2.at hx
          have hg9 : g9 = g := by
            injection hve9 with h1 _ _
            injection h1 with h1
            injection h1 with h1 _ _
            exact h1.symm
          rw [hg9] at y0 y1 y2
          have hov := hL2.over (by rw [HLL.out]) (show i < es.length by omega) q hqs
          have HNX : DelS w (((w2.setCell ⟨g, i * 3, none⟩ (.string q.1)).setCell ⟨g, i * 3 + 1, none⟩ (.int .i64 q.2.1)).setCell ⟨g, i * 3 + 2, none⟩ (.int .i64 q.2.2)) N (.slice (some ⟨g, 0, none⟩) es.length C) es t p (i + 1) (j + 1) := by
            refine ⟨L.set i q, hov, by rw [List.length_set]; exact HLL.out, ?_, ?_, ?_, ?_⟩
            · rw [HT.out, if_pos HY.out, ← HTK.out, List.take_add_one, List.getElem?_set_self (by have := HLL.out; omega), List.take_set, List.set_eq_of_length_le (by rw [List.length_take]; omega)]
              rfl
            · rw [List.drop_set, if_pos (by omega)]
              exact HD1.out
            · exact (((hLb.trans (Off.of_below b3)).set (p := ⟨g, i * 3, none⟩) rfl _).set (p := ⟨g, i * 3 + 1, none⟩) rfl _).set (p := ⟨g, i * 3 + 2, none⟩) rfl _
            · have c9 := (b3.cell (p := ⟨p, 0, none⟩) (World.block_lt_of_cell? _ _ hLc)).trans hLc
              rw [World.cell?_setCell_other _ _ _ _ (fun e => hpg (congrArg Addr.block e)), World.cell?_setCell_other _ _ _ _ (fun e => hpg (congrArg Addr.block e)), World.cell?_setCell_other _ _ _ _ (fun e => hpg (congrArg Addr.block e))]
              exact c9
          have hil : (i : Int) < (es.length : Int) := by omega
          have hi3 : (i : Int) < (j : Int) := by omega
          clear HC VE hL hL2 hov hx hve9 fr hLb hLc bA b2 b3
          go_wp2_with fail
          exact ⟨⟨i + 1, j + 1, by omega, by omega, by go_num, by go_num, HNX⟩, by simp [intOf]; omega⟩
        · have HNX : Hid (∀ w2, Below wo.heap.size wo w2 → DelS w w2 N (.slice (some ⟨g, 0, none⟩) es.length C) es t p i (j + 1)) := fun w2 hb2 => by
            refine ⟨L, hL.below hb2, HLL.out, by rw [HT.out, if_neg hy, List.append_nil]; exact HTK.out, HD1.out, hLb.trans (Off.of_below hb2), (hb2.cell (p := ⟨p, 0, none⟩) (World.block_lt_of_cell? _ _ hLc)).trans hLc⟩
          rw [decide_eq_false hy] at HC
          clear hy
          go_wp2_with fail
          refine HC.mono ?_
          rintro e w2 ⟨rfl, b2⟩
          have HN2 := HNX.out w2 (bt bA b2)
          clear HC VE hL hLb hLc bA b2 HNX
          go_wp2_with fail
          exact ⟨⟨i, j + 1, by omega, by omega, rfl, by go_num, HN2⟩, by simp [intOf]; omega⟩
      · obtain rfl : j = es.length := by omega
        obtain ⟨w9, hcl9, hB9, hof9⟩ := clear_evs hL (by rw [hLl]) (show i < es.length from hij)
        have HO : Hid (DelO (.returned (.slice (some ⟨g, 0, none⟩) i C)) w w9 N (.slice (some ⟨g, 0, none⟩) es.length C) (es.filter (keepT t))) := by
          rw [List.take_length] at hLt
          rw [← hLt]
          exact ⟨_, rfl, hB9, hLb.trans (hof9.wider fun k hk => by rw [hk]; rfl)⟩
        have hci : ¬ C = i := by omega
        have hil : (i : Int) ≤ (es.length : Int) := by omega
        have hi1 : i ≤ es.length := by omega
        have hi2 : i ≤ C := by omega
        have hi3 : (i : Int) ≤ (C : Int) := by omega
        clear hL hLt hLd hLb hLc hB9 hof9 hLl
        go_wp2_with fail
        go_ret
        exact HO.out

end Go.Proofs.YtmcaejooaaahdaaGreat

namespace Go.Proofs.YtmcaejooaaahdaaGreat
open Go.RowKit

/-- What was appended to stands as it was. -/
theorem app_old {P : Program} (w : World) (base : Nat) (t ty e : TypeId) (i : TypeInfo) (z : Value) (size bytes : Nat) (ht : P.underlying t = some (.slice e)) (hi : P.info? e = some i) (hz : i.zero = some z)
    (hsize : i.size = size) (hby : i.bytes = bytes) (v : Value) (n : Nat) (xs : List Value) (hown : w.ownsRow base e size v n xs)
    (a : Addr) (m c : Nat) (news : List Value) (hl : news.length = m * size) (hnews : ∀ j u, news[j]? = some u → w.cell? (a.add j) = some u) (h1 : ∀ u ∈ news, u.oneCell' = true)
    (h63 : n + m ≤ maxLen) (hbytes : (n + m) * bytes ≤ 140737488355328)
    {v' : Value} {w' : World} (hr : (Builtin.append_ #[t, t] ty #[v, .slice (some a) m c]).run P w = .ok v' w') : w'.ownsRow base e size v n xs := by
  subst hsize
  subst hby
  have hsmall : n + m ≤ 9223372036854775807 := by simp only [maxLen] at h63; omega
  rcases hown.2 with ⟨rfl, rfl⟩ | ⟨g, cap, cur, rfl, hbg, hg, hnc, hcm, hcs, htake⟩
  · exact ⟨hown.1, .inl ⟨rfl, rfl⟩⟩
  · by_cases hroom : n + m ≤ cap
    · have hfit : n * i.size + news.length ≤ cur.size := by rw [hl, hcs, ← Nat.add_mul]; exact Nat.mul_le_mul_right _ hroom
      have hr2 := run_append_room (P := P) w t ty e i ht hi g n cap cur hg a m c news hl hnews h1 hroom hfit
      rw [hr] at hr2
      injection hr2 with e1 e2
      subst e2
      refine ⟨hown.1, .inr ⟨g, cap, _, rfl, hbg, setRow_heap w g cur _ e _ hg, hnc, hcm, ?_, ?_⟩⟩
      · simp only [List.size_toArray, List.length_append, List.length_take, List.length_drop, Array.length_toList]
        omega
      · rw [htake, List.append_assoc]
        have := hown.1
        rw [← this]
        exact List.take_left
    · have holds : ∀ j u, xs[j]? = some u → w.cell? ((⟨g, 0, none⟩ : Addr).add j) = some u := hown.cells (g := g) rfl
      have hr2 := run_append_grow (P := P) w t ty e i z ht hi hz ⟨g, 0, none⟩ n cap xs hown.1 holds a m c news hl hnews (by omega) (by omega) (growslice_fits (by omega) hbytes)
      rw [hr] at hr2
      injection hr2 with e1 e2
      subst e2
      have hlt := (hown.lt g rfl).2
      exact ⟨hown.1, .inr ⟨g, cap, cur, rfl, hbg, (heap_alloc_old w.drew _ hlt).trans hg, hnc, hcm, hcs, htake⟩⟩

section
variable {w w' : World} {N R D : Nat} {F F' E E' : Nat → Prop} {c : Sto.Cfg} {s s' : Sto.St} {V : Nat → Value} {U : Nat → List HeC} {vt vs va vt' vs' va' : Value} {tc tc' : List (Int × Sl)}
/-- Nothing but Tail's spare room has turned. -/
theorem StP.tailed (h : StP w N R F E c s D V U vt vs va tc) (ho : Off (fun k => vt.ownBlock = some k) w w') (hown : w'.ownsRow N 47 2 vt s.tail.length (tc.flatMap tbCells)) : StP w' N R F E c s D V U vt vs va tc := by
  have hT : ∀ k, vt.ownBlock = some k → TyB w k 47 := fun k q => owns_ty h.tail.own q
  have hkE : ∀ k, k < w.heap.size → E k → w'.heap[k]? = w.heap[k]? := fun k hk he => ho.block k hk fun q => (h.dis k he).1 (h.fT k q)
  refine ⟨h.var.off ho fun q => (hT _ q).ne h.var.ty (by decide) rfl, h.ge, h.dk.off ho fun k q => ⟨_, hT k q, by decide, by decide, by decide⟩, ⟨hown, h.tail.len, fun i x b hx hb => ⟨(h.tail.evs i x b hx hb).1, (h.tail.evs i x b hx hb).2.move hkE fun _ _ q => q⟩⟩, owns_off h.seen ho fun g hg q => (hT g q).ne (owns_ty h.seen hg) (by decide) rfl, h.acc.move hkE fun _ _ q => q, h.fR, h.fD, h.fV, h.fU, h.fT, h.fS, fun k hk => ⟨(h.lt k hk).1, Nat.lt_of_lt_of_le (h.lt k hk).2 ho.size⟩, fun k hk => ⟨(h.dis k hk).1, Nat.lt_of_lt_of_le (h.dis k hk).2 ho.size⟩, h.wf⟩
/-- The variable's cells have turned; the disks are as they were. -/
theorem StP.remake (h : StP w N R F E c s D V U vt vs va tc) (ho : Off (fun k => k = R) w w') (hd : s'.disks = s.disks) (hvar : VarN w' R 45 (stCells c D s'.disks.length s'.segs vt' vs' s'.u va'))
    (htl : TlAt w' N E' vt' tc' s'.tail) (hseen : w'.ownsRow N 3 1 vs' s'.seen.length (s'.seen.flatMap inCells)) (hacc : AccE w' E' va' s'.acc) (hF : ∀ k, F k → F' k) (hT : ∀ g, vt'.ownBlock = some g → F' g) (hS : ∀ g, vs'.ownBlock = some g → F' g)
    (hlt : ∀ k, F' k → N ≤ k ∧ k < w'.heap.size) (hdis : ∀ k, E' k → ¬ F' k ∧ k < w'.heap.size) (hwf : WfS c s') : StP w' N R F' E' c s' D V U vt' vs' va' tc' := by
  have hdk : DkAt w' N D V U s.disks := h.dk.off ho fun k q => ⟨45, by rw [show k = R from q]; exact h.var.ty, by decide, by decide, by decide⟩
  exact ⟨hvar, h.ge, by rw [hd]; exact hdk, htl, hseen, hacc, hF _ h.fR, hF _ h.fD, fun i g hi hg => hF _ (h.fV i g (by rw [← hd]; exact hi) hg), fun i x g hi hx hg => hF _ (h.fU i x g (by rw [← hd]; exact hi) hx hg), hT, hS, hlt, hdis, hwf⟩
end

/-! ### A batch behind Tail -/
/-- Behind Tail comes b; the store is as it was. -/
structure TailO (w0 w' : World) (N R : Nat) (F E : Nat → Prop) (c : Sto.Cfg) (s : Sto.St) (D : Nat) (V : Nat → Value) (U : Nat → List HeC) (vt vs va : Value) (tc : List (Int × Sl)) (b : Evt.Bat) (v' : Value) (E1 : Nat → Prop) (tc1 : List (Int × Sl)) : Prop where
  st : StP w' N R F E c s D V U vt vs va tc
  off : Off F w0 w'
  up : ∀ k, E k → E1 k
  new : ∀ k, E1 k → E k ∨ (w0.heap.size ≤ k ∧ TyB w' k 83)
  tl : TlAt w' N E1 v' tc1 (s.tail ++ [b])
  at' : ∀ g, v'.ownBlock = some g → F g ∨ w0.heap.size ≤ g
  elt : ∀ k, E k → k < w0.heap.size
  flt : ∀ k, F k → k < w0.heap.size
section
variable {w w0 : World} {N R D : Nat} {F E : Nat → Prop} {c : Sto.Cfg} {s : Sto.St} {V : Nat → Value} {U : Nat → List HeC} {vt vs va : Value} {tc : List (Int × Sl)}
theorem app_tl (h : StP w0 N R F E c s D V U vt vs va tc) (b0 : Below w0.heap.size w0 w) (b : Evt.Bat) {v3 : Value} {es : List EvC} (hE : EBuf w w0.heap.size v3 es) (hm : es.map evOf = b.evs) (hNw : N ≤ w0.heap.size) {p : Nat} (c0 : w.cell? ⟨p, 0, none⟩ = some (.int .i64 b.cmd)) (c1 : w.cell? ⟨p, 1, none⟩ = some v3) :
    ∃ v' w', (Builtin.append_ #[26, 26] 26 #[vt, .slice (some ⟨p, 0, none⟩) 1 1]).run Tryz.prog w = .ok v' w' ∧ ∃ E1 tc1, TailO w0 w' N R F E c s D V U vt vs va tc b v' E1 tc1 := by
  obtain ⟨i4, hi4, hh4⟩ := Option.map_eq_some_iff.1 Tryz.infoBatch
  simp only [Prod.mk.injEq] at hh4
  obtain ⟨hy0, hy1, hy2⟩ := hh4
  have hw := h.below b0
  obtain ⟨A3, C3, rfl⟩ := hE.shape
  have hN1 : ∀ j u, [Value.int .i64 b.cmd, .slice A3 es.length C3][j]? = some u → w.cell? ((⟨p, 0, none⟩ : Addr).add j) = some u := fun j u hj => by
    match j, hj with
    | 0, hj => cases hj; rw [WideShapes.add_plain]; exact c0
    | 1, hj => cases hj; rw [WideShapes.add_plain]; exact c1
  have hO1 : ∀ u ∈ [Value.int .i64 b.cmd, .slice A3 es.length C3], u.oneCell' = true := fun u hu => by
    simp only [List.mem_cons, List.not_mem_nil, or_false] at hu
    rcases hu with rfl | rfl <;> rfl
  have htl := hw.wf.tail
  have hb10 := hw.wf.b10
  obtain ⟨v', w', hrun, ho, hg, _, hat⟩ := run_append_own_at (P := Tryz.prog) w N 26 26 47 i4 _ 2 32 Tryz.underlying26 hi4 hy0 hy1 hy2 rfl (by decide) vt s.tail.length _ hw.tail.own ⟨p, 0, none⟩ 1 1 _ rfl hN1 hO1 (by unfold maxLen; omega) (by omega) (Nat.le_trans hNw b0.size)
  have hold := app_old (P := Tryz.prog) w N 26 26 47 i4 _ 2 32 Tryz.underlying26 hi4 hy0 hy1 hy2 vt s.tail.length _ hw.tail.own ⟨p, 0, none⟩ 1 1 _ rfl hN1 hO1 (by unfold maxLen; omega) (by omega) hrun
  have hof : Off (fun k => vt.ownBlock = some k) w w' := off_of_grown hg
  have hty : ∀ k, (Value.slice A3 es.length C3).ownBlock = some k → TyB w k 83 := fun k q => owns_ty hE.1 q
  have hE' : EBuf w' w0.heap.size (.slice A3 es.length C3) es := hE.off hof fun g hg q => (hty g hg).ne (owns_ty hw.tail.own q) (by decide) rfl
  have hkE : ∀ k, k < w.heap.size → E k → w'.heap[k]? = w.heap[k]? := fun k hk he => hof.block k hk fun q => (hw.dis k he).1 (hw.fT k q)
  refine ⟨v', w', hrun, fun k => E k ∨ (Value.slice A3 es.length C3).ownBlock = some k, tc ++ [(b.cmd, (A3, es.length, C3))], hw.tailed hof hold, (Off.of_below b0).trans (hof.wider fun k q => h.fT k q), fun _ q => Or.inl q, fun k q => ?_, ⟨?_, ?_, fun i x y hx hy => ?_⟩, fun g hg => ?_, fun k q => (h.dis k q).2, fun k q => (h.lt k q).2⟩
  · rcases q with q | q
    · exact Or.inl q
    · exact Or.inr ⟨(hE.1.lt k q).1, owns_ty hE'.1 q⟩
  · rw [List.length_append, List.flatMap_append]
    exact ho
  · rw [List.length_append, List.length_append, hw.tail.len]
    rfl
  · have htcl := hw.tail.len
    by_cases hi : i < tc.length
    · rw [List.getElem?_append_left hi] at hx
      rw [List.getElem?_append_left (by omega)] at hy
      exact ⟨(hw.tail.evs i x y hx hy).1, (hw.tail.evs i x y hx hy).2.move hkE fun _ _ q => Or.inl q⟩
    · have hil := (List.getElem?_eq_some_iff.1 hx).1
      rw [List.length_append] at hil
      have hil : i < tc.length + 1 := hil
      obtain rfl : i = tc.length := by omega
      rw [List.getElem?_append_right (Nat.le_refl _), Nat.sub_self] at hx
      rw [List.getElem?_append_right (by omega), show tc.length - s.tail.length = 0 by omega] at hy
      cases hx
      cases hy
      exact ⟨rfl, by rw [← hm]; exact hE'.evs, fun g hg _ => Or.inr hg⟩
  · rcases hat with z | z
    · rw [z] at hg
      exact Or.inl (h.fT g hg)
    · rw [z] at hg
      cases hg
      exact Or.inr b0.size
end
/-- The append, inside a statement that leaves its order open. -/
theorem app_tlo {ops : Array Oper} {o : Oper} {a : Act} {w w' : World} {K : Act → World → Prop} {Q : Exit → Act → World → Prop} {E : Prop}
    (hg : o.guard = none) (s x : Operand) (hop : o.op = Op.call { callee := Callee.builtin Builtin.append, args := #[s, x], argTypes := #[26, 26] }) (hty : o.type = 26)
    {v u v' : Value} (hs : a.eval s = v) (hx : a.eval x = u) (hr : (Builtin.append_ #[26, 26] 26 #[v, u]).run Tryz.prog w = .ok v' w') (hK : K (a.put o.dst v') w') :
    if Region.wanted o (yielded ops a.tmps) = true then Oper.wp Tryz.prog o a w K Q else E := by
  have hw : Region.wanted o (yielded ops a.tmps) = true := by simp [Region.wanted, hg]
  rw [if_pos hw]
  unfold Oper.wp execOp
  simp only [hop, hty, resolve, invoke, builtin, Sem.run_bind, Sem.run_pure, Result.andThen_ok, List.map_toArray, List.map_cons, List.map_nil, hs, hx, hr]
  exact hK

end Go.Proofs.YtmcaejooaaahdaaGreat

namespace Go.Proofs.YtmcaejooaaahdaaGreat
open Go.ChangeShapes Go.WideShapes Go.ChangeAt Go.RowKit

theorem str_of {H : Type} {enc : TypeId × Value → H} {W : World} {base : Nat} {sp : Nat → Bool} {hd : Bool} {v : Value} {y : DataW H × List MemPlace} {fuel : Nat} (h : DataW.trod enc Tryz.prog W base sp hd fuel 9 [v] = some y) : ∃ s : ByteArray, v = .string s ∧ s.size ≤ maxLen := by
  obtain ⟨s, e, _, hs⟩ := DataW.trod_string Tryz.underlying9 h
  simp only [List.cons.injEq, and_true] at e
  exact ⟨s, e, hs⟩
theorem int_of {H : Type} {enc : TypeId × Value → H} {W : World} {base : Nat} {sp : Nat → Bool} {hd : Bool} {v : Value} {y : DataW H × List MemPlace} {fuel : Nat} (h : DataW.trod enc Tryz.prog W base sp hd fuel 3 [v] = some y) : ∃ n, v = .int .i64 n := by
  obtain ⟨n, e, _, _⟩ := DataW.trod_int Tryz.underlying3 h
  simp only [List.cons.injEq, and_true] at e
  exact ⟨n, e⟩

set_option maxRecDepth 100000 in
theorem evs_in {H : Type} {enc : TypeId × Value → H} {W : World} {v : Value} {y : DataW H × List MemPlace} {fuel : Nat} (hf : DataW.trod enc Tryz.prog W 0 (fun _ => true) true fuel 40 [v] = some y) : ∃ es, Evs W v es := by
  have ce : Tryz.prog.cellsOf 83 = 3 := by kernel_rfl
  rcases Deep.open_slice Tryz.underlying40 hf with ⟨hcs, _⟩ | ⟨a, len, cap, m, n, D, Pl, hcs, _, hl, hm, hmm, _, hx⟩
  · simp only [List.cons.injEq, and_true] at hcs
    subst hcs
    exact ⟨[], none, 0, rfl, Nat.le_refl _, Nat.zero_le _, fun i e he => by cases he⟩
  · simp only [List.cons.injEq, and_true] at hcs
    subst hcs
    simp only [if_true] at hmm
    subst hmm
    have each : ∀ i, i < m → ∃ q : ByteArray × Int × Int, q.1.size ≤ maxLen ∧ W.cell? (a.add (i * 3)) = some (.string q.1) ∧ W.cell? (a.add (i * 3 + 1)) = some (.int .i64 q.2.1) ∧ W.cell? (a.add (i * 3 + 2)) = some (.int .i64 q.2.2) := by
      intro i hi
      obtain ⟨cs', h1, h2⟩ := hx i hi
      rw [ce] at h1
      obtain ⟨_, hlen, hcell⟩ := World.cells?_some h1
      obtain ⟨y0, y1, y2, k, _, _, g0, g1, g2⟩ := Deep.trod_struct3 Tryz.underlying83 h2
      match cs', hlen with
      | [v0, v1, v2], _ =>
        have e0 := hcell 0 (by omega)
        have e1 := hcell 1 (by omega)
        have e2 := hcell 2 (by omega)
        rw [Deep.add_add] at e0 e1 e2
        have c3 : Tryz.prog.cellsOf 3 = 1 := by kernel_rfl
        have c9 : Tryz.prog.cellsOf 9 = 1 := by kernel_rfl
        simp [c3, c9] at g0 g1 g2
        obtain ⟨s, rfl, hs⟩ := str_of g0
        obtain ⟨k1, rfl⟩ := int_of g1
        obtain ⟨k2, rfl⟩ := int_of g2
        exact ⟨(s, k1, k2), hs, by simpa using e0, by simpa using e1, by simpa using e2⟩
    obtain ⟨q, hq⟩ := Deep.choose_lt each
    refine ⟨(List.range len).map fun i => ⟨nb (q i).1, (q i).2.1, (q i).2.2⟩, some a, m, by simp, by simpa using hl, hm, fun i e he => ?_⟩
    have hi : i < len := by
      have := (List.getElem?_eq_some_iff.1 he).1
      simpa using this
    simp [hi] at he
    subst he
    obtain ⟨b, o, spot⟩ := a
    obtain ⟨z0, z1, z2, z3⟩ := hq i (by omega)
    have hspot : spot = none := by simpa [Addr.add] using World.cell?_spot (hq 0 (by omega)).2.1
    subst hspot
    rw [WideShapes.add_plain] at z1 z2 z3
    exact ⟨b, o, rfl, (q i).1, z0, rfl, z1, z2, z3⟩

end Go.Proofs.YtmcaejooaaahdaaGreat
