/-
  What the statements' own hurt does: blocks that are gone, or have a byte turned, and which ones.
-/
import Derived.Test.YtmlboaejkmffjadTRot
import Derived.Maps.OwnSet
import Derived.Maps.Views
import Derived.Deep.SlicePairs
import Derived.Deep.Strs
namespace Go.Proofs.Ytmlboaejkmffjad
open Go.ChangeShapes Go.WideShapes Go.ChangeAt Go.RowKit Go.Maps

/-! ### Harms that came in -/
/-- A list of harms: n of them. -/
structure Harms (w : World) (v : Value) (n : Nat) (X : Nat → Int × Int × Nat) : Prop where
  bd : ∀ i, (X i).2.2 < 256
  lies : ∃ (A : Option Addr) (cap : Nat), v = .slice A n cap ∧ n ≤ cap ∧ cap ≤ maxLen ∧ ∀ i, i < n → ∃ b o, A = some ⟨b, o, none⟩ ∧ w.cell? ⟨b, o + i * 3, none⟩ = some (.int .i64 (X i).1) ∧ w.cell? ⟨b, o + (i * 3 + 1), none⟩ = some (.int .i64 (X i).2.1) ∧ w.cell? ⟨b, o + (i * 3 + 2), none⟩ = some (.int .u8 ((X i).2.2 : Nat))
theorem Harms.shape {w : World} {v : Value} {n : Nat} {X : Nat → Int × Int × Nat} (h : Harms w v n X) : ∃ A C, v = .slice A n C := by
  obtain ⟨A, C, hv, _⟩ := h.lies
  exact ⟨A, C, hv⟩
theorem Harms.len {w : World} {v : Value} {n : Nat} {X : Nat → Int × Int × Nat} (h : Harms w v n X) : n ≤ 9223372036854775807 := by
  obtain ⟨A, C, _, h1, h2, _⟩ := h.lies
  unfold maxLen at h2
  omega
theorem Harms.below {w w' : World} {v : Value} {n : Nat} {X : Nat → Int × Int × Nat} (h : Harms w v n X) (hb : Below w.heap.size w w') : Harms w' v n X := by
  obtain ⟨A, C, hv, h1, h2, hc⟩ := h.lies
  refine ⟨h.bd, A, C, hv, h1, h2, fun i hi => ?_⟩
  obtain ⟨b, o, e, c0, c1, c2⟩ := hc i hi
  exact ⟨b, o, e, (hb.cell (p := ⟨b, o + i * 3, none⟩) (World.block_lt_of_cell? _ _ c0)).trans c0, (hb.cell (p := ⟨b, o + (i * 3 + 1), none⟩) (World.block_lt_of_cell? _ _ c1)).trans c1, (hb.cell (p := ⟨b, o + (i * 3 + 2), none⟩) (World.block_lt_of_cell? _ _ c2)).trans c2⟩
theorem intI_of {H : Type} {enc : TypeId × Value → H} {W : World} {base : Nat} {sp : Nat → Bool} {hd : Bool} {v : Value} {y : DataW H × List MemPlace} {fuel : Nat} (h : DataW.trod enc Try.prog W base sp hd fuel 3 [v] = some y) : ∃ n, v = .int .i64 n := by
  obtain ⟨n, e, _, _⟩ := DataW.trod_int Try.underlying3 h
  simp only [List.cons.injEq, and_true] at e
  exact ⟨n, e⟩
theorem byteI_of {H : Type} {enc : TypeId × Value → H} {W : World} {base : Nat} {sp : Nat → Bool} {hd : Bool} {v : Value} {y : DataW H × List MemPlace} {fuel : Nat} (h : DataW.trod enc Try.prog W base sp hd fuel 5 [v] = some y) : ∃ n : Nat, n < 256 ∧ v = .int .u8 (n : Int) := by
  obtain ⟨n, e, _, hw⟩ := DataW.trod_int Try.underlying5 h
  simp only [List.cons.injEq, and_true] at e
  obtain ⟨b0, b1⟩ := bounds_u8 hw
  exact ⟨n.toNat, by omega, by rw [e, Int.toNat_of_nonneg b0]⟩
set_option maxRecDepth 100000 in
theorem harms_in {H : Type} {enc : TypeId × Value → H} {W : World} {v : Value} {y : DataW H × List MemPlace} {fuel : Nat} (hf : DataW.trod enc Try.prog W 0 (fun _ => true) true fuel 53 [v] = some y) : ∃ n X, Harms W v n X := by
  have ce : Try.prog.cellsOf 87 = 3 := by kernel_rfl
  rcases Deep.open_slice Try.underlying53 hf with ⟨hcs, _⟩ | ⟨a, len, cap, m, n, D, Pl, hcs, _, hl, hm, hmm, _, hx⟩
  · simp only [List.cons.injEq, and_true] at hcs
    subst hcs
    exact ⟨0, fun _ => (0, 0, 0), fun _ => by decide, none, 0, rfl, Nat.le_refl _, Nat.zero_le _, fun i hi => absurd hi (Nat.not_lt_zero i)⟩
  · simp only [List.cons.injEq, and_true] at hcs
    subst hcs
    simp only [if_true] at hmm
    subst hmm
    have each : ∀ i, i < m → ∃ q : Int × Int × Nat, q.2.2 < 256 ∧ W.cell? (a.add (i * 3)) = some (.int .i64 q.1) ∧ W.cell? (a.add (i * 3 + 1)) = some (.int .i64 q.2.1) ∧ W.cell? (a.add (i * 3 + 2)) = some (.int .u8 (q.2.2 : Nat)) := by
      intro i hi
      obtain ⟨cs', h1, h2⟩ := hx i hi
      rw [ce] at h1
      obtain ⟨_, hlen, hcell⟩ := World.cells?_some h1
      obtain ⟨y0, y1, y2, k, _, _, g0, g1, g2⟩ := Deep.trod_struct3 Try.underlying87 h2
      match cs', hlen with
      | [v0, v1, v2], _ =>
        have e0 := hcell 0 (by omega)
        have e1 := hcell 1 (by omega)
        have e2 := hcell 2 (by omega)
        rw [Deep.add_add] at e0 e1 e2
        have c3 : Try.prog.cellsOf 3 = 1 := by kernel_rfl
        have c9 : Try.prog.cellsOf 5 = 1 := by kernel_rfl
        simp [c3, c9] at g0 g1 g2
        obtain ⟨k0, rfl⟩ := intI_of g0
        obtain ⟨k1, rfl⟩ := intI_of g1
        obtain ⟨k2, hk, rfl⟩ := byteI_of g2
        exact ⟨(k0, k1, k2), hk, by simpa using e0, by simpa using e1, by simpa using e2⟩
    obtain ⟨q, hq⟩ := Deep.choose_lt each
    refine ⟨len, fun i => if i < len then q i else (0, 0, 0), fun i => ?_, some a, m, rfl, hl, hm, fun i hi => ?_⟩
    · by_cases e : i < len
      · simp only [if_pos e]
        exact (hq i (by omega)).1
      · simp only [if_neg e]
        decide
    · obtain ⟨b, o, spot⟩ := a
      obtain ⟨z0, z1, z2, z3⟩ := hq i (by omega)
      have hspot : spot = none := by simpa [Addr.add] using World.cell?_spot (hq 0 (by omega)).2.1
      subst hspot
      rw [WideShapes.add_plain] at z1 z2 z3
      simp only [if_pos hi]
      exact ⟨b, o, rfl, z1, z2, z3⟩
theorem harms_of {H : Type} {enc : TypeId × Value → H} {W : World} {a : Option Addr} {len cap : Nat} {d : DataW H} {ps : List MemPlace} (h : DataW.Trod enc Try.prog W 0 (fun _ => true) true 53 (.slice a len cap) d ps) : ∃ X, Harms W (.slice a len cap) len X := by
  obtain ⟨fuel, hf⟩ := h
  obtain ⟨n, X, hh⟩ := harms_in (fuel := fuel) (y := (d, ps)) (by simpa [Value.cells] using hf)
  obtain ⟨A, C, e⟩ := hh.shape
  cases e
  exact ⟨X, hh⟩

/-! ### Which ones: a map, as a set -/
theorem hKeyed : Keyed Try.prog 3 := int_keyed Try.underlying3
theorem Try.hZeroBool (w : World) : (zeroValue 4).run Try.prog w = .ok (.bool false) w := by kernel_rfl
theorem Try.hMapIntBool : Try.prog.underlying 54 = some (.map 3 4) := by kernel_rfl
/-- Block b is a map whose keys, of the numbers below N, are those that M strikes; it has no others. -/
def Hd (w : World) (b m N : Nat) (M : Nat → Bool) : Prop := ∃ D : DataW Unit, w.ownsMap Try.prog 3 (plainElem Try.prog 4) b m D ∧ Tidy D ∧ (∀ j : Nat, j < N → Maps.has D (.int .i64 (j : Int)) = M j) ∧ (∀ j : Nat, j < N → D.atKey (.int .i64 (j : Int)) (.lit (.bool false)) = .lit (.bool (M j))) ∧ Maps.size D = cnt M N
set_option maxRecDepth 100000 in
theorem plainB_inv {v : Value} {z : DataW Unit × List MemPlace} (h : plainElem Try.prog 4 v = some z) : ∃ x, v = .bool x ∧ z = (.lit (.bool x), []) := by
  unfold plainElem at h
  rw [Try.underlying4] at h
  cases v <;> simp at h
  subst h
  exact ⟨_, rfl, rfl⟩
theorem hKey (j : Nat) (h : j < 1000) : keyOf Try.prog 3 (.int .i64 (j : Int)) = some (.int .i64 (j : Int)) := keyOf_int_mk Try.underlying3 (WalkArith.wf_i64 (by omega))
theorem hd_start (w : World) (N : Nat) : Hd (w.alloc (.map #[] 0)) w.heap.size 0 N (fun _ => false) := ⟨.map [], World.ownsMap_made _ _ _ _, tidy_empty, fun j _ => rfl, fun j _ => by simp; rfl, by rw [cnt_none]; rfl⟩
theorem Hd.look {w : World} {b m N : Nat} {M : Nat → Bool} (h : Hd w b m N M) (k : Nat) (hk : k < N) (hN : N ≤ 1000) : (Instr.lookup 54 (.map (some b)) (.int .i64 (k : Int)) false).run Try.prog w = .ok (.bool (M k)) w := by
  obtain ⟨D, hown, _, _, hat, _⟩ := h
  obtain ⟨v, ps, hrun, hv⟩ := hown.lookup hKeyed Try.hMapIntBool (Try.hZeroBool w) (plainElem_bool Try.underlying4 false) (hKey k (by omega))
  obtain ⟨x, rfl, hz⟩ := plainB_inv hv
  rw [hat k hk] at hz
  simp at hz
  rw [hrun, hz.1]
theorem Hd.len {w : World} {b m N : Nat} {M : Nat → Bool} (h : Hd w b m N M) (ty : TypeId) : (Builtin.len_ #[54] ty #[.map (some b)]).run Try.prog w = .ok (.int .i64 (cnt M N : Nat)) w := by
  obtain ⟨D, hown, _, _, _, hs⟩ := h
  rw [← hs]
  exact hown.len Try.hMapIntBool ty
theorem Hd.kept {w w' : World} {b m N : Nat} {M : Nat → Bool} {row : Option Nat} (h : Hd w b m N M) (hg : w.grownBy w' row) (hne : some b ≠ row) : Hd w' b m N M := by
  obtain ⟨D, hown, hr⟩ := h
  exact ⟨D, hown.kept hg hne, hr⟩
theorem Hd.below {w w' : World} {b m N : Nat} {M : Nat → Bool} (h : Hd w b m N M) (hb : Below w.heap.size w w') : Hd w' b m N M := by
  obtain ⟨D, ⟨es, clock, e, r⟩, hr⟩ := h
  refine ⟨D, ⟨es, clock, (hb.block b ?_).trans e, r⟩, hr⟩
  exact (Array.getElem?_eq_some_iff.1 e).1
theorem Hd.lt {w : World} {b m N : Nat} {M : Nat → Bool} (h : Hd w b m N M) : b < w.heap.size := by
  obtain ⟨D, hown, _⟩ := h
  exact hown.lt
theorem Hd.ne {w : World} {b m N g n : Nat} {t : TypeId} {F : Nat → Value} {M : Nat → Bool} (h : Hd w b m N M) (hr : RowC w g t n F) : g ≠ b := fun e => by
  subst e
  obtain ⟨D, ⟨es, clock, hb, _⟩, _⟩ := h
  obtain ⟨m', F', ⟨c, hc, _⟩, _⟩ := hr
  rw [hb] at hc
  cases hc
/-- One more is struck. -/
theorem Hd.put {w' : World} {b m N k : Nat} {M : Nat → Bool} {D : DataW Unit} (hT : Tidy D) (hh : ∀ j : Nat, j < N → Maps.has D (.int .i64 (j : Int)) = M j) (hat : ∀ j : Nat, j < N → D.atKey (.int .i64 (j : Int)) (.lit (.bool false)) = .lit (.bool (M j))) (hs : Maps.size D = cnt M N)
    (hk : k < N) (hM : M k = false) (h : w'.ownsMap Try.prog 3 (plainElem Try.prog 4) b m (D.put (.int .i64 (k : Int)) (.lit (.bool true)))) : Hd w' b m N (lose k M) := by
  refine ⟨_, h, hT.put (k := .int .i64 (k : Int)) trivial _, fun j hj => ?_, fun j hj => ?_, ?_⟩
  · by_cases e : j = k
    · subst e
      rw [has_put_same (k := .int .i64 (j : Int)) hT.isMap trivial, show lose j M j = true from if_pos rfl]
    · rw [has_put_other (fun q => by simp at q; omega), hh j hj, show lose k M j = M j from if_neg e]
  · by_cases e : j = k
    · subst e
      rw [atKey_put_same (k := .int .i64 (j : Int)) hT.isMap trivial, show lose j M j = true from if_pos rfl]
    · rw [atKey_put_other (fun q => by simp at q; omega), hat j hj, show lose k M j = M j from if_neg e]
  · rw [size_put hT, hh k hk, hM, hs, cnt_lose hM N hk]
    rfl

end Go.Proofs.Ytmlboaejkmffjad
