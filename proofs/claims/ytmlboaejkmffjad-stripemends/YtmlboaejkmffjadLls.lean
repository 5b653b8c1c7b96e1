/-
  Lists of lists of bytes, each as long as it is: those that came in, those that a call makes.
-/
import Derived.Test.YtmlboaejkmffjadRowC
namespace Go.Proofs.Ytmlboaejkmffjad
open Go.ChangeShapes Go.WideShapes Go.ChangeAt Go.RowKit

/-- n lists of bytes, list r of L r bytes. -/
structure Lls (w : World) (v : Value) (n : Nat) (L : Nat → Nat) (f : Nat → Nat → Nat) : Prop where
  bd : Gf.Bd2 f
  lies : ∃ (A : Option Addr) (cap : Nat), v = .slice A n cap ∧ n ≤ cap ∧ cap ≤ maxLen ∧ ∀ r, r < n → ∃ b o u, A = some ⟨b, o, none⟩ ∧ w.cell? ⟨b, o + r, none⟩ = some u ∧ Byts w u (L r) (f r)
theorem Lls.below {w w' : World} {v : Value} {n : Nat} {L : Nat → Nat} {f : Nat → Nat → Nat} (h : Lls w v n L f) (hb : Below w.heap.size w w') : Lls w' v n L f := by
  obtain ⟨A, cap, hv, h1, h2, hr⟩ := h.lies
  refine ⟨h.bd, A, cap, hv, h1, h2, fun r hrn => ?_⟩
  obtain ⟨b, o, u, e1, e2, e3⟩ := hr r hrn
  exact ⟨b, o, u, e1, (hb.cell (p := ⟨b, o + r, none⟩) (World.block_lt_of_cell? _ _ e2)).trans e2, e3.below hb⟩
theorem Lls.shape {w : World} {v : Value} {n : Nat} {L : Nat → Nat} {f : Nat → Nat → Nat} (h : Lls w v n L f) : ∃ A C, v = .slice A n C := by
  obtain ⟨A, C, hv, _⟩ := h.lies
  exact ⟨A, C, hv⟩
theorem Lls.len {w : World} {v : Value} {n : Nat} {L : Nat → Nat} {f : Nat → Nat → Nat} (h : Lls w v n L f) : n ≤ 9223372036854775807 := by
  obtain ⟨A, C, _, h1, h2, _⟩ := h.lies
  unfold maxLen at h2
  omega
theorem Lls.nil (w : World) (L : Nat → Nat) : Lls w (.slice none 0 0) 0 L (fun _ _ => 0) := ⟨fun _ _ => Nat.zero_lt_succ 255, none, 0, rfl, Nat.le_refl _, Nat.zero_le _, fun r hr => absurd hr (Nat.not_lt_zero r)⟩
/-- List r, where it lies. -/
theorem Lls.at {w : World} {A : Option Addr} {n C : Nat} {L : Nat → Nat} {f : Nat → Nat → Nat} (h : Lls w (.slice A n C) n L f) {r : Nat} (hr : r < n) : ∃ b o R K, A = Option.some ⟨b, o, Option.none⟩ ∧ w.cell? ⟨b, o + r, Option.none⟩ = Option.some (.slice R (L r) K) ∧ Byts w (.slice R (L r) K) (L r) (f r) := by
  obtain ⟨A', C', hv, _, _, hc⟩ := h.lies
  cases hv
  obtain ⟨b, o, u, e1, e2, e3⟩ := hc r hr
  obtain ⟨R, K, rfl⟩ : ∃ R K, u = .slice R (L r) K := by
    obtain ⟨_, R, K, hv, _⟩ := e3
    exact ⟨R, K, hv⟩
  exact ⟨b, o, R, K, e1, e2, e3⟩
theorem Lls.arg {w : World} {v : Value} {n : Nat} {L : Nat → Nat} {f : Nat → Nat → Nat} (h : Lls w v n L f) : Arg w v n L f := by
  obtain ⟨A, C, rfl⟩ := h.shape
  have each : ∀ r, r < n → ∃ q : Option Addr × Nat, ∃ b o, A = some ⟨b, o, none⟩ ∧ w.cell? ⟨b, o + r, none⟩ = some (.slice q.1 (L r) q.2) ∧ Byts w (.slice q.1 (L r) q.2) (L r) (f r) := fun r hr => by
    obtain ⟨b, o, R, K, e1, e2, e3⟩ := h.at hr
    exact ⟨(R, K), b, o, e1, e2, e3⟩
  obtain ⟨q, hq⟩ := Deep.choose_lt each
  refine ⟨h.bd, A, C, fun r => (q r).1, fun r => (q r).2, rfl, fun r hr => ?_⟩
  obtain ⟨b, o, e1, e2, e3⟩ := hq r hr
  refine ⟨b, o, e1, e2, fun k hk => ?_⟩
  obtain ⟨_, A', C', hv, _, _, hc⟩ := e3
  cases hv
  exact hc k hk

/-- Lists of lists that came in. -/
theorem lls_of {H : Type} {enc : TypeId × Value → H} {W : World} {a : Option Addr} {len cap : Nat} {d : DataW H} {ps : List MemPlace} (h : DataW.Trod enc Try.prog W 0 (fun _ => true) true 43 (.slice a len cap) d ps) : ∃ L f, Lls W (.slice a len cap) len L f := by
  obtain ⟨fuel, hf⟩ := h
  rcases Deep.open_int_rows Try.underlying43 Try.underlying25 Try.underlying5 (by kernel_rfl) (by kernel_rfl) hf with ⟨hcs, _⟩ | ⟨x, l, c, A, L, C, Z, hcs, _, hl, hlm, _, hrow⟩
  · simp [Value.cells] at hcs
    obtain ⟨rfl, rfl, rfl⟩ := hcs
    exact ⟨fun _ => 0, _, Lls.nil W _⟩
  · simp [Value.cells] at hcs
    obtain ⟨rfl, rfl, rfl⟩ := hcs
    have hz : ∀ r, r < cap → ∀ k, k < C r → ∃ m : Nat, m < 256 ∧ (Z r).getD k 0 = (m : Int) := fun r hr k hk => by
      obtain ⟨_, _, _, z4, z5, _, _⟩ := hrow r hr
      have hm : (Z r).getD k 0 ∈ Z r := by
        have : k < (Z r).length := by omega
        simp [List.getD, this]
      obtain ⟨b0, b1⟩ := bounds_u8 (z5 _ hm)
      exact ⟨((Z r).getD k 0).toNat, by omega, by omega⟩
    have hbd : Gf.Bd2 (fun r k => if r < cap ∧ k < C r then ((Z r).getD k 0).toNat else 0) := fun r k => by
      show (if r < cap ∧ k < C r then ((Z r).getD k 0).toNat else 0) < 256
      split
      · rename_i h
        obtain ⟨m, hm, e⟩ := hz r h.1 k h.2
        rw [e]
        omega
      · omega
    refine ⟨L, fun r k => if r < cap ∧ k < C r then ((Z r).getD k 0).toNat else 0, hbd, some x, cap, rfl, hl, hlm, fun r hr => ?_⟩
    obtain ⟨z1, z2, z3, _, _, _, z7⟩ := hrow r (by omega)
    obtain ⟨b, o, spot⟩ := x
    have hspot : spot = none := by simpa [Addr.add] using World.cell?_spot (hrow 0 (by omega)).1
    subst hspot
    refine ⟨b, o, .slice (A r) (L r) (C r), rfl, ?_, ⟨hbd r, A r, C r, rfl, z2, z3, fun k hk => ?_⟩⟩
    · rw [← WideShapes.add_plain]
      exact z1
    · cases hA : A r with
      | none =>
        have := (hrow r (by omega)).2.2.2.2.2.1 hA
        omega
      | some y =>
        obtain ⟨_, y2⟩ := z7 y hA
        obtain ⟨b', o', sp⟩ := y
        have hs : sp = none := by simpa [Addr.add] using World.cell?_spot (y2 0 (by omega))
        subst hs
        refine ⟨b', o', rfl, ?_⟩
        rw [← WideShapes.add_plain, y2 k (by omega)]
        obtain ⟨m, _, e⟩ := hz r (by omega) k (by omega)
        rw [if_pos ⟨by omega, by omega⟩, e]
        rfl

end Go.Proofs.Ytmlboaejkmffjad
