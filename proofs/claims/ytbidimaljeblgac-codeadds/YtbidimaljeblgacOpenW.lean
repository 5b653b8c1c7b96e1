/-
  A list of lists of bytes that came in, and how many bytes it takes at most.
-/
import Derived.Test.YtbidimaljeblgacOpen
import Derived.SizedLaws
namespace Go.Proofs.Ytbidimaljeblgac
open Go.ChangeShapes Go.WideShapes Go.ChangeAt Go.RowKit Go.Deep

theorem weights_in {H : Type} {P : Program} {e : TypeId} : ∀ {l : List (DataW H)} {d : DataW H}, d ∈ l → ∀ n, n ∈ d.weights P e → n ∈ DataW.weightsAll P e l
  | [], _, h, _, _ => by cases h
  | x :: l, d, h, n, hn => by
    simp only [DataW.weightsAll, List.mem_append]
    rcases List.mem_cons.1 h with rfl | h
    · exact Or.inl hn
    · exact Or.inr (weights_in h n hn)
theorem Try.bytesRow : Try.prog.bytesOf 24 = 24 := by kernel_rfl
theorem Try.bytesByte : Try.prog.bytesOf 5 = 1 := by kernel_rfl

theorem argW_of {H : Type} {enc : TypeId × Value → H} {W : World} {a : Option Addr} {len cap : Nat} {d : DataW H} {ps : List MemPlace} (h : DataW.Trod enc Try.prog W 0 (fun _ => true) true 22 (.slice a len cap) d ps) (hw : ∀ x, x ∈ d.weights Try.prog 22 → x ≤ reachBytes) :
    ∃ L f, Arg W (.slice a len cap) len L f ∧ len * 24 ≤ reachBytes ∧ ∀ r, r < len → L r ≤ reachBytes := by
  obtain ⟨fuel, hf⟩ := h
  rcases Deep.open_int_rows Try.underlying22 Try.underlying24 Try.underlying5 (by kernel_rfl) (by kernel_rfl) hf with ⟨hcs, _⟩ | ⟨x, l, c, A, L, C, Z, hcs, _, hl, hlm, hx, hrow⟩
  · simp [Value.cells] at hcs
    obtain ⟨rfl, rfl, rfl⟩ := hcs
    exact ⟨fun _ => 0, fun _ _ => 0, ⟨fun _ _ => Nat.zero_lt_succ 255, none, 0, fun _ => none, fun _ => 0, rfl, fun r hr => absurd hr (Nat.not_lt_zero r)⟩, Nat.zero_le _, fun r hr => absurd hr (Nat.not_lt_zero r)⟩
  · simp [Value.cells] at hcs
    obtain ⟨rfl, rfl, rfl⟩ := hcs
    simp only [Prod.mk.injEq] at hx
    obtain ⟨rfl, _⟩ := hx
    have hwl : len * 24 ≤ reachBytes := by
      have h5 := hw ((len + (cap - len)) * Try.prog.bytesOf 24) (by simp [DataW.weights, Try.underlying22])
      rw [Try.bytesRow] at h5
      omega
    have hwr : ∀ r, r < len → L r ≤ reachBytes := fun r hr => by
      obtain ⟨_, z2, _, z4, _, z6, _⟩ := hrow r (by omega)
      cases hA : A r with
      | none =>
        have := z6 hA
        omega
      | some y =>
        have h5 := hw (((lits (H := H) .u8 ((Z r).take (L r))).length + (lits (H := H) .u8 ((Z r).drop (L r))).length) * Try.prog.bytesOf 5) (by
          have h6 : intRow (H := H) .u8 (A r) (L r) (Z r) ∈ (List.range len).map fun r => intRow (H := H) .u8 (A r) (L r) (Z r) := List.mem_map.2 ⟨r, List.mem_range.2 hr, rfl⟩
          have h7 := weights_in (P := Try.prog) (e := 24) h6 (((lits (H := H) .u8 ((Z r).take (L r))).length + (lits (H := H) .u8 ((Z r).drop (L r))).length) * Try.prog.bytesOf 5) (by rw [hA]; simp [intRow, DataW.weights, Try.underlying24])
          simp only [DataW.weights, Try.underlying22]
          exact List.mem_cons_of_mem _ (List.mem_append_left _ h7))
        rw [Try.bytesByte] at h5
        simp [lits] at h5
        omega
    have hz : ∀ r, r < cap → ∀ k, k < C r → ∃ m : Nat, m < 256 ∧ (Z r).getD k 0 = (m : Int) := fun r hr k hk => by
      obtain ⟨_, _, _, z4, z5, _, _⟩ := hrow r hr
      have hm : (Z r).getD k 0 ∈ Z r := by
        have : k < (Z r).length := by omega
        simp [List.getD, this]
      obtain ⟨b0, b1⟩ := bounds_u8 (z5 _ hm)
      exact ⟨((Z r).getD k 0).toNat, by omega, by omega⟩
    refine ⟨L, fun r k => if r < cap ∧ k < C r then ((Z r).getD k 0).toNat else 0, ⟨fun r k => ?_, some x, cap, A, C, rfl, fun r hr => ?_⟩, hwl, hwr⟩
    · show (if r < cap ∧ k < C r then ((Z r).getD k 0).toNat else 0) < 256
      split
      · rename_i h
        obtain ⟨m, hm, e⟩ := hz r h.1 k h.2
        rw [e]
        omega
      · omega
    · obtain ⟨z1, z2, _, _, _, _, z7⟩ := hrow r (by omega)
      obtain ⟨b, o, spot⟩ := x
      have hspot : spot = none := by simpa [Addr.add] using World.cell?_spot (hrow 0 (by omega)).1
      subst hspot
      refine ⟨b, o, rfl, ?_, fun k hk => ?_⟩
      · rw [← WideShapes.add_plain]
        exact z1
      · cases hA : A r with
        | none =>
          have := (hrow r (by omega)).2.2.2.2.2.1 hA
          omega
        | some y =>
          obtain ⟨_, y2⟩ := z7 y hA
          obtain ⟨b', o', sp⟩ := y
          have hs : sp = none := by simpa [Addr.add] using World.cell?_spot (y2 0 (by omega))
          subst hs
          refine ⟨b', o', rfl, ?_⟩
          rw [← WideShapes.add_plain, y2 k (by omega)]
          obtain ⟨m, _, e⟩ := hz r (by omega) k (by omega)
          rw [if_pos ⟨by omega, by omega⟩, e]
          rfl

end Go.Proofs.Ytbidimaljeblgac
