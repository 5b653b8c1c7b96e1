/-
  How many things to do there are at most: by the bytes that they take.
-/
import Derived.Test.YtldjieplbeflfaaGreatX42
import Derived.SizedLaws
namespace Go.Proofs.YtldjieplbeflfaaGreat
open Go.ChangeShapes Go.WideShapes Go.ChangeAt Go.RowKit Go.Deep

theorem Tryz.bytesDo : Tryz.prog.bytesOf 43 = 96 := by kernel_rfl
theorem dos_short {H : Type} {enc : TypeId × Value → H} {W : World} {a : Option Addr} {len cap : Nat} {d : DataW H} {ps : List MemPlace} (h : DataW.Trod enc Tryz.prog W 0 (fun _ => true) true 24 (.slice a len cap) d ps) (hw : ∀ x, x ∈ d.weights Tryz.prog 24 → x ≤ reachBytes) : len * 96 ≤ reachBytes := by
  obtain ⟨fuel, hf⟩ := h
  rcases Deep.open_slice Tryz.underlying24 hf with ⟨hcs, _⟩ | ⟨x, l, c, m, n, D, Pl, hcs, _, hl, hm, hmm, hx, _⟩
  · simp [Value.cells] at hcs
    obtain ⟨rfl, rfl, rfl⟩ := hcs
    exact Nat.zero_le _
  · simp [Value.cells] at hcs
    obtain ⟨rfl, rfl, rfl⟩ := hcs
    simp only [Prod.mk.injEq] at hx
    obtain ⟨rfl, _⟩ := hx
    have h5 := hw ((len + (m - len)) * Tryz.prog.bytesOf 43) (by simp [DataW.weights, Tryz.underlying24])
    rw [Tryz.bytesDo] at h5
    have h6 : len * 96 ≤ (len + (m - len)) * 96 := Nat.mul_le_mul_right _ (Nat.le_add_right _ _)
    omega

end Go.Proofs.YtldjieplbeflfaaGreat
