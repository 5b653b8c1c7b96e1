/-
  What rows are told, each by one sentence, whatever is handed.
-/
import Derived.Test.YtbidimaljeblgabDGood
import Derived.Test.YtbidimaljeblgabDMend
namespace Go.Proofs.Ytbidimaljeblgab
open Go.RowKit

theorem rowsO (d s : Int) (w : World) : Calls Try.prog 19 #[.int .i64 d, .int .i64 s] w fun e w' => ∃ v, e = .returned (.tuple #[v, .int .i64 (wrongC d s : Nat)]) ∧ Out w' (wrongC d s) v (d.toNat + s.toNat) d.toNat (Gf.rowF d.toNat) ∧ Below w.heap.size w w' := by
  by_cases h : d < 1 ∨ 8 < d ∨ s < 0 ∨ 4 < s
  · rw [wrongC_bad h]
    exact (codeRows_bad d s w h).mono fun e w' ⟨h1, h2⟩ => ⟨_, h1, Or.inr ⟨Or.inl (by decide), rfl⟩, h2⟩
  · rw [wrongC_ok h]
    obtain ⟨n, rfl⟩ := Int.eq_ofNat_of_zero_le (show 0 ≤ d by omega)
    obtain ⟨m, rfl⟩ := Int.eq_ofNat_of_zero_le (show 0 ≤ s by omega)
    exact (codeRows_any n m w (by omega) (by omega) (by omega)).mono fun e w' ⟨g, cap, h1, _, ⟨G, K, h3⟩, h4⟩ => ⟨_, h1, Or.inl ⟨rfl, Gf.rowF_bd n, ⟨by show 1 ≤ n + m; omega, by show n + m ≤ 12; omega, by show 1 ≤ n; omega, by show n ≤ 400; omega⟩, g, 0, cap, G, _, K, rfl, h3⟩, h4⟩
theorem refRowsO (d s : Int) (w : World) : Calls Try.prog 20 #[.int .i64 d, .int .i64 s] w fun e w' => ∃ v, e = .returned (.tuple #[v, .int .i64 (wrongC d s : Nat)]) ∧ Out w' (wrongC d s) v (d.toNat + s.toNat) d.toNat (Gf.rowF d.toNat) ∧ Below w.heap.size w w' := by
  by_cases h : d < 1 ∨ 8 < d ∨ s < 0 ∨ 4 < s
  · rw [wrongC_bad h]
    exact (refRows_bad d s w h).mono fun e w' ⟨h1, h2⟩ => ⟨_, h1, Or.inr ⟨Or.inl (by decide), rfl⟩, h2⟩
  · rw [wrongC_ok h]
    obtain ⟨n, rfl⟩ := Int.eq_ofNat_of_zero_le (show 0 ≤ d by omega)
    obtain ⟨m, rfl⟩ := Int.eq_ofNat_of_zero_le (show 0 ≤ s by omega)
    exact (refRows_any n m w (by omega) (by omega) (by omega)).mono fun e w' ⟨g, cap, h1, _, ⟨G, K, h3⟩, h4⟩ => ⟨_, h1, Or.inl ⟨rfl, Gf.rowF_bd n, ⟨by show 1 ≤ n + m; omega, by show n + m ≤ 12; omega, by show 1 ≤ n; omega, by show n ≤ 400; omega⟩, g, 0, cap, G, _, K, rfl, h3⟩, h4⟩
/-- Whatever undoes the rows: what comes of it is the same. -/
theorem mend_same {n : Nat} {M r r' X : Nat → Nat → Nat} (hM : Gf.Bd2 M) (hr : Gf.Bd2 r) (hr' : Gf.Bd2 r') (h : Gf.Und n M r) (h' : Gf.Und n M r') (i k : Nat) : Gf.mm n (Gf.rowF n) (Gf.mm n r X) i k = Gf.mm n (Gf.rowF n) (Gf.mm n r' X) i k :=
  Gf.mm_congr (fun _ _ => rfl) (fun j hj => Gf.mm_congr (fun p hp => Gf.Und.uniq hM hr hr' h h' j p hj hp) (fun _ _ => rfl))

end Go.Proofs.Ytbidimaljeblgab
