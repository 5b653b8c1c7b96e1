/-
  What grid's functions and the document's own answers tell, each by one sentence, whatever they are handed.
-/
import Derived.Test.YtbidimaljeblgaaRefInv
import Derived.Test.YtbidimaljeblgaaOut
namespace Go.Proofs.Ytbidimaljeblgaa
open Go.RowKit

def oneE (n : Int) : Nat := if n < 1 ∨ 12 < n then 5 else 0
theorem oneO (n : Int) (w : World) : Calls Try.prog 18 #[.int .i64 n] w fun e w' => ∃ v, e = .returned (.tuple #[v, .int .i64 (oneE n : Nat)]) ∧ Out w' (oneE n) v n.toNat n.toNat Gf.one ∧ Below w.heap.size w w' := by
  by_cases h : n < 1 ∨ 12 < n
  · rw [show oneE n = 5 from if_pos h]
    exact (one_bad n w h).mono fun e w' ⟨h1, h2⟩ => ⟨_, h1, Or.inr ⟨Or.inl (by decide), rfl⟩, h2⟩
  · rw [show oneE n = 0 from if_neg h]
    obtain ⟨m, rfl⟩ := Int.eq_ofNat_of_zero_le (show 0 ≤ n by omega)
    exact (one_any m w (by omega) (by omega)).mono fun e w' ⟨v, h1, h2, h3⟩ => ⟨v, h1, Or.inl ⟨rfl, h2⟩, h3⟩
theorem refOneO (n : Int) (w : World) : Calls Try.prog 19 #[.int .i64 n] w fun e w' => ∃ v, e = .returned (.tuple #[v, .int .i64 (oneE n : Nat)]) ∧ Out w' (oneE n) v n.toNat n.toNat Gf.one ∧ Below w.heap.size w w' := by
  by_cases h : n < 1 ∨ 12 < n
  · rw [show oneE n = 5 from if_pos h]
    exact (refOne_bad n w h).mono fun e w' ⟨h1, h2⟩ => ⟨_, h1, Or.inr ⟨Or.inl (by decide), rfl⟩, h2⟩
  · rw [show oneE n = 0 from if_neg h]
    obtain ⟨m, rfl⟩ := Int.eq_ofNat_of_zero_le (show 0 ≤ n by omega)
    exact (refOne_any m w (by omega) (by omega)).mono fun e w' ⟨v, h1, h2, h3⟩ => ⟨v, h1, Or.inl ⟨rfl, h2⟩, h3⟩

theorem mulO (va vb : Value) (na nb : Nat) (La Lb : Nat → Nat) (fa fb : Nat → Nat → Nat) (w : World) (ha : Arg w va na La fa) (hb : Arg w vb nb Lb fb) :
    Calls Try.prog 21 #[va, vb] w fun e w' => ∃ v, e = .returned (.tuple #[v, .int .i64 (mulE na La nb Lb : Nat)]) ∧ Out w' (mulE na La nb Lb) v na (Lb 0) (Gf.mm nb fa fb) ∧ Below w.heap.size w w' := by
  by_cases h : mulE na La nb Lb = 0
  · rw [h]
    exact (mulM_good va vb na nb La Lb fa fb w ha hb h).mono fun e w' ⟨v, h1, h2, h3⟩ => ⟨v, h1, Or.inl ⟨rfl, h2⟩, h3⟩
  · exact (mulM_bad va vb na nb La Lb fa fb w ha hb h).mono fun e w' ⟨h1, h2⟩ => ⟨_, h1, Or.inr ⟨Or.inl h, rfl⟩, h2⟩
theorem refMulO (va vb : Value) (na nb : Nat) (La Lb : Nat → Nat) (fa fb : Nat → Nat → Nat) (w : World) (ha : Arg w va na La fa) (hb : Arg w vb nb Lb fb) :
    Calls Try.prog 22 #[va, vb] w fun e w' => ∃ v, e = .returned (.tuple #[v, .int .i64 (mulE na La nb Lb : Nat)]) ∧ Out w' (mulE na La nb Lb) v na (Lb 0) (Gf.mm nb fa fb) ∧ Below w.heap.size w w' := by
  by_cases h : mulE na La nb Lb = 0
  · rw [h]
    exact (refMulM_good va vb na nb La Lb fa fb w ha hb h).mono fun e w' ⟨v, h1, h2, h3⟩ => ⟨v, h1, Or.inl ⟨rfl, h2⟩, h3⟩
  · exact (refMulM_bad va vb na nb La Lb fa fb w ha hb h).mono fun e w' ⟨h1, h2⟩ => ⟨_, h1, Or.inr ⟨Or.inl h, rfl⟩, h2⟩

/-- What is told of what undoes a matrix: a number E, and r where it is 0. -/
def UndE (n : Nat) (L : Nat → Nat) (f : Nat → Nat → Nat) (E : Nat) (r : Nat → Nat → Nat) : Prop :=
  (wrongE n L ≠ 0 ∧ E = wrongE n L) ∨ (wrongE n L = 0 ∧ L 0 ≠ n ∧ E = 8) ∨ (wrongE n L = 0 ∧ L 0 = n ∧ ((E = 0 ∧ Gf.Bd2 f ∧ Gf.Bd2 r ∧ Gf.Und n f r) ∨ (E = 6 ∧ Gf.Sing n f)))
theorem UndE.same {n : Nat} {L : Nat → Nat} {f : Nat → Nat → Nat} {E E' : Nat} {r r' : Nat → Nat → Nat} (h : UndE n L f E r) (k : UndE n L f E' r') : E = E' ∧ (E = 0 → ∀ i, i < n → ∀ j, j < n → r i j = r' i j) := by
  rcases h with ⟨h1, h2⟩ | ⟨h1, h2, h3⟩ | ⟨h1, h2, h3⟩
  · rcases k with ⟨k1, k2⟩ | ⟨k1, _⟩ | ⟨k1, _⟩
    · exact ⟨by omega, fun e => absurd e (by omega)⟩
    · exact absurd k1 h1
    · exact absurd k1 h1
  · rcases k with ⟨k1, _⟩ | ⟨k1, k2, k3⟩ | ⟨_, k2, _⟩
    · exact absurd h1 k1
    · exact ⟨by omega, fun e => absurd e (by omega)⟩
    · exact absurd k2 h2
  · rcases k with ⟨k1, _⟩ | ⟨_, k2, _⟩ | ⟨_, _, k3⟩
    · exact absurd h1 k1
    · exact absurd h2 k2
    · rcases h3 with ⟨rfl, hf, hr, hu⟩ | ⟨rfl, hs⟩
      · rcases k3 with ⟨rfl, _, kr, ku⟩ | ⟨rfl, ks⟩
        · exact ⟨rfl, fun _ i hi j hj => Gf.Und.uniq hf hr kr hu ku i j hi hj⟩
        · exact (hu.not_sing hf hr ks).elim
      · rcases k3 with ⟨rfl, kf, kr, ku⟩ | ⟨rfl, ks⟩
        · exact (ku.not_sing kf kr hs).elim
        · exact ⟨rfl, fun e => absurd e (by omega)⟩
theorem undO (va : Value) (n : Nat) (L : Nat → Nat) (f : Nat → Nat → Nat) (w : World) (ha : Arg w va n L f) :
    Calls Try.prog 23 #[va] w fun e w' => ∃ v E r, e = .returned (.tuple #[v, .int .i64 (E : Nat)]) ∧ Out w' E v n n r ∧ UndE n L f E r ∧ Below w.heap.size w w' := by
  by_cases h : wrongE n L = 0
  · have mx := ha.mx h
    by_cases h2 : L 0 = n
    · rw [h2] at mx
      refine (undo_any va n f w mx).mono fun e w' ⟨h3, h4⟩ => ?_
      rcases h3 with ⟨v, r, h5, h6, h7⟩ | ⟨h5, h6⟩
      · exact ⟨v, 0, r, h5, Or.inl ⟨rfl, h6⟩, Or.inr (Or.inr ⟨h, h2, Or.inl ⟨rfl, ha.bd, h6.bd, h7⟩⟩), h4⟩
      · exact ⟨_, 6, f, h5, Or.inr ⟨Or.inl (by decide), rfl⟩, Or.inr (Or.inr ⟨h, h2, Or.inr ⟨rfl, h6⟩⟩), h4⟩
    · exact (undo_bad2 va n (L 0) f w mx h2).mono fun e w' ⟨h3, h4⟩ => ⟨_, 8, f, h3, Or.inr ⟨Or.inl (by decide), rfl⟩, Or.inr (Or.inl ⟨h, h2, rfl⟩), h4⟩
  · exact (undo_bad1 va n L f w ha h).mono fun e w' ⟨h3, h4⟩ => ⟨_, _, f, h3, Or.inr ⟨Or.inl h, rfl⟩, Or.inl ⟨h, rfl⟩, h4⟩
theorem refUndO (va : Value) (n : Nat) (L : Nat → Nat) (f : Nat → Nat → Nat) (w : World) (ha : Arg w va n L f) :
    Calls Try.prog 24 #[va] w fun e w' => ∃ v E r, e = .returned (.tuple #[v, .int .i64 (E : Nat)]) ∧ Out w' E v n n r ∧ UndE n L f E r ∧ Below w.heap.size w w' := by
  by_cases h : wrongE n L = 0
  · have mx := ha.mx h
    by_cases h2 : L 0 = n
    · rw [h2] at mx
      refine (refUndo_any va n f w mx).mono fun e w' ⟨h3, h4⟩ => ?_
      rcases h3 with ⟨v, r, h5, h6, h7⟩ | ⟨h5, h6⟩
      · exact ⟨v, 0, r, h5, Or.inl ⟨rfl, h6⟩, Or.inr (Or.inr ⟨h, h2, Or.inl ⟨rfl, ha.bd, h6.bd, h7⟩⟩), h4⟩
      · exact ⟨_, 6, f, h5, Or.inr ⟨Or.inl (by decide), rfl⟩, Or.inr (Or.inr ⟨h, h2, Or.inr ⟨rfl, h6⟩⟩), h4⟩
    · exact (refUndo_bad2 va n (L 0) f w mx h2).mono fun e w' ⟨h3, h4⟩ => ⟨_, 8, f, h3, Or.inr ⟨Or.inl (by decide), rfl⟩, Or.inr (Or.inl ⟨h, h2, rfl⟩), h4⟩
  · exact (refUndo_bad1 va n L f w ha h).mono fun e w' ⟨h3, h4⟩ => ⟨_, _, f, h3, Or.inr ⟨Or.inl h, rfl⟩, Or.inl ⟨h, rfl⟩, h4⟩

end Go.Proofs.Ytbidimaljeblgaa
