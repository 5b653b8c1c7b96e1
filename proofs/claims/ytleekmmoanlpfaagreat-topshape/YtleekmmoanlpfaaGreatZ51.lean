/-
  Texts of the proof, joined: KMoneyP.
-/
import Derived.Test.YtleekmmoanlpfaaGreatZ48
namespace Go.Proofs.YtleekmmoanlpfaaGreat
open Go.RowKit

abbrev evB : Evt.Ev := ⟨[98], 1, 0⟩
/-- What is put in for one number. -/
def monE (z : Int) : List Evt.Ev := if 0 ≤ z then [evAdd z] else [⟨[98], 2, -z⟩, ⟨[97], 3, -z⟩]
def monL (Z : Nat → Int) : Nat → List Sto.Do
  | 0 => [dPut 1 [evT1, evB]]
  | k + 1 => monL Z k ++ [dPut (k + 2) (monE (Z k))]
theorem monL_len (Z : Nat → Int) : ∀ k, (monL Z k).length = k + 1
  | 0 => rfl
  | k + 1 => by
    rw [monL, List.length_append, monL_len Z k]
    rfl
def hasM (Z : Nat → Int) : Nat → Int
  | 0 => 0
  | k + 1 => if 0 ≤ hasM Z k + Z k then hasM Z k + Z k else hasM Z k
def goodM (Z : Nat → Int) (k : Nat) : Bool := decide (0 ≤ hasM Z k + Z k)
theorem hasM_pos (Z : Nat → Int) : ∀ k, 0 ≤ hasM Z k
  | 0 => Int.le_refl _
  | k + 1 => by
    rw [hasM]
    split
    · assumption
    · exact hasM_pos Z k
theorem hasM_few {Z : Nat → Int} {m : Nat} (h : ∀ k, k < m → Z k ≤ 1000) : ∀ k, k ≤ m → hasM Z k ≤ 1000 * k
  | 0, _ => Int.le_refl _
  | k + 1, hk => by
    have h1 := hasM_few h k (by omega)
    have h2 := h k (by omega)
    rw [hasM]
    split <;> omega
section
variable {X : Sto.Six} {c : Sto.Cfg}
/-- k numbers are put in. -/
structure MonS (X : Sto.Six) (c : Sto.Cfg) (Z : Nat → Int) (s : Sto.St) (k : Nat) : Prop where
  ps : ∃ es, PutS X c s (k + 1) es ∧ es.length ≤ 2 * k + 2
  a : (Vw.get s.acc [97]).opn = true ∧ (Vw.get s.acc [97]).sum = hasM Z k
  b : (Vw.get s.acc [98]).opn = true
theorem mon_start (hX : Sto.SixOk X) (hc : CfgOk c) (Z : Nat → Int) : MonS X c Z (Sto.steps X c (Sto.start c) (monL Z 0)).1 0 := by
  have hp := PutS.put (evs := [evT1, evB]) hX hc (ps_start hc) (by decide) (small_two ⟨Nat.le_refl _, by decide⟩ (by decide) (by decide)) (show (Vw.fold 0 [] [evT1, evB]).1.1 = 0 by decide)
  have e : (Sto.steps X c (Sto.start c) (monL Z 0)).1 = (Sto.step X c (Sto.start c) (dPut 1 [evT1, evB])).1 := rfl
  have ea : (Sto.step X c (Sto.start c) (dPut 1 [evT1, evB])).1.acc = (Vw.fold 0 [] [evT1, evB]).2.2 := hp.2.2.2.1
  rw [e]
  refine ⟨⟨_, hp.2.1, ?_⟩, ?_, ?_⟩
  · show 2 ≤ 2 * 0 + 2
    decide
  · rw [ea]
    exact ⟨by decide, show (Vw.get (Vw.fold 0 [] [evT1, evB]).2.2 [97]).sum = 0 by decide⟩
  · rw [ea]
    decide
theorem mon_next (hX : Sto.SixOk X) (hc : CfgOk c) {Z : Nat → Int} {s : Sto.St} {k : Nat} (h : MonS X c Z s k) (hk : k ≤ 30) (h0 : -1000 ≤ Z k) (h1 : Z k ≤ 1000) : MonS X c Z (Sto.step X c s (dPut (k + 2) (monE (Z k)))).1 (k + 1) ∧ (Sto.step X c s (dPut (k + 2) (monE (Z k)))).2.err = if goodM Z k then 0 else 8 := by
  obtain ⟨⟨es, hps, hes⟩, ⟨ha1, ha2⟩, hb⟩ := h
  have hu := hps.u
  have hpos := hasM_pos Z k
  unfold monE
  by_cases hz : 0 ≤ Z k
  · rw [if_pos hz]
    have hw : Evt.wrongE (evAdd (Z k)) = 0 := wrong_ev (Or.inl rfl) (Or.inr (Or.inl rfl)) hz (by omega)
    have hf := one_ok hps.right (by omega) hw (show Vw.may (Vw.get _ [97]) (evAdd (Z k)) = true by
      unfold Vw.may
      rw [if_neg (show ¬ (2 : Int) = 1 by decide), if_pos (Or.inl rfl)]
      exact ha1)
    have hp := PutS.put (evs := [evAdd (Z k)]) hX hc hps (by omega) (small_one ⟨by omega, by omega⟩ hw) (by rw [hf])
    have hg : goodM Z k = true := decide_eq_true (by omega)
    have hh : hasM Z (k + 1) = hasM Z k + Z k := by rw [hasM, if_pos (by omega)]
    have ea := hp.2.2.2.1
    rw [hf] at ea
    refine ⟨⟨⟨_, hp.2.1, by rw [List.length_append]; show _ + 1 ≤ _; omega⟩, ?_, ?_⟩, ?_⟩
    · show (Vw.get (Sto.step X c s (dPut (k + 1 + 1) [evAdd (Z k)])).1.acc [97]).opn = true ∧ _
      rw [ea, Vw.get_put _ hps.right.srt, if_pos rfl, hh, ← ha2]
      exact ⟨ha1, rfl⟩
    · show (Vw.get (Sto.step X c s (dPut (k + 1 + 1) [evAdd (Z k)])).1.acc [98]).opn = true
      rw [ea, Vw.get_put _ hps.right.srt, if_neg (show ¬ ([97] : List Nat) = [98] by decide)]
      exact hb
    · rw [hg]
      exact hp.1
  · rw [if_neg hz]
    have hw1 : Evt.wrongE ⟨[98], 2, -Z k⟩ = 0 := wrong_ev (Or.inr rfl) (Or.inr (Or.inl rfl)) (by omega) (by omega)
    have hw2 : Evt.wrongE ⟨[97], 3, -Z k⟩ = 0 := wrong_ev (Or.inl rfl) (Or.inr (Or.inr rfl)) (by omega) (by omega)
    have hr2 := Vw.right_put hps.right hw1 (by omega)
    obtain ⟨t1, t2⟩ := two_any (f := ⟨[97], 3, -Z k⟩) hps.right (by omega) hw1 (show Vw.may (Vw.get _ [98]) _ = true by
      unfold Vw.may
      rw [if_neg (show ¬ (2 : Int) = 1 by decide), if_pos (Or.inl rfl)]
      exact hb) hw2
    have e1 : Vw.get (Vw.put s.acc ⟨[98], 2, -Z k⟩) [97] = Vw.get s.acc [97] := by
      rw [Vw.get_put _ hps.right.srt, if_neg (show ¬ ([98] : List Nat) = [97] by decide)]
    have e2 : Vw.may (Vw.get (Vw.put s.acc ⟨[98], 2, -Z k⟩) [97]) ⟨[97], 3, -Z k⟩ = decide (-Z k ≤ hasM Z k) := by
      rw [e1]
      unfold Vw.may
      rw [if_neg (show ¬ (3 : Int) = 1 by decide), if_neg (show ¬ ((3 : Int) = 2 ∨ (3 : Int) = 4) by decide), if_pos rfl, ha1, ha2]
      rfl
    have hsm := small_two (i := k + 2) ⟨by omega, by omega⟩ hw1 hw2
    by_cases q : -Z k ≤ hasM Z k
    · have hf := t1 (by show Vw.may (Vw.get (Vw.put s.acc ⟨[98], 2, -Z k⟩) [97]) _ = true; rw [e2]; exact decide_eq_true q)
      have hp := PutS.put (evs := [⟨[98], 2, -Z k⟩, ⟨[97], 3, -Z k⟩]) hX hc hps (by omega) hsm (by rw [hf])
      have hg : goodM Z k = true := decide_eq_true (by omega)
      have hh : hasM Z (k + 1) = hasM Z k + Z k := by rw [hasM, if_pos (by omega)]
      have ea := hp.2.2.2.1
      rw [hf] at ea
      refine ⟨⟨⟨_, hp.2.1, by rw [List.length_append]; show _ + 2 ≤ _; omega⟩, ?_, ?_⟩, ?_⟩
      · show (Vw.get (Sto.step X c s (dPut (k + 1 + 1) _)).1.acc [97]).opn = true ∧ (Vw.get (Sto.step X c s (dPut (k + 1 + 1) _)).1.acc [97]).sum = _
        rw [ea, Vw.get_put _ hr2.srt, if_pos rfl, e1, hh, ← ha2]
        refine ⟨ha1, ?_⟩
        show (Vw.get s.acc [97]).sum - (-Z k) = _
        omega
      · show (Vw.get (Sto.step X c s (dPut (k + 1 + 1) _)).1.acc [98]).opn = true
        rw [ea, Vw.get_put _ hr2.srt, if_neg (show ¬ ([97] : List Nat) = [98] by decide), Vw.get_put _ hps.right.srt, if_pos rfl]
        exact hb
      · rw [hg]
        exact hp.1
    · have hf := t2 (by show Vw.may (Vw.get (Vw.put s.acc ⟨[98], 2, -Z k⟩) [97]) _ = false; rw [e2]; exact decide_eq_false q)
      obtain ⟨p1, p2⟩ := PutS.refused (evs := [⟨[98], 2, -Z k⟩, ⟨[97], 3, -Z k⟩]) hps hsm (by rw [hf]; decide)
      rw [hf] at p1
      have hg : goodM Z k = false := decide_eq_false (by omega)
      have hh : hasM Z (k + 1) = hasM Z k := by rw [hasM, if_neg (by omega)]
      have p1 : Sto.step X c s (dPut (k + 2) [⟨[98], 2, -Z k⟩, ⟨[97], 3, -Z k⟩]) = (s, Sto.no 8) := p1
      rw [p1, hg]
      exact ⟨⟨⟨_, p2, by omega⟩, ⟨ha1, by rw [hh]; exact ha2⟩, hb⟩, rfl⟩
theorem mon_all (hX : Sto.SixOk X) (hc : CfgOk c) {Z : Nat → Int} {m : Nat} (hm : m ≤ 30) (hz : ∀ k, k < m → -1000 ≤ Z k ∧ Z k ≤ 1000) : ∀ k, k ≤ m → MonS X c Z (Sto.steps X c (Sto.start c) (monL Z k)).1 k ∧ ∀ j, j < k → ∃ a, (Sto.steps X c (Sto.start c) (monL Z k)).2[j + 1]? = some a ∧ a.err = if goodM Z j then 0 else 8
  | 0, _ => ⟨mon_start hX hc Z, fun j hj => absurd hj (Nat.not_lt_zero j)⟩
  | k + 1, hk => by
    obtain ⟨h1, h2⟩ := mon_all hX hc hm hz k (by omega)
    obtain ⟨z1, z2⟩ := hz k (by omega)
    obtain ⟨n1, n2⟩ := mon_next hX hc h1 (by omega) z1 z2
    have hl : (Sto.steps X c (Sto.start c) (monL Z k)).2.length = k + 1 := (Sto.steps_length ..).trans (monL_len Z k)
    rw [monL]
    refine ⟨by rw [steps_one]; exact n1, fun j hj => ?_⟩
    by_cases q : j < k
    · obtain ⟨a, a1, a2⟩ := h2 j q
      exact ⟨a, by rw [Sto.steps_append, List.getElem?_append_left (by omega)]; exact a1, a2⟩
    · obtain rfl : j = k := by omega
      have := one_more (X := X) (c := c) (Sto.start c) (monL Z j) (dPut (j + 2) (monE (Z j)))
      rw [monL_len] at this
      exact ⟨_, this, n2⟩
end

end Go.Proofs.YtleekmmoanlpfaaGreat
