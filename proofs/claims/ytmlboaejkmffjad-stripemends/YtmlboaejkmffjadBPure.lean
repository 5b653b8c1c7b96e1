/-
  The plain form of blocks as bytes: what is written, what is read, what is found. Nothing of the program is named here.
-/
import Derived.Test.YtmlboaejkmffjadCrc
namespace Go.Proofs.Ytmlboaejkmffjad.Crc

/-- What is wrong with a block of n bytes. -/
def wrongB (s h z : Int) (n : Nat) : Nat := if s < 0 ∨ 39 < s ∨ h < 0 ∨ 11 < h ∨ z < 0 ∨ 3200 < z then 3 else if n < 1 ∨ 400 < n then 5 else 0
theorem wrongB_range {s h z : Int} {n : Nat} (e : s < 0 ∨ 39 < s ∨ h < 0 ∨ 11 < h ∨ z < 0 ∨ 3200 < z) : wrongB s h z n = 3 := if_pos e
theorem wrongB_many {s h z : Int} {n : Nat} (e : ¬ (s < 0 ∨ 39 < s ∨ h < 0 ∨ 11 < h ∨ z < 0 ∨ 3200 < z)) (e2 : n < 1 ∨ 400 < n) : wrongB s h z n = 5 := by unfold wrongB; rw [if_neg e, if_pos e2]
theorem wrongB_ok {s h z : Int} {n : Nat} (e : ¬ (s < 0 ∨ 39 < s ∨ h < 0 ∨ 11 < h ∨ z < 0 ∨ 3200 < z)) (e2 : ¬ (n < 1 ∨ 400 < n)) : wrongB s h z n = 0 := by unfold wrongB; rw [if_neg e, if_neg e2]
theorem wrongB_inv {s h z : Int} {n : Nat} (e : wrongB s h z n = 0) : (0 ≤ s ∧ s ≤ 39 ∧ 0 ≤ h ∧ h ≤ 11 ∧ 0 ≤ z ∧ z ≤ 3200) ∧ 1 ≤ n ∧ n ≤ 400 := by
  unfold wrongB at e
  split at e
  · cases e
  · split at e
    · cases e
    · omega
theorem wrongB_three (s h z : Int) (n : Nat) : wrongB s h z n = 0 ∨ wrongB s h z n = 3 ∨ wrongB s h z n = 5 := by
  unfold wrongB
  split
  · exact Or.inr (Or.inl rfl)
  · split
    · exact Or.inr (Or.inr rfl)
    · exact Or.inl rfl

/-- What stands ahead of the sum. -/
def hd (s h z n : Nat) (f : Nat → Nat) : Nat → Nat
  | 0 => 83
  | 1 => s
  | 2 => h
  | 3 => z / 256
  | 4 => z % 256
  | 5 => n / 256
  | 6 => n % 256
  | k + 7 => f k
theorem hd_bd {s h z n : Nat} {f : Nat → Nat} (h1 : s < 256) (h2 : h < 256) (h3 : z < 65536) (h4 : n < 65536) (hf : ∀ k, f k < 256) : ∀ k, hd s h z n f k < 256
  | 0 => show 83 < 256 by decide
  | 1 => h1
  | 2 => h2
  | 3 => show z / 256 < 256 by omega
  | 4 => show z % 256 < 256 by omega
  | 5 => show n / 256 < 256 by omega
  | 6 => show n % 256 < 256 by omega
  | k + 7 => hf k
/-- Byte k of a sum, the lowest one first. -/
def low (x k : Nat) : Nat := x / 256 ^ k % 256
theorem low_lt (x k : Nat) : low x k < 256 := Nat.mod_lt _ (by decide)
/-- The sum that four bytes tell. -/
def four (g : Nat → Nat) (o : Nat) : Nat := g o + g (o + 1) * 256 + g (o + 2) * 65536 + g (o + 3) * 16777216
theorem four_lt {g : Nat → Nat} (hg : ∀ k, g k < 256) (o : Nat) : four g o < 2 ^ 32 := by
  unfold four
  have := hg o
  have := hg (o + 1)
  have := hg (o + 2)
  have := hg (o + 3)
  omega
theorem four_low {x : Nat} (hx : x < 2 ^ 32) {g : Nat → Nat} {o : Nat} (h : ∀ k, k < 4 → g (o + k) = low x k) : four g o = x := by
  unfold four
  have h0 := h 0 (by decide)
  have h1 := h 1 (by decide)
  have h2 := h 2 (by decide)
  have h3 := h 3 (by decide)
  unfold low at h0 h1 h2 h3
  rw [Nat.add_zero] at h0
  omega
theorem four_inj {f g : Nat → Nat} (hf : ∀ k, f k < 256) (hg : ∀ k, g k < 256) {o : Nat} (h : four f o = four g o) : ∀ k, k < 4 → f (o + k) = g (o + k) := by
  unfold four at h
  have a0 := hf o
  have a1 := hf (o + 1)
  have a2 := hf (o + 2)
  have a3 := hf (o + 3)
  have b0 := hg o
  have b1 := hg (o + 1)
  have b2 := hg (o + 2)
  have b3 := hg (o + 3)
  intro k hk
  rcases (show k = 0 ∨ k = 1 ∨ k = 2 ∨ k = 3 by omega) with rfl | rfl | rfl | rfl
  · rw [Nat.add_zero]
    omega
  · omega
  · omega
  · omega
theorem low_four {g : Nat → Nat} (hg : ∀ k, g k < 256) (o : Nat) : ∀ k, k < 4 → low (four g o) k = g (o + k) := fun k hk =>
  four_inj (f := fun k => low (four g o) (k - o)) (g := g) (fun _ => low_lt _ _) hg (o := o) (four_low (four_lt hg o) (fun k _ => by show low _ (o + k - o) = _; rw [Nat.add_sub_cancel_left])) k hk ▸ (by show _ = low _ (o + k - o); rw [Nat.add_sub_cancel_left])

/-- A block's bytes. -/
def enc (s h z n : Nat) (f : Nat → Nat) (k : Nat) : Nat := if k < n + 7 then hd s h z n f k else low (sum (hd s h z n f) (n + 7)) (k - (n + 7))
theorem enc_hd {s h z n : Nat} {f : Nat → Nat} {k : Nat} (hk : k < n + 7) : enc s h z n f k = hd s h z n f k := if_pos hk
theorem enc_low {s h z n : Nat} {f : Nat → Nat} {k : Nat} : enc s h z n f (n + 7 + k) = low (sum (hd s h z n f) (n + 7)) k := by
  unfold enc
  rw [if_neg (by omega), Nat.add_sub_cancel_left]
theorem enc_bd {s h z n : Nat} {f : Nat → Nat} (h1 : s < 256) (h2 : h < 256) (h3 : z < 65536) (h4 : n < 65536) (hf : ∀ k, f k < 256) (k : Nat) : enc s h z n f k < 256 := by
  unfold enc
  split
  · exact hd_bd h1 h2 h3 h4 hf k
  · exact low_lt _ _
theorem sum_congr {f g : Nat → Nat} (n : Nat) (h : ∀ k, k < n → f k = g k) : sum f n = sum g n := by
  unfold sum
  rw [run_congr n h]
theorem sum_enc (s h z n : Nat) (f : Nat → Nat) : sum (enc s h z n f) (n + 7) = sum (hd s h z n f) (n + 7) := sum_congr _ (fun _ hk => enc_hd hk)
theorem four_enc {s h z n : Nat} {f : Nat → Nat} (h1 : s < 256) (h2 : h < 256) (h3 : z < 65536) (h4 : n < 65536) (hf : ∀ k, f k < 256) : four (enc s h z n f) (n + 7) = sum (hd s h z n f) (n + 7) :=
  four_low (sum_lt (hd_bd h1 h2 h3 h4 hf) _) (fun _ _ => enc_low)

/-- What is told of n bytes. -/
def parseE (g : Nat → Nat) (n : Nat) : Nat := if n < 12 ∨ g 0 ≠ 83 ∨ n ≠ 11 + (g 5 * 256 + g 6) then 2 else if sum g (n - 4) ≠ four g (n - 4) then 9 else wrongB (g 1) (g 2) (g 3 * 256 + g 4 : Nat) (n - 11)
theorem parse_form {g : Nat → Nat} {n : Nat} (h : n < 12 ∨ g 0 ≠ 83 ∨ n ≠ 11 + (g 5 * 256 + g 6)) : parseE g n = 2 := if_pos h
theorem parse_sum {g : Nat → Nat} {n : Nat} (h : ¬ (n < 12 ∨ g 0 ≠ 83 ∨ n ≠ 11 + (g 5 * 256 + g 6))) (h2 : sum g (n - 4) ≠ four g (n - 4)) : parseE g n = 9 := by unfold parseE; rw [if_neg h, if_pos h2]
theorem parse_else {g : Nat → Nat} {n : Nat} (h : ¬ (n < 12 ∨ g 0 ≠ 83 ∨ n ≠ 11 + (g 5 * 256 + g 6))) (h2 : sum g (n - 4) = four g (n - 4)) : parseE g n = wrongB (g 1) (g 2) (g 3 * 256 + g 4 : Nat) (n - 11) := by unfold parseE; rw [if_neg h, if_neg (fun k => k h2)]
theorem parse_inv {g : Nat → Nat} {n : Nat} (h : parseE g n = 0) : 12 ≤ n ∧ g 0 = 83 ∧ n = 11 + (g 5 * 256 + g 6) ∧ sum g (n - 4) = four g (n - 4) ∧ wrongB (g 1) (g 2) (g 3 * 256 + g 4 : Nat) (n - 11) = 0 := by
  by_cases h1 : n < 12 ∨ g 0 ≠ 83 ∨ n ≠ 11 + (g 5 * 256 + g 6)
  · rw [parse_form h1] at h
    cases h
  · by_cases h2 : sum g (n - 4) = four g (n - 4)
    · rw [parse_else h1 h2] at h
      exact ⟨by omega, by omega, by omega, h2, h⟩
    · rw [parse_sum h1 h2] at h
      cases h

/-- What is written is read. -/
theorem parse_enc {s h z n : Nat} {f : Nat → Nat} (hf : ∀ k, f k < 256) (hw : wrongB s h z n = 0) : parseE (enc s h z n f) (n + 11) = 0 := by
  have hb := wrongB_inv hw
  have e1 : enc s h z n f 1 = s := enc_hd (by omega)
  have e2 : enc s h z n f 2 = h := enc_hd (by omega)
  have e3 : enc s h z n f 3 = z / 256 := enc_hd (by omega)
  have e4 : enc s h z n f 4 = z % 256 := enc_hd (by omega)
  have e5 : enc s h z n f 5 = n / 256 := enc_hd (by omega)
  have e6 : enc s h z n f 6 = n % 256 := enc_hd (by omega)
  have e0 : enc s h z n f 0 = 83 := enc_hd (by omega)
  rw [parse_else (by rw [e0, e5, e6]; omega) (by rw [show n + 11 - 4 = n + 7 by omega, sum_enc, four_enc (by omega) (by omega) (by omega) (by omega) hf]), e1, e2, e3, e4, show z / 256 * 256 + z % 256 = z by omega, show n + 11 - 11 = n by omega]
  exact hw
/-- What is read was so written. -/
theorem enc_parse {g : Nat → Nat} {n : Nat} (hg : ∀ k, g k < 256) (h : parseE g n = 0) : ∀ k, k < n → enc (g 1) (g 2) (g 3 * 256 + g 4) (n - 11) (fun k => g (k + 7)) k = g k := by
  obtain ⟨h1, h2, h3, h4, h5⟩ := parse_inv h
  have b3 := hg 3
  have b4 := hg 4
  have b5 := hg 5
  have b6 := hg 6
  have hh : ∀ k, hd (g 1) (g 2) (g 3 * 256 + g 4) (n - 11) (fun k => g (k + 7)) k = g k := fun k =>
    match k with
    | 0 => h2.symm
    | 1 => rfl
    | 2 => rfl
    | 3 => by show (g 3 * 256 + g 4) / 256 = g 3; omega
    | 4 => by show (g 3 * 256 + g 4) % 256 = g 4; omega
    | 5 => by show (n - 11) / 256 = g 5; omega
    | 6 => by show (n - 11) % 256 = g 6; omega
    | k + 7 => rfl
  intro k hk
  by_cases hlt : k < n - 11 + 7
  · rw [enc_hd hlt, hh]
  · obtain ⟨j, rfl⟩ : ∃ j, k = n - 11 + 7 + j := ⟨k - (n - 11 + 7), by omega⟩
    rw [enc_low, sum_congr _ (fun k _ => hh k), show n - 11 + 7 = n - 4 by omega, h4]
    exact low_four hg (n - 4) j (by omega)

/-- A byte that is another one is found. -/
theorem parse_turned {s h z n : Nat} {f g : Nat → Nat} {p : Nat} (hf : ∀ k, f k < 256) (hg : ∀ k, g k < 256) (hw : wrongB s h z n = 0) (hp : p < n + 11) (hne : g p ≠ enc s h z n f p) (he : ∀ k, k ≠ p → g k = enc s h z n f k) : parseE g (n + 11) = 2 ∨ parseE g (n + 11) = 9 := by
  have hb := wrongB_inv hw
  have hE := enc_bd (s := s) (h := h) (z := z) (n := n) (by omega) (by omega) (by omega) (by omega) hf
  by_cases h1 : n + 11 < 12 ∨ g 0 ≠ 83 ∨ n + 11 ≠ 11 + (g 5 * 256 + g 6)
  · exact Or.inl (parse_form h1)
  · refine Or.inr (parse_sum h1 ?_)
    rw [show n + 11 - 4 = n + 7 by omega]
    intro hs
    have hq : sum (enc s h z n f) (n + 7) = four (enc s h z n f) (n + 7) := by rw [sum_enc, four_enc (by omega) (by omega) (by omega) (by omega) hf]
    by_cases hlt : p < n + 7
    · have h4 : four g (n + 7) = four (enc s h z n f) (n + 7) := by
        unfold four
        rw [he (n + 7) (by omega), he (n + 7 + 1) (by omega), he (n + 7 + 2) (by omega), he (n + 7 + 3) (by omega)]
      exact sum_other hg hE hne he hlt (hs.trans (h4.trans hq.symm))
    · have h4 : sum g (n + 7) = sum (enc s h z n f) (n + 7) := sum_congr _ (fun k hk => he k (by omega))
      obtain ⟨j, rfl⟩ : ∃ j, p = n + 7 + j := ⟨p - (n + 7), by omega⟩
      exact hne (four_inj hg hE (hs.symm.trans (h4.trans hq)) j (by omega))
/-- Cut short, or made longer, it is none. -/
theorem parse_cut {s h z n m : Nat} {f g : Nat → Nat} (hw : wrongB s h z n = 0) (hm : m ≠ n + 11) (he : ∀ k, k < m → k < n + 11 → g k = enc s h z n f k) : parseE g m = 2 := by
  have hb := wrongB_inv hw
  by_cases h1 : m < 12
  · exact parse_form (Or.inl h1)
  · have e5 : enc s h z n f 5 = n / 256 := enc_hd (by omega)
    have e6 : enc s h z n f 6 = n % 256 := enc_hd (by omega)
    refine parse_form (Or.inr (Or.inr ?_))
    rw [he 5 (by omega) (by omega), he 6 (by omega) (by omega), e5, e6]
    omega

end Go.Proofs.Ytmlboaejkmffjad.Crc
