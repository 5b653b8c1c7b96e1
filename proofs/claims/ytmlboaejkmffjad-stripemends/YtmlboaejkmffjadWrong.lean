/-
  What slices.IndexFunc, slices.ContainsFunc and grid.Wrong do, call by call.
-/
import Derived.Test.YtmlboaejkmffjadRowops
import Derived.FnLit
import Derived.Shelf.Abstract
namespace Go.Proofs.Ytmlboaejkmffjad
open Go.RowKit

theorem ret_bool {a b : Bool} (h : a = b) : Ending.returned (.bool a) = .returned (.bool b) := by rw [h]

/-- A literal that captures one variable, as a predicate of the rows of a slice. -/
def PredOn (g : Nat) (l : Value) (n : Nat) (V : Nat → Value) (p : Nat → Bool) (w : World) : Prop :=
  ∀ r, r < n → ∀ W, Below w.heap.size w W → Calls Try.prog g #[V r, l] W fun e w' => e = .returned (.bool (p r)) ∧ Below W.heap.size W w'

/-- Where the first row is of which p holds. -/
def FirstAt (n : Nat) (p : Nat → Bool) (i : Int) : Prop := (i = -1 ∧ ∀ r, r < n → p r = false) ∨ ∃ r : Nat, r < n ∧ i = (r : Int) ∧ p r = true ∧ ∀ s, s < r → p s = false

set_option maxHeartbeats 1000000 in
theorem indexF_any (g b o n cap : Nat) (l : Value) (V : Nat → Value) (p : Nat → Bool) (w : World) (eg : ∀ args w, (callFunc g args).run Try.prog w = .ok (.enter g args) w)
    (hc : ∀ r, r < n → w.cell? ⟨b, o + r, none⟩ = some (V r)) (hp : PredOn g l n V p w) (hn : n ≤ 10000) :
    Calls Try.prog 100 #[.slice (some ⟨b, o, none⟩) n cap, .func (.func g) #[] #[l]] w fun e w' => ∃ i : Int, e = .returned (.int .i64 i) ∧ FirstAt n p i ∧ Below w.heap.size w w' := by
  go_enter Try.func100, Try.ntmps100
  go_wp2_with fail
  go_loopw [8] (fun i wr => ∃ k : Nat, k ≤ n ∧ i = .int .i64 k ∧ (∀ s, s < k → p s = false) ∧ Below w.heap.size w wr) (fun i _ => n - (intOf i).toNat)
  case atStart => exact ⟨0, Nat.zero_le _, rfl, fun s hs => absurd hs (Nat.not_lt_zero s), Below.refl _ _⟩
  case round =>
    obtain ⟨k, hk, rfl, hs, hb⟩ := hrel
    have HS : Hid (∀ s, s < k → p s = false) := hs
    clear hs
    by_cases hlt : k < n
    · have hlt' : (k : Int) < (n : Int) := by omega
      have hck := hc k hlt
      have hlb := World.block_lt_of_cell? _ _ hck
      have hcw := (hb.cell (p := ⟨b, o + k, none⟩) hlb).trans hck
      have HC : Hid (∀ r, r < n → w.cell? ⟨b, o + r, none⟩ = some (V r)) := hc
      clear hc hck
      have hpk := hp k hlt wr hb
      by_cases hy : p k = true
      · rw [hy] at hpk
        go_wp2_with fail
        refine hpk.mono ?_
        rintro e w1 ⟨rfl, hb1⟩
        go_wp2_with fail
        go_ret
        exact ⟨_, rfl, Or.inr ⟨k, hlt, rfl, hy, HS.out⟩, hb.trans (hb1.mono hb.size)⟩
      · have hy' : p k = false := by simpa using hy
        rw [hy'] at hpk
        clear hy
        go_wp2_with fail
        refine hpk.mono ?_
        rintro e w1 ⟨rfl, hb1⟩
        go_wp2_with fail
        refine ⟨⟨k + 1, by omega, by go_num, fun s hs => ?_, hb.trans (hb1.mono hb.size)⟩, by simp [intOf]; omega⟩
        by_cases e : s = k
        · rw [e]; exact hy'
        · exact HS.out s (by omega)
    · have e8 : k = n := by omega
      subst e8
      go_wp2_with fail
      go_ret
      exact ⟨_, rfl, Or.inl ⟨rfl, HS.out⟩, hb⟩

set_option maxHeartbeats 400000 in
theorem containsF_any (g b o n cap : Nat) (l : Value) (V : Nat → Value) (p : Nat → Bool) (w : World) (eg : ∀ args w, (callFunc g args).run Try.prog w = .ok (.enter g args) w)
    (hc : ∀ r, r < n → w.cell? ⟨b, o + r, none⟩ = some (V r)) (hp : PredOn g l n V p w) (hn : n ≤ 10000) :
    Calls Try.prog 80 #[.slice (some ⟨b, o, none⟩) n cap, .func (.func g) #[] #[l]] w fun e w' => ∃ y : Bool, e = .returned (.bool y) ∧ (y = true ↔ ∃ r, r < n ∧ p r = true) ∧ Below w.heap.size w w' := by
  go_enter Try.func80, Try.ntmps80
  go_wp2_with fail
  refine (indexF_any g b o n cap l V p w eg hc hp hn).mono ?_
  rintro e w1 ⟨i, rfl, hi, hb⟩
  clear hc hp
  go_wp2_with fail
  go_ret
  refine ⟨_, rfl, ?_, hb⟩
  rcases hi with ⟨rfl, h⟩ | ⟨r, hr, rfl, h, _⟩
  · exact ⟨fun e => absurd e (by decide), fun ⟨r, hr, he⟩ => by rw [h r hr] at he; exact absurd he (by decide)⟩
  · exact ⟨fun _ => ⟨r, hr, h⟩, fun _ => by simp⟩

/-- A matrix that came in, right or not: n rows, row r of L r bytes. -/
structure Arg (w : World) (v : Value) (n : Nat) (L : Nat → Nat) (f : Nat → Nat → Nat) : Prop where
  bd : Gf.Bd2 f
  lies : ∃ (A : Option Addr) (cap : Nat) (R : Nat → Option Addr) (C : Nat → Nat), v = .slice A n cap ∧
    ∀ r, r < n → ∃ b o, A = some ⟨b, o, none⟩ ∧ w.cell? ⟨b, o + r, none⟩ = some (.slice (R r) (L r) (C r)) ∧ ∀ k, k < L r → ∃ b' o', R r = some ⟨b', o', none⟩ ∧ w.cell? ⟨b', o' + k, none⟩ = some (.int .u8 (f r k : Nat))

theorem Arg.below {w w' : World} {v : Value} {n : Nat} {L : Nat → Nat} {f : Nat → Nat → Nat} (h : Arg w v n L f) (hb : Below w.heap.size w w') : Arg w' v n L f := by
  obtain ⟨A, cap, R, C, hv, hr⟩ := h.lies
  refine ⟨h.bd, A, cap, R, C, hv, fun r hrn => ?_⟩
  obtain ⟨b, o, h1, h2, h3⟩ := hr r hrn
  refine ⟨b, o, h1, by rw [hb.cell (p := ⟨b, o + r, none⟩) (World.block_lt_of_cell? _ _ h2)]; exact h2, fun k hk => ?_⟩
  obtain ⟨b', o', h4, h5⟩ := h3 k hk
  exact ⟨b', o', h4, by rw [hb.cell (p := ⟨b', o' + k, none⟩) (World.block_lt_of_cell? _ _ h5)]; exact h5⟩

/-- What Wrong tells. -/
def wrongE (n : Nat) (L : Nat → Nat) : Nat := if n < 1 ∨ 12 < n ∨ L 0 < 1 ∨ 400 < L 0 then 5 else if ∀ r, r < n → L r = L 0 then 0 else 2
theorem wrongE_zero {n : Nat} {L : Nat → Nat} (h : wrongE n L = 0) : 1 ≤ n ∧ n ≤ 12 ∧ 1 ≤ L 0 ∧ L 0 ≤ 400 ∧ ∀ r, r < n → L r = L 0 := by
  unfold wrongE at h
  split at h
  · cases h
  · split at h
    · rename_i h1 h2
      exact ⟨by omega, by omega, by omega, by omega, h2⟩
    · cases h
theorem wrongE_ok {n : Nat} {L : Nat → Nat} (h1 : 1 ≤ n) (h2 : n ≤ 12) (h3 : 1 ≤ L 0) (h4 : L 0 ≤ 400) (h5 : ∀ r, r < n → L r = L 0) : wrongE n L = 0 := by
  unfold wrongE
  rw [if_neg (by omega), if_pos h5]

set_option maxHeartbeats 400000 in
theorem otherLen_any (A : Option Addr) (l c B m : Nat) (w : World) (hc : w.cell? ⟨B, 0, none⟩ = some (.int .i64 (m : Int))) :
    Calls Try.prog 79 #[.slice A l c, .pointer (some ⟨B, 0, none⟩)] w fun e w' => e = .returned (.bool (decide (l ≠ m))) ∧ Below w.heap.size w w' := by
  by_cases h : l = m
  · subst h
    have H : Hid (decide (l ≠ l) = false) := by show decide (l ≠ l) = false; simp
    go_enter Try.func79, Try.ntmps79
    go_wp2_with fail
    go_ret
    exact ⟨ret_bool H.out.symm, Below.refl _ _⟩
  · have H : Hid (decide (l ≠ m) = true) := by show decide (l ≠ m) = true; simpa using h
    have h' : ((l : Int) == (m : Int)) = false := by rw [beq_eq_false_iff_ne]; omega
    clear h
    go_enter Try.func79, Try.ntmps79
    go_wp2_with fail
    go_ret
    exact ⟨ret_bool (by rw [H.out]; simp [bne, h']), Below.refl _ _⟩

theorem Try.enters_otherLen : ∀ args w, (callFunc 79 args).run Try.prog w = .ok (.enter 79 args) w := enters_of Try.func79 (by kernel_rfl) rfl

set_option maxHeartbeats 1000000 in
theorem wrong_any (v : Value) (n : Nat) (L : Nat → Nat) (f : Nat → Nat → Nat) (w : World) (h : Arg w v n L f) :
    Calls Try.prog 61 #[v] w fun e w' => e = .returned (.int .i64 (wrongE n L : Nat)) ∧ Below w.heap.size w w' := by
  obtain ⟨A, cap, R, C, rfl, hr⟩ := h.lies
  clear h
  by_cases h1 : n < 1
  · have H : Hid (wrongE n L = 5) := by show wrongE n L = 5; unfold wrongE; rw [if_pos (Or.inl h1)]
    have h1' : (n : Int) < 1 := by omega
    clear hr h1
    go_enter Try.func61, Try.ntmps61
    go_wp2_with fail
    go_ret
    exact ⟨ret_int (by rw [H.out]; rfl), Below.refl _ _⟩
  by_cases h2 : 12 < n
  · have H : Hid (wrongE n L = 5) := by show wrongE n L = 5; unfold wrongE; rw [if_pos (Or.inr (Or.inl h2))]
    have h1' : ¬ (n : Int) < 1 := by omega
    have h2' : (12 : Int) < (n : Int) := by omega
    clear hr h1 h2
    go_enter Try.func61, Try.ntmps61
    go_wp2_with fail
    go_ret
    exact ⟨ret_int (by rw [H.out]; rfl), Below.refl _ _⟩
  obtain ⟨b, o, rfl, hc0, _⟩ := hr 0 (by omega)
  have hc : ∀ r, r < n → w.cell? ⟨b, o + r, none⟩ = some (.slice (R r) (L r) (C r)) := fun r hrn => by
    obtain ⟨b', o', e1, e2, _⟩ := hr r hrn
    cases e1
    exact e2
  clear hr
  have hb0 := World.block_lt_of_cell? _ _ hc0
  have h1' : ¬ (n : Int) < 1 := by omega
  have h2' : ¬ (12 : Int) < (n : Int) := by omega
  have h0' : (0 : Int) < (n : Int) := by omega
  have hc0' : w.cell? ⟨b, o, none⟩ = some (.slice (R 0) (L 0) (C 0)) := by simpa using hc0
  clear hc0
  by_cases h3 : L 0 < 1
  · have H : Hid (wrongE n L = 5) := by show wrongE n L = 5; unfold wrongE; rw [if_pos (Or.inr (Or.inr (Or.inl h3)))]
    have h3' : (L 0 : Int) < 1 := by omega
    clear h1 h2 h3 hc
    go_enter Try.func61, Try.ntmps61
    go_wp2_with fail
    go_ret
    exact ⟨ret_int (by rw [H.out]; rfl), (Below.refl _ _).alloc (Nat.le_refl _) _⟩
  by_cases h4 : 400 < L 0
  · have H : Hid (wrongE n L = 5) := by show wrongE n L = 5; unfold wrongE; rw [if_pos (Or.inr (Or.inr (Or.inr h4)))]
    have h3' : ¬ (L 0 : Int) < 1 := by omega
    have h4' : (400 : Int) < (L 0 : Int) := by omega
    clear h1 h2 h3 h4 hc
    go_enter Try.func61, Try.ntmps61
    go_wp2_with fail
    go_ret
    exact ⟨ret_int (by rw [H.out]; rfl), (Below.refl _ _).alloc (Nat.le_refl _) _⟩
  have h3' : ¬ (L 0 : Int) < 1 := by omega
  have h4' : ¬ (400 : Int) < (L 0 : Int) := by omega
  have hn : n ≤ 10000 := by omega
  have HL : Hid (¬ (n < 1 ∨ 12 < n ∨ L 0 < 1 ∨ 400 < L 0)) := by show ¬ _; omega
  have HC : Hid (∀ r, r < n → w.cell? ⟨b, o + r, none⟩ = some (.slice (R r) (L r) (C r))) := hc
  clear h1 h2 h3 h4 hc
  go_enter Try.func61, Try.ntmps61
  go_wp2_with fail
  refine (containsF_any 79 b o n cap _ (fun r => .slice (R r) (L r) (C r)) (fun r => decide (L r ≠ L 0)) _ Try.enters_otherLen ?_ ?_ hn).mono ?_
  · intro r hr
    exact (((Below.refl w.heap.size w).alloc (Nat.le_refl _) _).cell (p := ⟨b, o + r, none⟩) hb0).trans (HC.out r hr)
  · intro r hr W hW
    refine otherLen_any (R r) (L r) (C r) w.heap.size (L 0) W ?_
    rw [hW.cell (p := ⟨w.heap.size, 0, none⟩) (by simp)]
    simp
  rintro e w1 ⟨y, rfl, hy, hb1⟩
  have hbz : Below w.heap.size w w1 := ((Below.refl w.heap.size w).alloc (Nat.le_refl _) _).trans (hb1.mono (by simp))
  cases y with
  | true =>
    have H : Hid (wrongE n L = 2) := by
      obtain ⟨r, hr, he⟩ := hy.1 rfl
      show wrongE n L = 2
      unfold wrongE
      rw [if_neg HL.out, if_neg (fun h => of_decide_eq_true he (h r hr))]
    clear hy
    go_wp2_with fail
    go_ret
    exact ⟨ret_int (by rw [H.out]; rfl), hbz⟩
  | false =>
    have H : Hid (wrongE n L = 0) := by
      show wrongE n L = 0
      unfold wrongE
      rw [if_neg HL.out, if_pos (fun r hr => Classical.byContradiction fun hne => absurd (hy.2 ⟨r, hr, decide_eq_true hne⟩) (by decide))]
    clear hy
    go_wp2_with fail
    go_ret
    exact ⟨ret_int (by rw [H.out]; rfl), hbz⟩

end Go.Proofs.Ytmlboaejkmffjad
