/-
  The rows of what shards are of data: any as many of them as data are can be undone. Nothing of the program is named here.
-/
import Derived.Test.YtmlboaejkmffjadMat
namespace Go.Proofs.Ytmlboaejkmffjad.Gf

/-- Row i of what shards are of n data. -/
def rowF (n i j : Nat) : Nat := if i < n then one i j else inv (i ^^^ j)
theorem rowF_bd (n : Nat) : Bd2 (rowF n) := fun i j => by
  unfold rowF
  split
  · exact one_lt _ _
  · exact inv_lt _
theorem rowF_one {n i : Nat} (h : i < n) (j : Nat) : rowF n i j = one i j := if_pos h
theorem rowF_inv {n i : Nat} (h : n ≤ i) (j : Nat) : rowF n i j = inv (i ^^^ j) := if_neg (by omega)

theorem xor_ne {a b : Nat} (h : a ≠ b) : a ^^^ b ≠ 0 := fun e => h (by
  have h1 : a ^^^ b ^^^ b = 0 ^^^ b := by rw [e]
  rw [Nat.xor_assoc, Nat.xor_self, Nat.xor_zero, Nat.zero_xor] at h1
  exact h1)
theorem xor_via (a b c : Nat) : a ^^^ b = (a ^^^ c) ^^^ (c ^^^ b) := by
  rw [Nat.xor_assoc, ← Nat.xor_assoc c c b, Nat.xor_self, Nat.zero_xor]

/-- What times u, and times v, is 1, taken apart. -/
theorem cauchy_id {u v d A B Y : Nat} (hu : u < 256) (hv : v < 256) (hd : d < 256) (hA : A < 256) (hB : B < 256) (hY : Y < 256) (h1 : mul u A = 1) (h2 : mul v B = 1) :
    mul (u ^^^ v) (mul A (mul (mul Y d) B)) = mul (u ^^^ d) (mul A Y) ^^^ mul (v ^^^ d) (mul B Y) := by
  have hZ : mul Y d < 256 := mul_lt _ hY
  have e1 : mul u (mul A (mul (mul Y d) B)) = mul (mul Y d) B := by rw [← mul_assoc _ hu hA, h1, one_mul (mul_lt _ hZ)]
  have e2 : mul v (mul A (mul (mul Y d) B)) = mul A (mul Y d) := by
    rw [mul_comm hv (mul_lt _ hA), mul_assoc _ hA (mul_lt _ hZ), mul_assoc _ hZ hB, mul_comm hB hv, h2, mul_one hZ]
  have e3 : mul u (mul A Y) = Y := by rw [← mul_assoc _ hu hA, h1, one_mul hY]
  have e4 : mul v (mul B Y) = Y := by rw [← mul_assoc _ hv hB, h2, one_mul hY]
  have e5 : mul d (mul A Y) = mul A (mul Y d) := by rw [mul_comm hd (mul_lt _ hA), mul_assoc _ hA hY]
  have e6 : mul d (mul B Y) = mul (mul Y d) B := by rw [mul_comm hd (mul_lt _ hB), mul_assoc _ hB hY, mul_comm hB hZ]
  rw [mul_xor_left _ hu hv, mul_xor_left _ hu hd, mul_xor_left _ hv hd, e1, e2, e3, e4, e5, e6, xor_swap, Nat.xor_self, Nat.zero_xor, Nat.xor_comm]

theorem dot_lin {a b c : Nat} {f g f' g' f2 g2 : Nat → Nat} : (n : Nat) → (∀ k, k < n → mul a (mul (f k) (g k)) = mul b (mul (f' k) (g' k)) ^^^ mul c (mul (f2 k) (g2 k))) → mul a (dot n f g) = mul b (dot n f' g') ^^^ mul c (dot n f2 g2)
  | 0, _ => by
    show mul a 0 = mul b 0 ^^^ mul c 0
    rw [mul_zero_right, mul_zero_right, mul_zero_right, Nat.xor_self]
  | n + 1, h => by
    show mul a (dot n f g ^^^ mul (f n) (g n)) = mul b (dot n f' g' ^^^ mul (f' n) (g' n)) ^^^ mul c (dot n f2 g2 ^^^ mul (f2 n) (g2 n))
    rw [mul_xor_right, mul_xor_right, mul_xor_right, dot_lin n (fun k hk => h k (by omega)), h n (by omega), xor_swap]
theorem dot_only {f g : Nat → Nat} {j : Nat} : (n : Nat) → (∀ k, k < n → k ≠ j → g k = 0) → dot n f g = if j < n then mul (f j) (g j) else 0
  | 0, _ => rfl
  | n + 1, h => by
    show dot n f g ^^^ mul (f n) (g n) = _
    rw [dot_only n (fun k hk => h k (by omega))]
    by_cases e : j = n
    · rw [if_neg (by omega), if_pos (by omega), Nat.zero_xor, e]
    · rw [h n (by omega) (fun h => e h.symm), mul_zero_right, Nat.xor_zero]
      by_cases h' : j < n
      · rw [if_pos h', if_pos (by omega)]
      · rw [if_neg h', if_neg (by omega)]

theorem cauchy {n : Nat} (hn : n ≤ 256) : (J T : List Nat) → (y : Nat → Nat) → Bd y → J.length ≤ T.length → T.Nodup → (∀ t, t ∈ T → t < 256 ∧ n ≤ t) → (∀ j, j ∈ J → j < n) → (∀ j, j < n → j ∉ J → y j = 0) → (∀ t, t ∈ T → dot n (fun j => inv (t ^^^ j)) y = 0) → ∀ j, j < n → y j = 0
  | [], _, y, _, _, _, _, _, h0, _, j, hj => h0 j hj (fun h => by cases h)
  | j0 :: J, [], _, _, hl, _, _, _, _, _, _, _ => by simp at hl
  | j0 :: J, t0 :: T, y, hy, hl, hnd, hT, hJ, h0, hd, j, hj => by
    obtain ⟨ht0, hnT⟩ := List.nodup_cons.1 hnd
    obtain ⟨t1, t2⟩ := hT t0 (List.mem_cons_self ..)
    have hj0 := hJ j0 (List.mem_cons_self ..)
    have ih := cauchy hn J T (fun j => mul (mul (y j) (j ^^^ j0)) (inv (t0 ^^^ j))) (fun j => mul_lt _ (mul_lt _ (hy j))) (by simpa using hl) hnT (fun t ht => hT t (List.mem_cons_of_mem _ ht)) (fun j hj => hJ j (List.mem_cons_of_mem _ hj))
      (fun j hj hn => by
        show mul (mul (y j) (j ^^^ j0)) (inv (t0 ^^^ j)) = 0
        by_cases e : j = j0
        · rw [e, Nat.xor_self, mul_zero_right, mul_zero_left]
        · rw [h0 j hj (fun h => by rcases List.mem_cons.1 h with h | h; exact e h; exact hn h), mul_zero_left, mul_zero_left])
      (fun t ht => by
        obtain ⟨u1, u2⟩ := hT t (List.mem_cons_of_mem _ ht)
        have hne : t ≠ t0 := fun e => ht0 (e ▸ ht)
        have key := dot_lin (a := t ^^^ t0) (b := t ^^^ j0) (c := t0 ^^^ j0) (f := fun j => inv (t ^^^ j)) (g := fun j => mul (mul (y j) (j ^^^ j0)) (inv (t0 ^^^ j))) (f' := fun j => inv (t ^^^ j)) (g' := y) (f2 := fun j => inv (t0 ^^^ j)) (g2 := y) n (fun k hk => by
          have q1 : t ^^^ k < 256 := xor_lt u1 (by omega)
          have q2 : t0 ^^^ k < 256 := xor_lt t1 (by omega)
          have q3 : k ^^^ j0 < 256 := xor_lt (by omega) (by omega)
          have e := cauchy_id q1 q2 q3 (inv_lt (t ^^^ k)) (inv_lt (t0 ^^^ k)) (hy k) (mul_inv q1 (xor_ne (by omega))) (mul_inv q2 (xor_ne (by omega)))
          rw [xor_via t t0 k, xor_via t j0 k, xor_via t0 j0 k, Nat.xor_comm k t0]
          exact e)
        rw [hd t (List.mem_cons_of_mem _ ht), hd t0 (List.mem_cons_self ..), mul_zero_right, mul_zero_right, Nat.xor_self] at key
        exact ((mul_eq_zero (xor_lt u1 t1) (dot_lt (fun j => inv_lt _) _ n)).1 key).resolve_left (xor_ne hne))
    have hz : ∀ k, k < n → k ≠ j0 → y k = 0 := fun k hk hne => by
      have h1 := ih k hk
      have q3 : k ^^^ j0 < 256 := xor_lt (by omega) (by omega)
      have q2 : t0 ^^^ k < 256 := xor_lt t1 (by omega)
      rcases (mul_eq_zero (mul_lt _ (hy k)) (inv_lt _)).1 h1 with h | h
      · exact ((mul_eq_zero (hy k) q3).1 h).resolve_right (xor_ne hne)
      · exact absurd h (inv_ne q2 (xor_ne (by omega)))
    by_cases e : j = j0
    · have h1 := hd t0 (List.mem_cons_self ..)
      rw [dot_only (j := j0) n hz, if_pos hj0] at h1
      rw [e]
      exact ((mul_eq_zero (inv_lt _) (hy j0)).1 h1).resolve_left (inv_ne (xor_lt t1 (by omega)) (xor_ne (by omega)))
    · exact hz j hj e

theorem nodup_len {α : Type} [DecidableEq α] : (l m : List α) → l.Nodup → (∀ a, a ∈ l → a ∈ m) → l.length ≤ m.length
  | [], _, _, _ => Nat.zero_le _
  | a :: l, m, hn, hs => by
    obtain ⟨h1, h2⟩ := List.nodup_cons.1 hn
    have ha := hs a (List.mem_cons_self ..)
    have ih := nodup_len l (m.erase a) h2 (fun b hb => (List.mem_erase_of_ne (fun e => by rw [e] at hb; exact h1 hb)).2 (hs b (List.mem_cons_of_mem _ hb)))
    rw [List.length_erase_of_mem ha] at ih
    have : 0 < m.length := List.length_pos_of_mem ha
    simp only [List.length_cons]
    omega

theorem filter_sum (n : Nat) : (P : List Nat) → (P.filter (fun k => decide (k < n))).length + (P.filter (fun k => decide (n ≤ k))).length = P.length
  | [] => rfl
  | a :: P => by
    have ih := filter_sum n P
    by_cases h : a < n
    · rw [List.filter_cons_of_pos (by simpa using h), List.filter_cons_of_neg (by simpa using h)]
      simp only [List.length_cons]
      omega
    · rw [List.filter_cons_of_neg (by simpa using h), List.filter_cons_of_pos (by simpa using h)]
      simp only [List.length_cons]
      omega

/-- Any rows, each once, as many as data: nothing but noughts is noughts by them. -/
theorem rows_not_sing {n : Nat} {pick : Nat → Nat} (hn : n ≤ 256) (hp : ∀ p, p < n → pick p < 256) (inj : ∀ p q, p < n → q < n → p ≠ q → pick p ≠ pick q) (hs : Sing n (fun p => rowF n (pick p))) : False := by
  obtain ⟨x, hx, h0, c, hc, hne⟩ := hs
  refine hne ?_
  have hP : ((List.range n).map pick).Nodup := by
    rw [List.nodup_iff_pairwise_ne, List.pairwise_map]
    refine List.Pairwise.imp_of_mem (fun {a b} ha hb hab => ?_) (List.nodup_iff_pairwise_ne.1 List.nodup_range)
    exact inj a b (List.mem_range.1 ha) (List.mem_range.1 hb) hab
  have hmem : ∀ k, k ∈ (List.range n).map pick → ∃ p, p < n ∧ pick p = k := fun k hk => by
    obtain ⟨p, h1, h2⟩ := List.mem_map.1 hk
    exact ⟨p, List.mem_range.1 h1, h2⟩
  have hlen : ((List.range n).map pick).length = n := by simp
  generalize (List.range n).map pick = P at hP hmem hlen
  have hsum := filter_sum n P
  rw [hlen] at hsum
  have hzS : ∀ k, k ∈ P.filter (fun k => decide (k < n)) → x k = 0 := fun k hk => by
    obtain ⟨h1, h2⟩ := List.mem_filter.1 hk
    have h2' : k < n := by simpa using h2
    obtain ⟨p, h3, rfl⟩ := hmem k h1
    have h4 := h0 p h3
    rw [← dot_one_left' hx h2', ← dot_congr (f := rowF n (pick p)) (f' := one (pick p)) (g := x) (g' := x) n (fun k _ => rowF_one h2' k) (fun _ _ => rfl)]
    exact h4
  have hJl : ((List.range n).filter (fun j => decide (j ∉ P.filter (fun k => decide (k < n))))).length ≤ (P.filter (fun k => decide (n ≤ k))).length := by
    have h1 := nodup_len (P.filter (fun k => decide (k < n)) ++ (List.range n).filter (fun j => decide (j ∉ P.filter (fun k => decide (k < n))))) (List.range n) (by
      rw [List.nodup_append]
      refine ⟨hP.filter _, List.nodup_range.filter _, fun a ha b hb e => ?_⟩
      have := (List.mem_filter.1 hb).2
      rw [decide_eq_true_iff] at this
      exact this (e ▸ ha)) (fun a ha => by
      rcases List.mem_append.1 ha with h | h
      · have := (List.mem_filter.1 h).2
        exact List.mem_range.2 (by simpa using this)
      · exact (List.mem_filter.1 h).1)
    rw [List.length_append, List.length_range] at h1
    omega
  refine cauchy hn ((List.range n).filter (fun j => decide (j ∉ P.filter (fun k => decide (k < n))))) (P.filter (fun k => decide (n ≤ k))) x hx hJl (hP.filter _) (fun t ht => ?_) (fun j hj => List.mem_range.1 (List.mem_filter.1 hj).1) (fun j hj hn' => ?_) (fun t ht => ?_) c hc
  · obtain ⟨h1, h2⟩ := List.mem_filter.1 ht
    obtain ⟨p, h3, rfl⟩ := hmem t h1
    exact ⟨hp p h3, by simpa using h2⟩
  · refine hzS j ?_
    refine Decidable.byContradiction (fun h => hn' (List.mem_filter.2 ⟨List.mem_range.2 hj, ?_⟩))
    rw [decide_eq_true_iff]
    exact h
  · obtain ⟨h1, h2⟩ := List.mem_filter.1 ht
    obtain ⟨p, h3, rfl⟩ := hmem t h1
    have h4 := h0 p h3
    rw [← dot_congr (f := rowF n (pick p)) (f' := fun j => inv (pick p ^^^ j)) (g := x) (g' := x) n (fun k _ => rowF_inv (by simpa using h2) k) (fun _ _ => rfl)]
    exact h4

/-- What undoes rows tells data of the shards that they tell. -/
theorem und_data {n : Nat} {m r D : Nat → Nat → Nat} (hm : Bd2 m) (hr : Bd2 r) (hD : Bd2 D) (h : Und n m r) (i j : Nat) (hi : i < n) : mm n r (mm n m D) i j = D i j := by
  rw [← mm_assoc hr hm, mm_congr (a' := one) (b' := D) (fun l hl => (h i l hi hl).2) (fun _ _ => rfl), one_mm hD j hi]

end Go.Proofs.Ytmlboaejkmffjad.Gf
