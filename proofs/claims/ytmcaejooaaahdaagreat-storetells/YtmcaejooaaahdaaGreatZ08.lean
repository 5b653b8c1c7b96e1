/-
  Texts of the proof, joined: RowC, Lls, Cau, Crc, BPure, SPure.
-/
import Derived.Test.YtmcaejooaaahdaaGreatZ07
import Derived.Test.YtmcaejooaaahdaaGreatZ05
namespace Go.Proofs.YtmcaejooaaahdaaGreat
open Go.RowKit

theorem i64_xor (a b : Int) (h1 : 0 ≤ a) (h2 : a < 9223372036854775808) (h3 : 0 ≤ b) (h4 : b < 9223372036854775808) : bits .xor .i64 a b = ((a.toNat ^^^ b.toNat : Nat) : Int) := by
  obtain ⟨A, rfl⟩ := Int.eq_ofNat_of_zero_le h1
  obtain ⟨B, rfl⟩ := Int.eq_ofNat_of_zero_le h3
  have hx : A ^^^ B < 2 ^ 63 := Nat.xor_lt_two_pow (by omega) (by omega)
  show IntKind.i64.wrap ((BitVec.ofInt 64 (A : Int) ^^^ BitVec.ofInt 64 (B : Int)).toNat : Int) = _
  rw [BitVec.toNat_xor, ofInt_u64 A (by omega), ofInt_u64 B (by omega), IntKind.wrap_i64, Int.toNat_natCast, Int.toNat_natCast]
  omega



/-- A list of rows that is appended to: k of them so far. -/
structure Acc (w : World) (N : Nat) (v : Value) (k c : Nat) (G K : Nat → Nat) (f : Nat → Nat → Nat) : Prop where
  own : w.ownsRow N 59 1 v k ((List.range k).map fun i => .slice (some ⟨G i, 0, none⟩) c (K i))
  row : ∀ i, i < k → N ≤ G i ∧ RowC w (G i) 5 c (fun j => .int .u8 (f i j : Nat))

theorem Acc.below {w w' : World} {N : Nat} {v : Value} {k c : Nat} {G K : Nat → Nat} {f : Nat → Nat → Nat} (h : Acc w N v k c G K f) (hb : Below w.heap.size w w') : Acc w' N v k c G K f :=
  ⟨owns_below h.own hb, fun i hi => ⟨(h.row i hi).1, (h.row i hi).2.below hb⟩⟩
theorem Acc.start (w : World) (N c : Nat) (G K : Nat → Nat) (f : Nat → Nat → Nat) : Acc w N (.slice none 0 0) 0 c G K f :=
  ⟨World.ownsRow_nil w N _ 1, fun i hi => absurd hi (Nat.not_lt_zero i)⟩
theorem Acc.step {w w' : World} {N : Nat} {v v' : Value} {k c : Nat} {G K : Nat → Nat} {f : Nat → Nat → Nat} {gk Kk : Nat} (h : Acc w N v k c G K f) (hr : N ≤ gk ∧ RowC w gk 5 c (fun j => .int .u8 (f k j : Nat)))
    (ho : w'.ownsRow N 59 1 v' (k + 1) (((List.range k).map fun i => .slice (some ⟨G i, 0, none⟩) c (K i)) ++ [.slice (some ⟨gk, 0, none⟩) c Kk])) (hg : w.grownBy w' v.ownBlock) : Acc w' N v' (k + 1) c (updG G k gk) (updG K k Kk) f := by
  have keep : ∀ x F, RowC w x 5 c F → RowC w' x 5 c F := fun x F hx => hx.of_block (hg.block x hx.lt (fun e => by
    obtain ⟨F2, h2⟩ := owns_block h.own e.symm
    exact hx.ne h2 (by decide) rfl))
  refine ⟨?_, fun i hi => ?_⟩
  · have e : (List.range (k + 1)).map (fun i => Value.slice (some ⟨updG G k gk i, 0, none⟩) c (updG K k Kk i)) = ((List.range k).map fun i => .slice (some ⟨G i, 0, none⟩) c (K i)) ++ [.slice (some ⟨gk, 0, none⟩) c Kk] := by
      rw [List.range_succ, List.map_append]
      congr 1
      · refine List.map_congr_left (fun i hi => ?_)
        have := List.mem_range.1 hi
        unfold updG
        rw [if_neg (by omega), if_neg (by omega)]
      · unfold updG
        simp
    rw [e]
    exact ho
  · unfold updG
    by_cases e : i = k
    · rw [if_pos e, e]
      exact ⟨hr.1, keep _ _ hr.2⟩
    · rw [if_neg e]
      exact ⟨(h.row i (by omega)).1, keep _ _ (h.row i (by omega)).2⟩
theorem Acc.mx {w : World} {N : Nat} {v : Value} {k c : Nat} {G K : Nat → Nat} {f : Nat → Nat → Nat} (h : Acc w N v k c G K f) (bd : Gf.Bd2 f) (dim : 1 ≤ k ∧ k ≤ 12 ∧ 1 ≤ c ∧ c ≤ 400) : Mx w v k c f := by
  obtain ⟨g, cap, hv, _, _, hr⟩ := rowC_owns h.own dim.1
  refine ⟨bd, dim, g, 0, cap, G, fun _ => 0, K, hv, fun r hr' => ?_, fun r hr' j hj => ?_⟩
  · rw [Nat.zero_add, hr.cell hr']
    simp [List.getD, hr']
  · rw [Nat.zero_add]
    exact (h.row r hr').2.cell hj

end Go.Proofs.YtmcaejooaaahdaaGreat

namespace Go.Proofs.YtmcaejooaaahdaaGreat
open Go.ChangeShapes Go.WideShapes Go.ChangeAt Go.RowKit

/-- n lists of bytes, list r of L r bytes. -/
structure Lls (w : World) (v : Value) (n : Nat) (L : Nat → Nat) (f : Nat → Nat → Nat) : Prop where
  bd : Gf.Bd2 f
  lies : ∃ (A : Option Addr) (cap : Nat), v = .slice A n cap ∧ n ≤ cap ∧ cap ≤ maxLen ∧ ∀ r, r < n → ∃ b o u, A = some ⟨b, o, none⟩ ∧ w.cell? ⟨b, o + r, none⟩ = some u ∧ Byts w u (L r) (f r)
theorem Lls.below {w w' : World} {v : Value} {n : Nat} {L : Nat → Nat} {f : Nat → Nat → Nat} (h : Lls w v n L f) (hb : Below w.heap.size w w') : Lls w' v n L f := by
  obtain ⟨A, cap, hv, h1, h2, hr⟩ := h.lies
  refine ⟨h.bd, A, cap, hv, h1, h2, fun r hrn => ?_⟩
  obtain ⟨b, o, u, e1, e2, e3⟩ := hr r hrn
  exact ⟨b, o, u, e1, (hb.cell (p := ⟨b, o + r, none⟩) (World.block_lt_of_cell? _ _ e2)).trans e2, e3.below hb⟩
theorem Lls.shape {w : World} {v : Value} {n : Nat} {L : Nat → Nat} {f : Nat → Nat → Nat} (h : Lls w v n L f) : ∃ A C, v = .slice A n C := by
  obtain ⟨A, C, hv, _⟩ := h.lies
  exact ⟨A, C, hv⟩
theorem Lls.len {w : World} {v : Value} {n : Nat} {L : Nat → Nat} {f : Nat → Nat → Nat} (h : Lls w v n L f) : n ≤ 9223372036854775807 := by
  obtain ⟨A, C, _, h1, h2, _⟩ := h.lies
  unfold maxLen at h2
  omega
theorem Lls.nil (w : World) (L : Nat → Nat) : Lls w (.slice none 0 0) 0 L (fun _ _ => 0) := ⟨fun _ _ => Nat.zero_lt_succ 255, none, 0, rfl, Nat.le_refl _, Nat.zero_le _, fun r hr => absurd hr (Nat.not_lt_zero r)⟩
/-- List r, where it lies. -/
theorem Lls.at {w : World} {A : Option Addr} {n C : Nat} {L : Nat → Nat} {f : Nat → Nat → Nat} (h : Lls w (.slice A n C) n L f) {r : Nat} (hr : r < n) : ∃ b o R K, A = Option.some ⟨b, o, Option.none⟩ ∧ w.cell? ⟨b, o + r, Option.none⟩ = Option.some (.slice R (L r) K) ∧ Byts w (.slice R (L r) K) (L r) (f r) := by
  obtain ⟨A', C', hv, _, _, hc⟩ := h.lies
  cases hv
  obtain ⟨b, o, u, e1, e2, e3⟩ := hc r hr
  obtain ⟨R, K, rfl⟩ : ∃ R K, u = .slice R (L r) K := by
    obtain ⟨_, R, K, hv, _⟩ := e3
    exact ⟨R, K, hv⟩
  exact ⟨b, o, R, K, e1, e2, e3⟩
theorem Lls.arg {w : World} {v : Value} {n : Nat} {L : Nat → Nat} {f : Nat → Nat → Nat} (h : Lls w v n L f) : Arg w v n L f := by
  obtain ⟨A, C, rfl⟩ := h.shape
  have each : ∀ r, r < n → ∃ q : Option Addr × Nat, ∃ b o, A = some ⟨b, o, none⟩ ∧ w.cell? ⟨b, o + r, none⟩ = some (.slice q.1 (L r) q.2) ∧ Byts w (.slice q.1 (L r) q.2) (L r) (f r) := fun r hr => by
    obtain ⟨b, o, R, K, e1, e2, e3⟩ := h.at hr
    exact ⟨(R, K), b, o, e1, e2, e3⟩
  obtain ⟨q, hq⟩ := Deep.choose_lt each
  refine ⟨h.bd, A, C, fun r => (q r).1, fun r => (q r).2, rfl, fun r hr => ?_⟩
  obtain ⟨b, o, e1, e2, e3⟩ := hq r hr
  refine ⟨b, o, e1, e2, fun k hk => ?_⟩
  obtain ⟨_, A', C', hv, _, _, hc⟩ := e3
  cases hv
  exact hc k hk

end Go.Proofs.YtmcaejooaaahdaaGreat

namespace Go.Proofs.YtmcaejooaaahdaaGreat.Gf

/-- Row i of what shards are of n data. -/
def rowF (n i j : Nat) : Nat := if i < n then one i j else inv (i ^^^ j)
theorem rowF_bd (n : Nat) : Bd2 (rowF n) := fun i j => by
  unfold rowF
  split
  · exact one_lt _ _
  · exact inv_lt _
theorem rowF_one {n i : Nat} (h : i < n) (j : Nat) : rowF n i j = one i j := if_pos h
theorem rowF_inv {n i : Nat} (h : n ≤ i) (j : Nat) : rowF n i j = inv (i ^^^ j) := if_neg (by omega)

theorem xor_ne {a b : Nat} (h : a ≠ b) : a ^^^ b ≠ 0 := fun e => h (by
  have h1 : a ^^^ b ^^^ b = 0 ^^^ b := by rw [e]
  rw [Nat.xor_assoc, Nat.xor_self, Nat.xor_zero, Nat.zero_xor] at h1
  exact h1)
theorem xor_via (a b c : Nat) : a ^^^ b = (a ^^^ c) ^^^ (c ^^^ b) := by
  rw [Nat.xor_assoc, ← Nat.xor_assoc c c b, Nat.xor_self, Nat.zero_xor]

/-- What times u, and times v, is 1, taken apart. -/
theorem cauchy_id {u v d A B Y : Nat} (hu : u < 256) (hv : v < 256) (hd : d < 256) (hA : A < 256) (hB : B < 256) (hY : Y < 256) (h1 : mul u A = 1) (h2 : mul v B = 1) :
    mul (u ^^^ v) (mul A (mul (mul Y d) B)) = mul (u ^^^ d) (mul A Y) ^^^ mul (v ^^^ d) (mul B Y) := by
  have hZ : mul Y d < 256 := mul_lt _ hY
  have e1 : mul u (mul A (mul (mul Y d) B)) = mul (mul Y d) B := by rw [← mul_assoc _ hu hA, h1, one_mul (mul_lt _ hZ)]
  have e2 : mul v (mul A (mul (mul Y d) B)) = mul A (mul Y d) := by
    rw [mul_comm hv (mul_lt _ hA), mul_assoc _ hA (mul_lt _ hZ), mul_assoc _ hZ hB, mul_comm hB hv, h2, mul_one hZ]
  have e3 : mul u (mul A Y) = Y := by rw [← mul_assoc _ hu hA, h1, one_mul hY]
  have e4 : mul v (mul B Y) = Y := by rw [← mul_assoc _ hv hB, h2, one_mul hY]
  have e5 : mul d (mul A Y) = mul A (mul Y d) := by rw [mul_comm hd (mul_lt _ hA), mul_assoc _ hA hY]
  have e6 : mul d (mul B Y) = mul (mul Y d) B := by rw [mul_comm hd (mul_lt _ hB), mul_assoc _ hB hY, mul_comm hB hZ]
  rw [mul_xor_left _ hu hv, mul_xor_left _ hu hd, mul_xor_left _ hv hd, e1, e2, e3, e4, e5, e6, xor_swap, Nat.xor_self, Nat.zero_xor, Nat.xor_comm]

theorem dot_lin {a b c : Nat} {f g f' g' f2 g2 : Nat → Nat} : (n : Nat) → (∀ k, k < n → mul a (mul (f k) (g k)) = mul b (mul (f' k) (g' k)) ^^^ mul c (mul (f2 k) (g2 k))) → mul a (dot n f g) = mul b (dot n f' g') ^^^ mul c (dot n f2 g2)
  | 0, _ => by
    show mul a 0 = mul b 0 ^^^ mul c 0
    rw [mul_zero_right, mul_zero_right, mul_zero_right, Nat.xor_self]
  | n + 1, h => by
    show mul a (dot n f g ^^^ mul (f n) (g n)) = mul b (dot n f' g' ^^^ mul (f' n) (g' n)) ^^^ mul c (dot n f2 g2 ^^^ mul (f2 n) (g2 n))
    rw [mul_xor_right, mul_xor_right, mul_xor_right, dot_lin n (fun k hk => h k (by omega)), h n (by omega), xor_swap]
theorem dot_only {f g : Nat → Nat} {j : Nat} : (n : Nat) → (∀ k, k < n → k ≠ j → g k = 0) → dot n f g = if j < n then mul (f j) (g j) else 0
  | 0, _ => rfl
  | n + 1, h => by
    show dot n f g ^^^ mul (f n) (g n) = _
    rw [dot_only n (fun k hk => h k (by omega))]
    by_cases e : j = n
    · rw [if_neg (by omega), if_pos (by omega), Nat.zero_xor, e]
    · rw [h n (by omega) (fun h => e h.symm), mul_zero_right, Nat.xor_zero]
      by_cases h' : j < n
      · rw [if_pos h', if_pos (by omega)]
      · rw [if_neg h', if_neg (by omega)]

theorem cauchy {n : Nat} (hn : n ≤ 256) : (J T : List Nat) → (y : Nat → Nat) → Bd y → J.length ≤ T.length → T.Nodup → (∀ t, t ∈ T → t < 256 ∧ n ≤ t) → (∀ j, j ∈ J → j < n) → (∀ j, j < n → j ∉ J → y j = 0) → (∀ t, t ∈ T → dot n (fun j => inv (t ^^^ j)) y = 0) → ∀ j, j < n → y j = 0
  | [], _, y, _, _, _, _, _, h0, _, j, hj => h0 j hj (fun h => by cases h)
  | j0 :: J, [], _, _, hl, _, _, _, _, _, _, _ => by simp at hl
  | j0 :: J, t0 :: T, y, hy, hl, hnd, hT, hJ, h0, hd, j, hj => by
    obtain ⟨ht0, hnT⟩ := List.nodup_cons.1 hnd
    obtain ⟨t1, t2⟩ := hT t0 (List.mem_cons_self ..)
    have hj0 := hJ j0 (List.mem_cons_self ..)
    have ih := cauchy hn J T (fun j => mul (mul (y j) (j ^^^ j0)) (inv (t0 ^^^ j))) (fun j => mul_lt _ (mul_lt _ (hy j))) (by simpa using hl) hnT (fun t ht => hT t (List.mem_cons_of_mem _ ht)) (fun j hj => hJ j (List.mem_cons_of_mem _ hj))
      (fun j hj hn => by
        show mul (mul (y j) (j ^^^ j0)) (inv (t0 ^^^ j)) = 0
        by_cases e : j = j0
        · rw [e, Nat.xor_self, mul_zero_right, mul_zero_left]
        · rw [h0 j hj (fun h => by rcases List.mem_cons.1 h with h | h; exact e h; exact hn h), mul_zero_left, mul_zero_left])
      (fun t ht => by
        obtain ⟨u1, u2⟩ := hT t (List.mem_cons_of_mem _ ht)
        have hne : t ≠ t0 := fun e => ht0 (e ▸ ht)
        have key := dot_lin (a := t ^^^ t0) (b := t ^^^ j0) (c := t0 ^^^ j0) (f := fun j => inv (t ^^^ j)) (g := fun j => mul (mul (y j) (j ^^^ j0)) (inv (t0 ^^^ j))) (f' := fun j => inv (t ^^^ j)) (g' := y) (f2 := fun j => inv (t0 ^^^ j)) (g2 := y) n (fun k hk => by
          have q1 : t ^^^ k < 256 := xor_lt u1 (by omega)
          have q2 : t0 ^^^ k < 256 := xor_lt t1 (by omega)
          have q3 : k ^^^ j0 < 256 := xor_lt (by omega) (by omega)
          have e := cauchy_id q1 q2 q3 (inv_lt (t ^^^ k)) (inv_lt (t0 ^^^ k)) (hy k) (mul_inv q1 (xor_ne (by omega))) (mul_inv q2 (xor_ne (by omega)))
          rw [xor_via t t0 k, xor_via t j0 k, xor_via t0 j0 k, Nat.xor_comm k t0]
          exact e)
        rw [hd t (List.mem_cons_of_mem _ ht), hd t0 (List.mem_cons_self ..), mul_zero_right, mul_zero_right, Nat.xor_self] at key
        exact ((mul_eq_zero (xor_lt u1 t1) (dot_lt (fun j => inv_lt _) _ n)).1 key).resolve_left (xor_ne hne))
    have hz : ∀ k, k < n → k ≠ j0 → y k = 0 := fun k hk hne => by
      have h1 := ih k hk
      have q3 : k ^^^ j0 < 256 := xor_lt (by omega) (by omega)
      have q2 : t0 ^^^ k < 256 := xor_lt t1 (by omega)
      rcases (mul_eq_zero (mul_lt _ (hy k)) (inv_lt _)).1 h1 with h | h
      · exact ((mul_eq_zero (hy k) q3).1 h).resolve_right (xor_ne hne)
      · exact absurd h (inv_ne q2 (xor_ne (by omega)))
    by_cases e : j = j0
    · have h1 := hd t0 (List.mem_cons_self ..)
      rw [dot_only (j := j0) n hz, if_pos hj0] at h1
      rw [e]
      exact ((mul_eq_zero (inv_lt _) (hy j0)).1 h1).resolve_left (inv_ne (xor_lt t1 (by omega)) (xor_ne (by omega)))
    · exact hz j hj e

theorem nodup_len {α : Type} [DecidableEq α] : (l m : List α) → l.Nodup → (∀ a, a ∈ l → a ∈ m) → l.length ≤ m.length
  | [], _, _, _ => Nat.zero_le _
  | a :: l, m, hn, hs => by
    obtain ⟨h1, h2⟩ := List.nodup_cons.1 hn
    have ha := hs a (List.mem_cons_self ..)
    have ih := nodup_len l (m.erase a) h2 (fun b hb => (List.mem_erase_of_ne (fun e => by rw [e] at hb; exact h1 hb)).2 (hs b (List.mem_cons_of_mem _ hb)))
    rw [List.length_erase_of_mem ha] at ih
    have : 0 < m.length := List.length_pos_of_mem ha
    simp only [List.length_cons]
    omega

theorem filter_sum (n : Nat) : (P : List Nat) → (P.filter (fun k => decide (k < n))).length + (P.filter (fun k => decide (n ≤ k))).length = P.length
  | [] => rfl
  | a :: P => by
    have ih := filter_sum n P
    by_cases h : a < n
    · rw [List.filter_cons_of_pos (by simpa using h), List.filter_cons_of_neg (by simpa using h)]
      simp only [List.length_cons]
      omega
    · rw [List.filter_cons_of_neg (by simpa using h), List.filter_cons_of_pos (by simpa using h)]
      simp only [List.length_cons]
      omega

/-- Any rows, each once, as many as data: nothing but noughts is noughts by them. -/
theorem rows_not_sing {n : Nat} {pick : Nat → Nat} (hn : n ≤ 256) (hp : ∀ p, p < n → pick p < 256) (inj : ∀ p q, p < n → q < n → p ≠ q → pick p ≠ pick q) (hs : Sing n (fun p => rowF n (pick p))) : False := by
  obtain ⟨x, hx, h0, c, hc, hne⟩ := hs
  refine hne ?_
  have hP : ((List.range n).map pick).Nodup := by
    rw [List.nodup_iff_pairwise_ne, List.pairwise_map]
    refine List.Pairwise.imp_of_mem (fun {a b} ha hb hab => ?_) (List.nodup_iff_pairwise_ne.1 List.nodup_range)
    exact inj a b (List.mem_range.1 ha) (List.mem_range.1 hb) hab
  have hmem : ∀ k, k ∈ (List.range n).map pick → ∃ p, p < n ∧ pick p = k := fun k hk => by
    obtain ⟨p, h1, h2⟩ := List.mem_map.1 hk
    exact ⟨p, List.mem_range.1 h1, h2⟩
  have hlen : ((List.range n).map pick).length = n := by simp
  generalize (List.range n).map pick = P at hP hmem hlen
  have hsum := filter_sum n P
  rw [hlen] at hsum
  have hzS : ∀ k, k ∈ P.filter (fun k => decide (k < n)) → x k = 0 := fun k hk => by
    obtain ⟨h1, h2⟩ := List.mem_filter.1 hk
    have h2' : k < n := by simpa using h2
    obtain ⟨p, h3, rfl⟩ := hmem k h1
    have h4 := h0 p h3
    rw [← dot_one_left' hx h2', ← dot_congr (f := rowF n (pick p)) (f' := one (pick p)) (g := x) (g' := x) n (fun k _ => rowF_one h2' k) (fun _ _ => rfl)]
    exact h4
  have hJl : ((List.range n).filter (fun j => decide (j ∉ P.filter (fun k => decide (k < n))))).length ≤ (P.filter (fun k => decide (n ≤ k))).length := by
    have h1 := nodup_len (P.filter (fun k => decide (k < n)) ++ (List.range n).filter (fun j => decide (j ∉ P.filter (fun k => decide (k < n))))) (List.range n) (by
      rw [List.nodup_append]
      refine ⟨hP.filter _, List.nodup_range.filter _, fun a ha b hb e => ?_⟩
      have := (List.mem_filter.1 hb).2
      rw [decide_eq_true_iff] at this
      exact this (e ▸ ha)) (fun a ha => by
      rcases List.mem_append.1 ha with h | h
      · have := (List.mem_filter.1 h).2
        exact List.mem_range.2 (by simpa using this)
      · exact (List.mem_filter.1 h).1)
    rw [List.length_append, List.length_range] at h1
    omega
  refine cauchy hn ((List.range n).filter (fun j => decide (j ∉ P.filter (fun k => decide (k < n))))) (P.filter (fun k => decide (n ≤ k))) x hx hJl (hP.filter _) (fun t ht => ?_) (fun j hj => List.mem_range.1 (List.mem_filter.1 hj).1) (fun j hj hn' => ?_) (fun t ht => ?_) c hc
  · obtain ⟨h1, h2⟩ := List.mem_filter.1 ht
    obtain ⟨p, h3, rfl⟩ := hmem t h1
    exact ⟨hp p h3, by simpa using h2⟩
  · refine hzS j ?_
    refine Decidable.byContradiction (fun h => hn' (List.mem_filter.2 ⟨List.mem_range.2 hj, ?_⟩))
    rw [decide_eq_true_iff]
    exact h
  · obtain ⟨h1, h2⟩ := List.mem_filter.1 ht
    obtain ⟨p, h3, rfl⟩ := hmem t h1
    have h4 := h0 p h3
    rw [← dot_congr (f := rowF n (pick p)) (f' := fun j => inv (pick p ^^^ j)) (g := x) (g' := x) n (fun k _ => rowF_inv (by simpa using h2) k) (fun _ _ => rfl)]
    exact h4

/-- What undoes rows tells data of the shards that they tell. -/
theorem und_data {n : Nat} {m r D : Nat → Nat → Nat} (hm : Bd2 m) (hr : Bd2 r) (hD : Bd2 D) (h : Und n m r) (i j : Nat) (hi : i < n) : mm n r (mm n m D) i j = D i j := by
  rw [← mm_assoc hr hm, mm_congr (a' := one) (b' := D) (fun l hl => (h i l hi hl).2) (fun _ _ => rfl), one_mm hD j hi]

end Go.Proofs.YtmcaejooaaahdaaGreat.Gf

/-
  The plain arithmetic of the sum of bytes (CRC-32C): a byte that is another one gives another sum. Nothing of the program is named here.
-/
namespace Go.Proofs.YtmcaejooaaahdaaGreat.Crc

/-- The polynomial, its bits turned round. -/
def poly : Nat := 2197175160
/-- One bit. -/
def half (c : Nat) : Nat := c / 2 ^^^ (if c % 2 = 1 then poly else 0)
/-- k bits. -/
def halves : Nat → Nat → Nat
  | 0, c => c
  | k + 1, c => half (halves k c)
/-- One byte. -/
def step (c x : Nat) : Nat := halves 8 (c ^^^ x)
/-- The first n bytes. -/
def run (f : Nat → Nat) : Nat → Nat
  | 0 => 4294967295
  | n + 1 => step (run f n) (f n)
def sum (f : Nat → Nat) (n : Nat) : Nat := run f n ^^^ 4294967295

theorem half_lt {c : Nat} (h : c < 2 ^ 32) : half c < 2 ^ 32 := by
  unfold half
  refine Nat.xor_lt_two_pow (by omega) ?_
  split
  · decide
  · decide
theorem halves_lt {c : Nat} (h : c < 2 ^ 32) : (k : Nat) → halves k c < 2 ^ 32
  | 0 => h
  | k + 1 => half_lt (halves_lt h k)
theorem xor32 {a b : Nat} (ha : a < 2 ^ 32) (hb : b < 2 ^ 32) : a ^^^ b < 2 ^ 32 := Nat.xor_lt_two_pow ha hb
theorem step_lt {c x : Nat} (h : c < 2 ^ 32) (hx : x < 256) : step c x < 2 ^ 32 := halves_lt (xor32 h (by omega)) 8
theorem run_lt {f : Nat → Nat} (hf : ∀ k, f k < 256) : (n : Nat) → run f n < 2 ^ 32
  | 0 => show 4294967295 < 2 ^ 32 by decide
  | n + 1 => step_lt (run_lt hf n) (hf n)
theorem sum_lt {f : Nat → Nat} (hf : ∀ k, f k < 256) (n : Nat) : sum f n < 2 ^ 32 := xor32 (run_lt hf n) (by decide)

theorem run_congr {f g : Nat → Nat} : (n : Nat) → (∀ k, k < n → f k = g k) → run f n = run g n
  | 0, _ => rfl
  | n + 1, h => by
    show step (run f n) (f n) = step (run g n) (g n)
    rw [run_congr n (fun k hk => h k (by omega)), h n (by omega)]

/-! ### By a byte's own rest: what a table of 256 numbers tells -/
theorem half_xor (a b : Nat) : half (a ^^^ b) = half a ^^^ half b := by
  unfold half
  have h1 : (a ^^^ b) / 2 = a / 2 ^^^ b / 2 := Nat.xor_div_two_pow (n := 1)
  have h2 : (a ^^^ b) % 2 = (a % 2 ^^^ b % 2) := Nat.xor_mod_two_pow (n := 1)
  rw [h1, h2]
  rcases Nat.mod_two_eq_zero_or_one a with ea | ea <;> rcases Nat.mod_two_eq_zero_or_one b with eb | eb <;> rw [ea, eb]
  · simp
  · simp [Nat.xor_assoc]
  · simp
    rw [Nat.xor_assoc, Nat.xor_assoc, Nat.xor_comm poly]
  · simp
    rw [Nat.xor_assoc, Nat.xor_comm poly, Nat.xor_assoc, Nat.xor_self, Nat.xor_zero]
theorem halves_xor (a b : Nat) : (k : Nat) → halves k (a ^^^ b) = halves k a ^^^ halves k b
  | 0 => rfl
  | k + 1 => by
    show half (halves k (a ^^^ b)) = _
    rw [halves_xor a b k, half_xor]
    rfl
theorem halves_high (y : Nat) : (k : Nat) → (j : Nat) → halves k (y * 2 ^ (k + j)) = y * 2 ^ j
  | 0, j => by rw [Nat.zero_add]; rfl
  | k + 1, j => by
    show half (halves k (y * 2 ^ (k + 1 + j))) = _
    rw [show k + 1 + j = k + (j + 1) by omega, halves_high y k (j + 1)]
    unfold half
    rw [if_neg (by rw [Nat.pow_succ, ← Nat.mul_assoc]; omega), Nat.xor_zero, Nat.pow_succ, ← Nat.mul_assoc, Nat.mul_div_cancel _ (by decide)]
theorem split8 (c : Nat) : c = c % 256 ^^^ (c / 256) * 2 ^ 8 := by
  apply Nat.eq_of_testBit_eq
  intro i
  rw [Nat.testBit_xor, show c % 256 = c % 2 ^ 8 from rfl, Nat.testBit_mod_two_pow, Nat.testBit_mul_two_pow, show c / 256 = c / 2 ^ 8 from rfl, Nat.testBit_div_two_pow]
  by_cases h : i < 8
  · simp [h, show ¬ 8 ≤ i by omega]
  · simp [h, show 8 ≤ i by omega]
/-- A byte's step by the rest of one byte alone. -/
theorem step_table (c x : Nat) : step c x = halves 8 ((c ^^^ x) % 256) ^^^ (c ^^^ x) / 256 := by
  unfold step
  conv => lhs; rw [split8 (c ^^^ x)]
  rw [halves_xor]
  congr 1
  have := halves_high ((c ^^^ x) / 256) 8 0
  rw [Nat.pow_zero, Nat.mul_one] at this
  exact this

end Go.Proofs.YtmcaejooaaahdaaGreat.Crc

namespace Go.Proofs.YtmcaejooaaahdaaGreat.Crc

/-- What is wrong with a block of n bytes. -/
def wrongB (s h z : Int) (n : Nat) : Nat := if s < 0 ∨ 39 < s ∨ h < 0 ∨ 11 < h ∨ z < 0 ∨ 3200 < z then 3 else if n < 1 ∨ 400 < n then 5 else 0
theorem wrongB_range {s h z : Int} {n : Nat} (e : s < 0 ∨ 39 < s ∨ h < 0 ∨ 11 < h ∨ z < 0 ∨ 3200 < z) : wrongB s h z n = 3 := if_pos e
theorem wrongB_many {s h z : Int} {n : Nat} (e : ¬ (s < 0 ∨ 39 < s ∨ h < 0 ∨ 11 < h ∨ z < 0 ∨ 3200 < z)) (e2 : n < 1 ∨ 400 < n) : wrongB s h z n = 5 := by unfold wrongB; rw [if_neg e, if_pos e2]
theorem wrongB_ok {s h z : Int} {n : Nat} (e : ¬ (s < 0 ∨ 39 < s ∨ h < 0 ∨ 11 < h ∨ z < 0 ∨ 3200 < z)) (e2 : ¬ (n < 1 ∨ 400 < n)) : wrongB s h z n = 0 := by unfold wrongB; rw [if_neg e, if_neg e2]
theorem wrongB_inv {s h z : Int} {n : Nat} (e : wrongB s h z n = 0) : (0 ≤ s ∧ s ≤ 39 ∧ 0 ≤ h ∧ h ≤ 11 ∧ 0 ≤ z ∧ z ≤ 3200) ∧ 1 ≤ n ∧ n ≤ 400 := by
  unfold wrongB at e
  split at e
  · cases e
  · split at e
    · cases e
    · omega
/-- What stands ahead of the sum. -/
def hd (s h z n : Nat) (f : Nat → Nat) : Nat → Nat
  | 0 => 83
  | 1 => s
  | 2 => h
  | 3 => z / 256
  | 4 => z % 256
  | 5 => n / 256
  | 6 => n % 256
  | k + 7 => f k
theorem hd_bd {s h z n : Nat} {f : Nat → Nat} (h1 : s < 256) (h2 : h < 256) (h3 : z < 65536) (h4 : n < 65536) (hf : ∀ k, f k < 256) : ∀ k, hd s h z n f k < 256
  | 0 => show 83 < 256 by decide
  | 1 => h1
  | 2 => h2
  | 3 => show z / 256 < 256 by omega
  | 4 => show z % 256 < 256 by omega
  | 5 => show n / 256 < 256 by omega
  | 6 => show n % 256 < 256 by omega
  | k + 7 => hf k
/-- Byte k of a sum, the lowest one first. -/
def low (x k : Nat) : Nat := x / 256 ^ k % 256
theorem low_lt (x k : Nat) : low x k < 256 := Nat.mod_lt _ (by decide)
/-- The sum that four bytes tell. -/
def four (g : Nat → Nat) (o : Nat) : Nat := g o + g (o + 1) * 256 + g (o + 2) * 65536 + g (o + 3) * 16777216
theorem four_low {x : Nat} (hx : x < 2 ^ 32) {g : Nat → Nat} {o : Nat} (h : ∀ k, k < 4 → g (o + k) = low x k) : four g o = x := by
  unfold four
  have h0 := h 0 (by decide)
  have h1 := h 1 (by decide)
  have h2 := h 2 (by decide)
  have h3 := h 3 (by decide)
  unfold low at h0 h1 h2 h3
  rw [Nat.add_zero] at h0
  omega
/-- A block's bytes. -/
def enc (s h z n : Nat) (f : Nat → Nat) (k : Nat) : Nat := if k < n + 7 then hd s h z n f k else low (sum (hd s h z n f) (n + 7)) (k - (n + 7))
theorem enc_hd {s h z n : Nat} {f : Nat → Nat} {k : Nat} (hk : k < n + 7) : enc s h z n f k = hd s h z n f k := if_pos hk
theorem enc_low {s h z n : Nat} {f : Nat → Nat} {k : Nat} : enc s h z n f (n + 7 + k) = low (sum (hd s h z n f) (n + 7)) k := by
  unfold enc
  rw [if_neg (by omega), Nat.add_sub_cancel_left]
theorem enc_bd {s h z n : Nat} {f : Nat → Nat} (h1 : s < 256) (h2 : h < 256) (h3 : z < 65536) (h4 : n < 65536) (hf : ∀ k, f k < 256) (k : Nat) : enc s h z n f k < 256 := by
  unfold enc
  split
  · exact hd_bd h1 h2 h3 h4 hf k
  · exact low_lt _ _
theorem sum_congr {f g : Nat → Nat} (n : Nat) (h : ∀ k, k < n → f k = g k) : sum f n = sum g n := by
  unfold sum
  rw [run_congr n h]
theorem sum_enc (s h z n : Nat) (f : Nat → Nat) : sum (enc s h z n f) (n + 7) = sum (hd s h z n f) (n + 7) := sum_congr _ (fun _ hk => enc_hd hk)
theorem four_enc {s h z n : Nat} {f : Nat → Nat} (h1 : s < 256) (h2 : h < 256) (h3 : z < 65536) (h4 : n < 65536) (hf : ∀ k, f k < 256) : four (enc s h z n f) (n + 7) = sum (hd s h z n f) (n + 7) :=
  four_low (sum_lt (hd_bd h1 h2 h3 h4 hf) _) (fun _ _ => enc_low)

/-- What is told of n bytes. -/
def parseE (g : Nat → Nat) (n : Nat) : Nat := if n < 12 ∨ g 0 ≠ 83 ∨ n ≠ 11 + (g 5 * 256 + g 6) then 2 else if sum g (n - 4) ≠ four g (n - 4) then 9 else wrongB (g 1) (g 2) (g 3 * 256 + g 4 : Nat) (n - 11)
theorem parse_form {g : Nat → Nat} {n : Nat} (h : n < 12 ∨ g 0 ≠ 83 ∨ n ≠ 11 + (g 5 * 256 + g 6)) : parseE g n = 2 := if_pos h
theorem parse_sum {g : Nat → Nat} {n : Nat} (h : ¬ (n < 12 ∨ g 0 ≠ 83 ∨ n ≠ 11 + (g 5 * 256 + g 6))) (h2 : sum g (n - 4) ≠ four g (n - 4)) : parseE g n = 9 := by unfold parseE; rw [if_neg h, if_pos h2]
theorem parse_else {g : Nat → Nat} {n : Nat} (h : ¬ (n < 12 ∨ g 0 ≠ 83 ∨ n ≠ 11 + (g 5 * 256 + g 6))) (h2 : sum g (n - 4) = four g (n - 4)) : parseE g n = wrongB (g 1) (g 2) (g 3 * 256 + g 4 : Nat) (n - 11) := by unfold parseE; rw [if_neg h, if_neg (fun k => k h2)]
/-- What is written is read. -/
theorem parse_enc {s h z n : Nat} {f : Nat → Nat} (hf : ∀ k, f k < 256) (hw : wrongB s h z n = 0) : parseE (enc s h z n f) (n + 11) = 0 := by
  have hb := wrongB_inv hw
  have e1 : enc s h z n f 1 = s := enc_hd (by omega)
  have e2 : enc s h z n f 2 = h := enc_hd (by omega)
  have e3 : enc s h z n f 3 = z / 256 := enc_hd (by omega)
  have e4 : enc s h z n f 4 = z % 256 := enc_hd (by omega)
  have e5 : enc s h z n f 5 = n / 256 := enc_hd (by omega)
  have e6 : enc s h z n f 6 = n % 256 := enc_hd (by omega)
  have e0 : enc s h z n f 0 = 83 := enc_hd (by omega)
  rw [parse_else (by rw [e0, e5, e6]; omega) (by rw [show n + 11 - 4 = n + 7 by omega, sum_enc, four_enc (by omega) (by omega) (by omega) (by omega) hf]), e1, e2, e3, e4, show z / 256 * 256 + z % 256 = z by omega, show n + 11 - 11 = n by omega]
  exact hw
end Go.Proofs.YtmcaejooaaahdaaGreat.Crc

namespace Go.Proofs.YtmcaejooaaahdaaGreat.Seg

/-- How many bytes a shard has: the least number, 1 at least, with which d of them have room for L. -/
def layN (L d : Nat) : Nat := if L ≤ d then 1 else (L + d - 1) / d
theorem layN_pos (L d : Nat) (hd : 1 ≤ d) : 1 ≤ layN L d := by
  unfold layN
  split
  · exact Nat.le_refl _
  · rw [Nat.le_div_iff_mul_le (by omega)]
    omega
theorem layN_room (L d : Nat) (hd : 1 ≤ d) : L ≤ layN L d * d := by
  unfold layN
  split
  · omega
  · have := Nat.div_add_mod (L + d - 1) d
    have h2 := Nat.mod_lt (L + d - 1) (show d > 0 by omega)
    rw [Nat.mul_comm] at this
    omega
theorem layN_least {L d n : Nat} (hd : 1 ≤ d) (h1 : 1 ≤ n) (h : L ≤ n * d) : layN L d ≤ n := by
  unfold layN
  split
  · exact h1
  · have h3 : (L + d - 1) / d < n + 1 := by
      rw [Nat.div_lt_iff_lt_mul (by omega), Nat.succ_mul]
      omega
    omega
theorem layN_le {L d : Nat} (hd : 1 ≤ d) (h : L ≤ 400 * d) : layN L d ≤ 400 := layN_least hd (by decide) h
/-- Data of a segment: byte k of shard i. -/
def layD (r : Nat → Nat) (L n i k : Nat) : Nat := if k < n ∧ i * n + k < L then r (i * n + k) else 0
theorem layD_in {r : Nat → Nat} {L n i k : Nat} (hk : k < n) (h : i * n + k < L) : layD r L n i k = r (i * n + k) := if_pos ⟨hk, h⟩
theorem layD_out {r : Nat → Nat} {L n i k : Nat} (h : ¬ i * n + k < L) : layD r L n i k = 0 := if_neg (fun q => h q.2)
theorem layD_bd {r : Nat → Nat} (hr : ∀ k, r k < 256) (L n : Nat) : Gf.Bd2 (layD r L n) := fun i k => by
  show layD r L n i k < 256
  unfold layD
  split
  · exact hr _
  · decide
/-- What is told of a segment. -/
def layE (L : Nat) (seg d s : Int) : Nat := if d < 1 ∨ 8 < d ∨ s < 0 ∨ 4 < s then 5 else if seg < 0 ∨ 39 < seg then 3 else if 400 * d < (L : Int) then 4 else 0
/-- Shard i of a segment. -/
def shard (r : Nat → Nat) (L d : Nat) : Nat → Nat → Nat := Gf.mm d (Gf.rowF d) (layD r L (layN L d))
/-- Block i of a segment. -/
def blk (r : Nat → Nat) (L seg d i : Nat) : Nat → Nat := if i < 12 then Crc.enc seg i L (layN L d) (shard r L d i) else fun _ => 0
theorem blk_in {r : Nat → Nat} {L seg d i : Nat} (hi : i < 12) : blk r L seg d i = Crc.enc seg i L (layN L d) (shard r L d i) := if_pos hi
theorem blk_bd {r : Nat → Nat} {L seg d : Nat} (hd : 1 ≤ d) (hL : L ≤ 400 * d) (hs : seg ≤ 39) (hd8 : d ≤ 8) : Gf.Bd2 (blk r L seg d) := fun i k => by
  have h2 := layN_le hd hL
  have hb : ∀ k, shard r L d i k < 256 := fun k => Gf.mm_lt (fun p => Gf.rowF_bd d p) _ _ _ _
  unfold blk
  by_cases h : i < 12
  · rw [if_pos h]
    exact Crc.enc_bd (by omega) (by omega) (by omega) (by omega) hb k
  · rw [if_neg h]
    decide

/-- A block is the one that it must be. -/
abbrev right (seg : Int) (L : Nat → Nat) (g : Nat → Nat → Nat) (i : Nat) : Prop := Crc.parseE (g i) (L i) = 0 ∧ ((g i 1 : Nat) : Int) = seg ∧ g i 2 = i
/-- Those that are not, below k. -/
def badL (seg : Int) (L : Nat → Nat) (g : Nat → Nat → Nat) (k : Nat) : List Nat := (List.range k).filter (fun i => decide (¬ right seg L g i))
theorem badL_yes {seg : Int} {L : Nat → Nat} {g : Nat → Nat → Nat} {k : Nat} (h : ¬ right seg L g k) : badL seg L g (k + 1) = badL seg L g k ++ [k] := by
  unfold badL
  rw [List.range_succ, List.filter_append]
  congr 1
  exact List.filter_cons_of_pos (p := fun i => decide (¬ right seg L g i)) (decide_eq_true h)
theorem badL_no {seg : Int} {L : Nat → Nat} {g : Nat → Nat → Nat} {k : Nat} (h : right seg L g k) : badL seg L g (k + 1) = badL seg L g k := by
  unfold badL
  rw [List.range_succ, List.filter_append]
  have e : List.filter (fun i => decide (¬ right seg L g i)) [k] = [] := List.filter_cons_of_neg (p := fun i => decide (¬ right seg L g i)) (fun q => (of_decide_eq_true q) h)
  rw [e, List.append_nil]
/-- A block that was laid is right. -/
theorem blk_right {r : Nat → Nat} {L seg d i : Nat} (hd : 1 ≤ d) (hL : L ≤ 400 * d) (hs : seg ≤ 39) (hi : i ≤ 11) (hd8 : d ≤ 8) :
    Crc.parseE (blk r L seg d i) (layN L d + 11) = 0 ∧ blk r L seg d i 1 = seg ∧ blk r L seg d i 2 = i := by
  have h1 := layN_pos L d hd
  have h2 := layN_le hd hL
  have hw : Crc.wrongB seg i L (layN L d) = 0 := Crc.wrongB_ok (by omega) (by omega)
  have hb : ∀ k, shard r L d i k < 256 := fun k => Gf.mm_lt (fun p => Gf.rowF_bd d p) _ _ _ _
  rw [blk_in (by omega)]
  exact ⟨Crc.parse_enc hb hw, Crc.enc_hd (by omega), Crc.enc_hd (by omega)⟩

/-! ### What is read -/
/-- How many bytes of data block i has: none, if it is not the right one. -/
def rl (seg : Int) (L : Nat → Nat) (g : Nat → Nat → Nat) (i : Nat) : Nat := if right seg L g i then L i - 11 else 0
/-- Its data. -/
def rf (g : Nat → Nat → Nat) (i k : Nat) : Nat := g i (k + 7)
/-- Its Size. -/
def rz (g : Nat → Nat → Nat) (i : Nat) : Nat := g i 3 * 256 + g i 4
theorem rl_yes {seg : Int} {L : Nat → Nat} {g : Nat → Nat → Nat} {i : Nat} (h : right seg L g i) : rl seg L g i = L i - 11 := if_pos h
theorem rl_no {seg : Int} {L : Nat → Nat} {g : Nat → Nat → Nat} {i : Nat} (h : ¬ right seg L g i) : rl seg L g i = 0 := if_neg h
theorem rl_right {seg : Int} {L : Nat → Nat} {g : Nat → Nat → Nat} {i : Nat} (h : 0 < rl seg L g i) : right seg L g i := by
  refine Classical.byContradiction fun q => ?_
  rw [rl_no q] at h
  omega
/-- All right ones have one Size. -/
abbrev sizes (seg : Int) (L : Nat → Nat) (g : Nat → Nat → Nat) (N : Nat) : Prop := ∀ i, i < N → ∀ j, j < N → right seg L g i → right seg L g j → rz g i = rz g j

end Go.Proofs.YtmcaejooaaahdaaGreat.Seg
