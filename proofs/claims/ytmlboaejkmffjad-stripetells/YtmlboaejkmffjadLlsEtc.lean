/-
  Bytes that lie in rows of the call's own, and lists of such that are appended to.
-/
import Derived.Test.YtmlboaejkmffjadRowC
import Derived.Test.YtmlboaejkmffjadCau
import Derived.Test.YtmlboaejkmffjadBPure
import Derived.Test.YtmlboaejkmffjadCMend
import Derived.Test.YtmlboaejkmffjadBAny
import Derived.Test.YtmlboaejkmffjadAppM
namespace Go.Proofs.Ytmlboaejkmffjad
open Go.ChangeShapes Go.WideShapes Go.ChangeAt Go.RowKit

/-- n lists of bytes, list r of L r bytes. -/
structure Lls (w : World) (v : Value) (n : Nat) (L : Nat → Nat) (f : Nat → Nat → Nat) : Prop where
  bd : Gf.Bd2 f
  lies : ∃ (A : Option Addr) (cap : Nat), v = .slice A n cap ∧ n ≤ cap ∧ cap ≤ maxLen ∧ ∀ r, r < n → ∃ b o u, A = some ⟨b, o, none⟩ ∧ w.cell? ⟨b, o + r, none⟩ = some u ∧ Byts w u (L r) (f r)
theorem Lls.below {w w' : World} {v : Value} {n : Nat} {L : Nat → Nat} {f : Nat → Nat → Nat} (h : Lls w v n L f) (hb : Below w.heap.size w w') : Lls w' v n L f := by
  obtain ⟨A, cap, hv, h1, h2, hr⟩ := h.lies
  refine ⟨h.bd, A, cap, hv, h1, h2, fun r hrn => ?_⟩
  obtain ⟨b, o, u, e1, e2, e3⟩ := hr r hrn
  exact ⟨b, o, u, e1, (hb.cell (p := ⟨b, o + r, none⟩) (World.block_lt_of_cell? _ _ e2)).trans e2, e3.below hb⟩
theorem Lls.shape {w : World} {v : Value} {n : Nat} {L : Nat → Nat} {f : Nat → Nat → Nat} (h : Lls w v n L f) : ∃ A C, v = .slice A n C := by
  obtain ⟨A, C, hv, _⟩ := h.lies
  exact ⟨A, C, hv⟩
theorem Lls.len {w : World} {v : Value} {n : Nat} {L : Nat → Nat} {f : Nat → Nat → Nat} (h : Lls w v n L f) : n ≤ 9223372036854775807 := by
  obtain ⟨A, C, _, h1, h2, _⟩ := h.lies
  unfold maxLen at h2
  omega
theorem Lls.nil (w : World) (L : Nat → Nat) : Lls w (.slice none 0 0) 0 L (fun _ _ => 0) := ⟨fun _ _ => Nat.zero_lt_succ 255, none, 0, rfl, Nat.le_refl _, Nat.zero_le _, fun r hr => absurd hr (Nat.not_lt_zero r)⟩
/-- List r, where it lies. -/
theorem Lls.at {w : World} {A : Option Addr} {n C : Nat} {L : Nat → Nat} {f : Nat → Nat → Nat} (h : Lls w (.slice A n C) n L f) {r : Nat} (hr : r < n) : ∃ b o R K, A = Option.some ⟨b, o, Option.none⟩ ∧ w.cell? ⟨b, o + r, Option.none⟩ = Option.some (.slice R (L r) K) ∧ Byts w (.slice R (L r) K) (L r) (f r) := by
  obtain ⟨A', C', hv, _, _, hc⟩ := h.lies
  cases hv
  obtain ⟨b, o, u, e1, e2, e3⟩ := hc r hr
  obtain ⟨R, K, rfl⟩ : ∃ R K, u = .slice R (L r) K := by
    obtain ⟨_, R, K, hv, _⟩ := e3
    exact ⟨R, K, hv⟩
  exact ⟨b, o, R, K, e1, e2, e3⟩
theorem Lls.arg {w : World} {v : Value} {n : Nat} {L : Nat → Nat} {f : Nat → Nat → Nat} (h : Lls w v n L f) : Arg w v n L f := by
  obtain ⟨A, C, rfl⟩ := h.shape
  have each : ∀ r, r < n → ∃ q : Option Addr × Nat, ∃ b o, A = some ⟨b, o, none⟩ ∧ w.cell? ⟨b, o + r, none⟩ = some (.slice q.1 (L r) q.2) ∧ Byts w (.slice q.1 (L r) q.2) (L r) (f r) := fun r hr => by
    obtain ⟨b, o, R, K, e1, e2, e3⟩ := h.at hr
    exact ⟨(R, K), b, o, e1, e2, e3⟩
  obtain ⟨q, hq⟩ := Deep.choose_lt each
  refine ⟨h.bd, A, C, fun r => (q r).1, fun r => (q r).2, rfl, fun r hr => ?_⟩
  obtain ⟨b, o, e1, e2, e3⟩ := hq r hr
  refine ⟨b, o, e1, e2, fun k hk => ?_⟩
  obtain ⟨_, A', C', hv, _, _, hc⟩ := e3
  cases hv
  exact hc k hk

/-- Lists of lists that came in. -/
theorem lls_of {H : Type} {enc : TypeId × Value → H} {W : World} {a : Option Addr} {len cap : Nat} {d : DataW H} {ps : List MemPlace} (h : DataW.Trod enc Try.prog W 0 (fun _ => true) true 43 (.slice a len cap) d ps) : ∃ L f, Lls W (.slice a len cap) len L f := by
  obtain ⟨fuel, hf⟩ := h
  rcases Deep.open_int_rows Try.underlying43 Try.underlying25 Try.underlying5 (by kernel_rfl) (by kernel_rfl) hf with ⟨hcs, _⟩ | ⟨x, l, c, A, L, C, Z, hcs, _, hl, hlm, _, hrow⟩
  · simp [Value.cells] at hcs
    obtain ⟨rfl, rfl, rfl⟩ := hcs
    exact ⟨fun _ => 0, _, Lls.nil W _⟩
  · simp [Value.cells] at hcs
    obtain ⟨rfl, rfl, rfl⟩ := hcs
    have hz : ∀ r, r < cap → ∀ k, k < C r → ∃ m : Nat, m < 256 ∧ (Z r).getD k 0 = (m : Int) := fun r hr k hk => by
      obtain ⟨_, _, _, z4, z5, _, _⟩ := hrow r hr
      have hm : (Z r).getD k 0 ∈ Z r := by
        have : k < (Z r).length := by omega
        simp [List.getD, this]
      obtain ⟨b0, b1⟩ := bounds_u8 (z5 _ hm)
      exact ⟨((Z r).getD k 0).toNat, by omega, by omega⟩
    have hbd : Gf.Bd2 (fun r k => if r < cap ∧ k < C r then ((Z r).getD k 0).toNat else 0) := fun r k => by
      show (if r < cap ∧ k < C r then ((Z r).getD k 0).toNat else 0) < 256
      split
      · rename_i h
        obtain ⟨m, hm, e⟩ := hz r h.1 k h.2
        rw [e]
        omega
      · omega
    refine ⟨L, fun r k => if r < cap ∧ k < C r then ((Z r).getD k 0).toNat else 0, hbd, some x, cap, rfl, hl, hlm, fun r hr => ?_⟩
    obtain ⟨z1, z2, z3, _, _, _, z7⟩ := hrow r (by omega)
    obtain ⟨b, o, spot⟩ := x
    have hspot : spot = none := by simpa [Addr.add] using World.cell?_spot (hrow 0 (by omega)).1
    subst hspot
    refine ⟨b, o, .slice (A r) (L r) (C r), rfl, ?_, ⟨hbd r, A r, C r, rfl, z2, z3, fun k hk => ?_⟩⟩
    · rw [← WideShapes.add_plain]
      exact z1
    · cases hA : A r with
      | none =>
        have := (hrow r (by omega)).2.2.2.2.2.1 hA
        omega
      | some y =>
        obtain ⟨_, y2⟩ := z7 y hA
        obtain ⟨b', o', sp⟩ := y
        have hs : sp = none := by simpa [Addr.add] using World.cell?_spot (y2 0 (by omega))
        subst hs
        refine ⟨b', o', rfl, ?_⟩
        rw [← WideShapes.add_plain, y2 k (by omega)]
        obtain ⟨m, _, e⟩ := hz r (by omega) k (by omega)
        rw [if_pos ⟨by omega, by omega⟩, e]
        rfl

end Go.Proofs.Ytmlboaejkmffjad

namespace Go.Proofs.Ytmlboaejkmffjad.Seg

/-- How many bytes a shard has: the least number, 1 at least, with which d of them have room for L. -/
def layN (L d : Nat) : Nat := if L ≤ d then 1 else (L + d - 1) / d
theorem layN_pos (L d : Nat) (hd : 1 ≤ d) : 1 ≤ layN L d := by
  unfold layN
  split
  · exact Nat.le_refl _
  · rw [Nat.le_div_iff_mul_le (by omega)]
    omega
theorem layN_room (L d : Nat) (hd : 1 ≤ d) : L ≤ layN L d * d := by
  unfold layN
  split
  · omega
  · have := Nat.div_add_mod (L + d - 1) d
    have h2 := Nat.mod_lt (L + d - 1) (show d > 0 by omega)
    rw [Nat.mul_comm] at this
    omega
theorem layN_least {L d n : Nat} (hd : 1 ≤ d) (h1 : 1 ≤ n) (h : L ≤ n * d) : layN L d ≤ n := by
  unfold layN
  split
  · exact h1
  · have h3 : (L + d - 1) / d < n + 1 := by
      rw [Nat.div_lt_iff_lt_mul (by omega), Nat.succ_mul]
      omega
    omega
theorem layN_le {L d : Nat} (hd : 1 ≤ d) (h : L ≤ 400 * d) : layN L d ≤ 400 := layN_least hd (by decide) h
/-- Data of a segment: byte k of shard i. -/
def layD (r : Nat → Nat) (L n i k : Nat) : Nat := if k < n ∧ i * n + k < L then r (i * n + k) else 0
theorem layD_in {r : Nat → Nat} {L n i k : Nat} (hk : k < n) (h : i * n + k < L) : layD r L n i k = r (i * n + k) := if_pos ⟨hk, h⟩
theorem layD_out {r : Nat → Nat} {L n i k : Nat} (h : ¬ i * n + k < L) : layD r L n i k = 0 := if_neg (fun q => h q.2)
theorem layD_bd {r : Nat → Nat} (hr : ∀ k, r k < 256) (L n : Nat) : Gf.Bd2 (layD r L n) := fun i k => by
  show layD r L n i k < 256
  unfold layD
  split
  · exact hr _
  · decide
/-- What is told of a segment. -/
def layE (L : Nat) (seg d s : Int) : Nat := if d < 1 ∨ 8 < d ∨ s < 0 ∨ 4 < s then 5 else if seg < 0 ∨ 39 < seg then 3 else if 400 * d < (L : Int) then 4 else 0
/-- Shard i of a segment. -/
def shard (r : Nat → Nat) (L d : Nat) : Nat → Nat → Nat := Gf.mm d (Gf.rowF d) (layD r L (layN L d))
/-- Block i of a segment. -/
def blk (r : Nat → Nat) (L seg d i : Nat) : Nat → Nat := if i < 12 then Crc.enc seg i L (layN L d) (shard r L d i) else fun _ => 0
theorem blk_in {r : Nat → Nat} {L seg d i : Nat} (hi : i < 12) : blk r L seg d i = Crc.enc seg i L (layN L d) (shard r L d i) := if_pos hi
theorem blk_bd {r : Nat → Nat} {L seg d : Nat} (hd : 1 ≤ d) (hL : L ≤ 400 * d) (hs : seg ≤ 39) (hd8 : d ≤ 8) : Gf.Bd2 (blk r L seg d) := fun i k => by
  have h2 := layN_le hd hL
  have hb : ∀ k, shard r L d i k < 256 := fun k => Gf.mm_lt (fun p => Gf.rowF_bd d p) _ _ _ _
  unfold blk
  by_cases h : i < 12
  · rw [if_pos h]
    exact Crc.enc_bd (by omega) (by omega) (by omega) (by omega) hb k
  · rw [if_neg h]
    decide

/-- A block is the one that it must be. -/
abbrev right (seg : Int) (L : Nat → Nat) (g : Nat → Nat → Nat) (i : Nat) : Prop := Crc.parseE (g i) (L i) = 0 ∧ ((g i 1 : Nat) : Int) = seg ∧ g i 2 = i
/-- Those that are not, below k. -/
def badL (seg : Int) (L : Nat → Nat) (g : Nat → Nat → Nat) (k : Nat) : List Nat := (List.range k).filter (fun i => decide (¬ right seg L g i))
theorem badL_yes {seg : Int} {L : Nat → Nat} {g : Nat → Nat → Nat} {k : Nat} (h : ¬ right seg L g k) : badL seg L g (k + 1) = badL seg L g k ++ [k] := by
  unfold badL
  rw [List.range_succ, List.filter_append]
  congr 1
  exact List.filter_cons_of_pos (p := fun i => decide (¬ right seg L g i)) (decide_eq_true h)
theorem badL_no {seg : Int} {L : Nat → Nat} {g : Nat → Nat → Nat} {k : Nat} (h : right seg L g k) : badL seg L g (k + 1) = badL seg L g k := by
  unfold badL
  rw [List.range_succ, List.filter_append]
  have e : List.filter (fun i => decide (¬ right seg L g i)) [k] = [] := List.filter_cons_of_neg (p := fun i => decide (¬ right seg L g i)) (fun q => (of_decide_eq_true q) h)
  rw [e, List.append_nil]
/-- A block that was laid is right. -/
theorem blk_right {r : Nat → Nat} {L seg d i : Nat} (hd : 1 ≤ d) (hL : L ≤ 400 * d) (hs : seg ≤ 39) (hi : i ≤ 11) (hd8 : d ≤ 8) :
    Crc.parseE (blk r L seg d i) (layN L d + 11) = 0 ∧ blk r L seg d i 1 = seg ∧ blk r L seg d i 2 = i := by
  have h1 := layN_pos L d hd
  have h2 := layN_le hd hL
  have hw : Crc.wrongB seg i L (layN L d) = 0 := Crc.wrongB_ok (by omega) (by omega)
  have hb : ∀ k, shard r L d i k < 256 := fun k => Gf.mm_lt (fun p => Gf.rowF_bd d p) _ _ _ _
  rw [blk_in (by omega)]
  exact ⟨Crc.parse_enc hb hw, Crc.enc_hd (by omega), Crc.enc_hd (by omega)⟩

/-! ### What is read -/
/-- How many bytes of data block i has: none, if it is not the right one. -/
def rl (seg : Int) (L : Nat → Nat) (g : Nat → Nat → Nat) (i : Nat) : Nat := if right seg L g i then L i - 11 else 0
/-- Its data. -/
def rf (g : Nat → Nat → Nat) (i k : Nat) : Nat := g i (k + 7)
/-- Its Size. -/
def rz (g : Nat → Nat → Nat) (i : Nat) : Nat := g i 3 * 256 + g i 4
theorem rl_yes {seg : Int} {L : Nat → Nat} {g : Nat → Nat → Nat} {i : Nat} (h : right seg L g i) : rl seg L g i = L i - 11 := if_pos h
theorem rl_no {seg : Int} {L : Nat → Nat} {g : Nat → Nat → Nat} {i : Nat} (h : ¬ right seg L g i) : rl seg L g i = 0 := if_neg h
theorem rl_right {seg : Int} {L : Nat → Nat} {g : Nat → Nat → Nat} {i : Nat} (h : 0 < rl seg L g i) : right seg L g i := by
  refine Classical.byContradiction fun q => ?_
  rw [rl_no q] at h
  omega
/-- All right ones have one Size. -/
abbrev sizes (seg : Int) (L : Nat → Nat) (g : Nat → Nat → Nat) (N : Nat) : Prop := ∀ i, i < N → ∀ j, j < N → right seg L g i → right seg L g j → rz g i = rz g j

end Go.Proofs.Ytmlboaejkmffjad.Seg

namespace Go.Proofs.Ytmlboaejkmffjad
open Go.RowKit

/-- How many of the first N are gone. -/
def cnt (M : Nat → Bool) : Nat → Nat
  | 0 => 0
  | N + 1 => cnt M N + if M N then 1 else 0
theorem cnt_le (M : Nat → Bool) : (N : Nat) → cnt M N ≤ N
  | 0 => Nat.le_refl _
  | N + 1 => by
    have := cnt_le M N
    show cnt M N + (if M N then 1 else 0) ≤ N + 1
    split <;> omega
theorem cnt_none : (N : Nat) → cnt (fun _ => false) N = 0
  | 0 => rfl
  | N + 1 => by
    show cnt (fun _ => false) N + 0 = 0
    rw [cnt_none N]
/-- One more. -/
def lose (k : Nat) (M : Nat → Bool) (i : Nat) : Bool := if i = k then true else M i
theorem cnt_same {k : Nat} {M : Nat → Bool} : (N : Nat) → N ≤ k → cnt (lose k M) N = cnt M N
  | 0, _ => rfl
  | N + 1, h => by
    show cnt (lose k M) N + (if lose k M N then 1 else 0) = cnt M N + (if M N then 1 else 0)
    rw [cnt_same N (by omega), show lose k M N = M N from if_neg (by omega)]
theorem cnt_lose {k : Nat} {M : Nat → Bool} (hM : M k = false) : (N : Nat) → k < N → cnt (lose k M) N = cnt M N + 1
  | 0, h => absurd h (Nat.not_lt_zero k)
  | N + 1, h => by
    show cnt (lose k M) N + (if lose k M N then 1 else 0) = cnt M N + (if M N then 1 else 0) + 1
    by_cases e : N = k
    · subst e
      rw [cnt_same N (Nat.le_refl _), show lose N M N = true from if_pos rfl, hM]
      rfl
    · rw [cnt_lose hM N (by omega), show lose k M N = M N from if_neg e]
      omega
/-- How long each shard is, those that are gone having no bytes. -/
def goneL (M : Nat → Bool) (c i : Nat) : Nat := if M i then 0 else c
theorem there_gone {M : Nat → Bool} {c : Nat} (hc : 1 ≤ c) : (N : Nat) → (there (goneL M c) N).length + cnt M N = N
  | 0 => rfl
  | N + 1 => by
    have ih := there_gone (M := M) hc N
    show _ + (cnt M N + (if M N then 1 else 0)) = N + 1
    cases h : M N with
    | true =>
      have e : goneL M c N = 0 := if_pos h
      rw [there_no (by omega)]
      simp
      omega
    | false =>
      have e : goneL M c N = c := if_neg (by rw [h]; decide)
      rw [there_yes (by omega)]
      simp
      omega
theorem gone_len {M : Nat → Bool} {c N p : Nat} (h : p < (there (goneL M c) N).length) : goneL M c (thr (goneL M c) N p) = c := by
  have h1 := (thr_mem h).2
  unfold goneL at h1 ⊢
  split
  · rename_i h2
    rw [if_pos h2] at h1
    omega
  · rfl

end Go.Proofs.Ytmlboaejkmffjad

namespace Go.Proofs.Ytmlboaejkmffjad
open Go.RowKit

/-- Numbers that the call has made, in a list. -/
def Nums (w : World) (N : Nat) (v : Value) (l : List Nat) : Prop := w.ownsRow N 3 1 v l.length (l.map fun x : Nat => Value.int .i64 (x : Int))
theorem Try.infoInt : (Try.prog.info? 3).map (fun i => (i.zero, i.size, i.bytes)) = some (some (.int .i64 0), 1, 8) := by kernel_rfl

theorem Nums.nil (w : World) (N : Nat) : Nums w N (.slice none 0 0) [] := World.ownsRow_nil w N _ 1
theorem Nums.below {w w' : World} {N : Nat} {v : Value} {l : List Nat} (h : Nums w N v l) (hb : Below w.heap.size w w') : Nums w' N v l := owns_below h hb
theorem Nums.one {w : World} {N : Nat} {v : Value} {l : List Nat} {x : Nat} (h : w.ownsRow N 3 1 v (l.length + 1) ((l.map fun x : Nat => Value.int .i64 (x : Int)) ++ [.int .i64 (x : Int)])) : Nums w N v (l ++ [x]) := by
  unfold Nums
  rw [List.length_append, List.map_append]
  exact h
theorem badL_len (s : Int) (L : Nat → Nat) (g : Nat → Nat → Nat) (k : Nat) : (Seg.badL s L g k).length ≤ k := by
  unfold Seg.badL
  exact Nat.le_trans (List.length_filter_le _ _) (by simp)

/-- Rows that are appended to are lists. -/
theorem Acc.lls {w : World} {N : Nat} {v : Value} {k c : Nat} {G K : Nat → Nat} {f : Nat → Nat → Nat} (h : Acc w N v k c G K f) (bd : Gf.Bd2 f) (hK : ∀ i, i < k → c ≤ K i ∧ K i ≤ maxLen) : Lls w v k (fun _ => c) f := by
  rcases h.own.2 with ⟨rfl, h0⟩ | ⟨g, cap, cur, rfl, _, _, h1, h2, _, _⟩
  · subst h0
    exact ⟨bd, none, 0, rfl, Nat.le_refl _, Nat.zero_le _, fun r hr => absurd hr (Nat.not_lt_zero r)⟩
  · refine ⟨bd, some ⟨g, 0, none⟩, cap, rfl, h1, h2, fun r hr => ⟨g, 0, .slice (some ⟨G r, 0, none⟩) c (K r), rfl, ?_, ?_⟩⟩
    · have := h.own.cells (g := g) rfl r (.slice (some ⟨G r, 0, none⟩) c (K r)) (by simp [hr])
      rw [WideShapes.add_plain] at this
      exact this
    · exact byts_of_row (bd r) (h.row r hr).2 (hK r hr).1 (hK r hr).2

/-- Lists appended to those that the call has made. -/
theorem app_more (w : World) (N : Nat) (v : Value) (d s c : Nat) (G K G' K' : Nat → Nat) (f f' : Nat → Nat → Nat) (N' : Nat) (vm : Value) (hds : d + s ≤ 1000) (hN : N ≤ w.heap.size) (hNN : N ≤ N') (hA : Acc w N v d c G K f) (hM : Acc w N' vm s c G' K' f') (hs : 1 ≤ s) :
    ∃ v' w', (Builtin.append_ #[43, 43] 43 #[v, vm]).run Try.prog w = .ok v' w' ∧ Below N w w' ∧ Acc w' N v' (d + s) c (fun i => if i < d then G i else G' (i - d)) (fun i => if i < d then K i else K' (i - d)) (fun i => if i < d then f i else f' (i - d)) := by
  obtain ⟨i0, hi, hh⟩ := Option.map_eq_some_iff.1 Try.infoRow
  simp only [Prod.mk.injEq] at hh
  obtain ⟨hz0, hz1, hz2⟩ := hh
  obtain ⟨gm, cm, rfl, _, _, hr⟩ := rowC_owns hM.own hs
  obtain ⟨v', w', hrun, ho, hg, _⟩ := run_append_own (P := Try.prog) w N 43 43 25 i0 (.slice none 0 0) 1 24 Try.underlying43 hi hz0 hz1 hz2 rfl (by decide) v d _ hA.own ⟨gm, 0, none⟩ s cm ((List.range s).map fun i => .slice (some ⟨G' i, 0, none⟩) c (K' i)) (by simp) (fun j u hj => hM.own.cells (g := gm) rfl j u hj) (fun u hu => by
    obtain ⟨_, _, rfl⟩ := List.mem_map.1 hu
    rfl) (by unfold maxLen; omega) (by omega) hN
  have keep : ∀ x F, RowC w x 5 c F → RowC w' x 5 c F := fun x F hx => hx.of_block (hg.block x hx.lt (fun e => by
    obtain ⟨F2, h2⟩ := owns_block hA.own e.symm
    exact hx.ne h2 (by decide) rfl))
  refine ⟨v', w', hrun, (Below.refl N w).grown hg hN (fun x hx => (hA.own.lt x hx).1), ?_, fun i hi => ?_⟩
  · have e : (List.range (d + s)).map (fun i => Value.slice (some ⟨if i < d then G i else G' (i - d), 0, none⟩) c (if i < d then K i else K' (i - d))) = ((List.range d).map fun i => .slice (some ⟨G i, 0, none⟩) c (K i)) ++ ((List.range s).map fun i => .slice (some ⟨G' i, 0, none⟩) c (K' i)) := by
      rw [List.range_add, List.map_append, List.map_map]
      refine congr (congrArg _ ?_) ?_
      · refine List.map_congr_left (fun i hi => ?_)
        have := List.mem_range.1 hi
        rw [if_pos this, if_pos this]
      · refine List.map_congr_left (fun i _ => ?_)
        show Value.slice (some ⟨if d + i < d then G (d + i) else G' (d + i - d), 0, none⟩) c (if d + i < d then K (d + i) else K' (d + i - d)) = _
        rw [if_neg (by omega), if_neg (by omega), Nat.add_sub_cancel_left]
    rw [e]
    exact ho
  · by_cases e : i < d
    · simp only [if_pos e]
      exact ⟨(hA.row i e).1, keep _ _ (hA.row i e).2⟩
    · simp only [if_neg e]
      exact ⟨Nat.le_trans hNN (hM.row (i - d) (by omega)).1, keep _ _ (hM.row (i - d) (by omega)).2⟩

theorem shard_data {d : Nat} {D : Nat → Nat → Nat} (hD : Gf.Bd2 D) {i : Nat} (hi : i < d) (k : Nat) : Gf.mm d (Gf.rowF d) D i k = D i k := by
  refine Eq.trans (Gf.mm_congr (a' := Gf.one) (b' := D) (fun j _ => if_pos hi) (fun _ _ => rfl)) (Gf.one_mm hD k hi)
theorem lls_congr {w : World} {v : Value} {n : Nat} {L : Nat → Nat} {f f' : Nat → Nat → Nat} (h : Lls w v n L f) (bd : Gf.Bd2 f') (e : ∀ i, i < n → ∀ k, k < L i → f i k = f' i k) : Lls w v n L f' := by
  obtain ⟨A, cap, hv, h1, h2, hr⟩ := h.lies
  refine ⟨bd, A, cap, hv, h1, h2, fun r hrn => ?_⟩
  obtain ⟨b, o, u, e1, e2, _, A', C', e3, e4, e5, e6⟩ := hr r hrn
  refine ⟨b, o, u, e1, e2, bd r, A', C', e3, e4, e5, fun k hk => ?_⟩
  obtain ⟨b', o', e7, e8⟩ := e6 k hk
  exact ⟨b', o', e7, by rw [← e r hrn k hk]; exact e8⟩

/-- What Lay tells beside a number. -/
def LayO (w : World) (E : Nat) (v : Value) (N m : Nat) (F : Nat → Nat → Nat) : Prop := (E = 0 ∧ Lls w v N (fun _ => m) F) ∨ (E ≠ 0 ∧ v = .slice none 0 0)
theorem layE_ok {L seg d s : Nat} (h1 : 1 ≤ d) (h2 : d ≤ 8) (h3 : s ≤ 4) (h4 : seg ≤ 39) (h5 : L ≤ 400 * d) : Seg.layE L seg d s = 0 := by
  unfold Seg.layE
  rw [if_neg (by omega), if_neg (by omega), if_neg (by omega)]

/-- What is told of blocks that are read. -/
def readE (seg : Int) (d : Int) (N : Nat) (L : Nat → Nat) (g : Nat → Nat → Nat) : Nat :=
  if wrongC d ((N : Int) - d) ≠ 0 then 5 else if ¬ Seg.sizes seg L g N then 8 else if mendE d N (Seg.rl seg L g) ≠ 0 then mendE d N (Seg.rl seg L g)
  else if d.toNat * Seg.rl seg L g (thr (Seg.rl seg L g) N 0) < Seg.rz g (thr (Seg.rl seg L g) N 0) then 8 else 0
/-- What is read. -/
def ReadO (w : World) (E : Nat) (v : Value) (n N : Nat) (L : Nat → Nat) (f : Nat → Nat → Nat) (z : Nat) : Prop :=
  (E = 0 ∧ ∃ r, Gf.Bd2 r ∧ Gf.Und n (fun p => Gf.rowF n (thr L N p)) r ∧ Byts w v z (fun k => Gf.mm n (Gf.rowF n) (Gf.mm n r (fun p => f (thr L N p))) (k / L (thr L N 0)) (k % L (thr L N 0)))) ∨ (E ≠ 0 ∧ v = .slice none 0 0)
def updV {α : Type} (Q : Nat → α) (k : Nat) (e : α) (i : Nat) : α := if i = k then e else Q i
theorem updV_at {α : Type} (Q : Nat → α) (k : Nat) (e : α) : updV Q k e k = e := if_pos rfl
theorem updV_ne {α : Type} (Q : Nat → α) {k i : Nat} (e : α) (h : i ≠ k) : updV Q k e i = Q i := if_neg h
theorem range_upd (U : Nat → Value) (k : Nat) (u : Value) : (List.range (k + 1)).map (updV U k u) = (List.range k).map U ++ [u] := by
  rw [List.range_succ, List.map_append]
  refine congr (congrArg _ ?_) ?_
  · refine List.map_congr_left (fun i hi => updV_ne _ _ ?_)
    have := List.mem_range.1 hi
    omega
  · show [updV U k u k] = [u]
    rw [updV_at]
theorem Byts.none (w : World) {f : Nat → Nat} (hf : Bd f) : Byts w (.slice Option.none 0 0) 0 f := ⟨hf, Option.none, 0, rfl, Nat.le_refl _, Nat.zero_le _, fun i hi => absurd hi (Nat.not_lt_zero i)⟩
theorem lls_own {w wr : World} {N n : Nat} {y : Value} {U : Nat → Value} {L : Nat → Nat} {f : Nat → Nat → Nat} (ho : wr.ownsRow N 25 1 y n ((List.range n).map U)) (hU : ∀ i, i < n → Byts w (U i) (L i) (f i)) (hb : Below w.heap.size w wr) (bd : Gf.Bd2 f) : Lls wr y n L f := by
  rcases ho.2 with ⟨rfl, h0⟩ | ⟨g, cap, cur, rfl, _, _, h1, h2, _, _⟩
  · subst h0
    exact ⟨bd, none, 0, rfl, Nat.le_refl _, Nat.zero_le _, fun r hr => absurd hr (Nat.not_lt_zero r)⟩
  · refine ⟨bd, some ⟨g, 0, none⟩, cap, rfl, h1, h2, fun r hr => ⟨g, 0, U r, rfl, ?_, (hU r hr).below hb⟩⟩
    have := ho.cells (g := g) rfl r (U r) (by simp [hr])
    rw [WideShapes.add_plain] at this
    exact this

theorem flat_at (F : Nat → Nat → Nat) (n c j : Nat) (hc : 1 ≤ c) (hj : j < n * c) : ((List.range n).flatMap (fun p => (List.range c).map (F p))).getD j 0 = F (j / c) (j % c) := by
  have h1 : j / c < n := by
    rw [Nat.div_lt_iff_lt_mul (by omega)]
    exact hj
  have h2 : j % c < c := Nat.mod_lt _ (by omega)
  have h3 := flat_get (fun p => (List.range c).map (F p)) c (List.range n) (fun _ _ => by simp) (j / c) (j % c) h2 (j / c) (by simp [h1])
  rw [show j / c * c + j % c = j by rw [Nat.mul_comm]; exact Nat.div_add_mod j c] at h3
  rw [List.getD_eq_getElem?_getD, h3]
  simp [h2]
theorem extract_at {l : List Nat} {z j : Nat} (hb : ∀ x, x ∈ l → x < 256) (hz : z ≤ l.length) (hj : j < z) : (((strL l).extract 0 z).data.toList.getD j 0).toNat = l.getD j 0 := by
  have h1 : (strL l).data.toList = l.map UInt8.ofNat := by rw [← ByteArray.toList_eq]; exact strL_list l
  have h2 : ((strL l).extract 0 z).data.toList = (l.map UInt8.ofNat).take z := by
    rw [ByteArray.data_extract, Array.toList_extract, h1]
    simp
  have hjl : j < l.length := by omega
  rw [h2, List.getD_eq_getElem?_getD, List.getElem?_take, if_pos hj, List.getElem?_map, List.getElem?_eq_getElem hjl]
  have := hb _ (List.getElem_mem hjl)
  simp [List.getD, hjl]
  omega

/-- The bytes that are read. -/
def readF (n N : Nat) (L : Nat → Nat) (f r : Nat → Nat → Nat) (k : Nat) : Nat := Gf.mm n (Gf.rowF n) (Gf.mm n r (fun p => f (thr L N p))) (k / L (thr L N 0)) (k % L (thr L N 0))
/-- What Mend tells of whatever blocks. -/
def SMendP (seg d : Int) (N : Nat) (L : Nat → Nat) (g : Nat → Nat → Nat) (e : Ending) (w' : World) : Prop :=
  (readE seg d N L g ≠ 0 ∧ e = .returned (.tuple #[.slice none 0 0, .int .i64 (readE seg d N L g : Nat)])) ∨
  (readE seg d N L g = 0 ∧ ∃ v' r, Gf.Bd2 r ∧ Gf.Und d.toNat (fun p => Gf.rowF d.toNat (thr (Seg.rl seg L g) N p)) r ∧ e = .returned (.tuple #[v', .int .i64 (Seg.layE (Seg.rz g (thr (Seg.rl seg L g) N 0)) seg d ((N : Int) - d) : Nat)]) ∧
    LayO w' (Seg.layE (Seg.rz g (thr (Seg.rl seg L g) N 0)) seg d ((N : Int) - d)) v' (d.toNat + ((N : Int) - d).toNat) (Seg.layN (Seg.rz g (thr (Seg.rl seg L g) N 0)) d.toNat + 11) (Seg.blk (readF d.toNat N (Seg.rl seg L g) (Seg.rf g) r) (Seg.rz g (thr (Seg.rl seg L g) N 0)) seg.toNat d.toNat))

end Go.Proofs.Ytmlboaejkmffjad

namespace Go.Proofs.Ytmlboaejkmffjad
open Go.RowKit

theorem there_congr {L L' : Nat → Nat} {N : Nat} (h : ∀ i, i < N → L i = L' i) : there L N = there L' N := by
  unfold there
  refine List.filter_congr (fun i hi => ?_)
  rw [h i (List.mem_range.1 hi)]
/-- Blocks of a segment: those that M strikes are not right, the others are as they were laid. -/
structure Hurt (r : Nat → Nat) (L seg d s : Nat) (M : Nat → Bool) (Ls : Nat → Nat) (g : Nat → Nat → Nat) : Prop where
  ok : ∀ i, i < d + s → M i = false → Ls i = Seg.layN L d + 11 ∧ g i = Seg.blk r L seg d i
  bad : ∀ i, i < d + s → M i = true → ¬ Seg.right seg Ls g i
section
variable {r : Nat → Nat} {L seg d s : Nat} {M : Nat → Bool} {Ls : Nat → Nat} {g : Nat → Nat → Nat}
theorem Hurt.right (h : Hurt r L seg d s M Ls g) (h1 : 1 ≤ d) (h2 : d ≤ 8) (h3 : s ≤ 4) (h4 : seg ≤ 39) (h5 : L ≤ 400 * d) {i : Nat} (hi : i < d + s) : Seg.right seg Ls g i ↔ M i = false := by
  constructor
  · intro q
    cases hM : M i with
    | false => rfl
    | true => exact absurd q (h.bad i hi hM)
  · intro q
    obtain ⟨e1, e2⟩ := h.ok i hi q
    obtain ⟨q1, q2, q3⟩ := Seg.blk_right (r := r) (L := L) (seg := seg) (d := d) (i := i) h1 h5 h4 (by omega) h2
    refine ⟨by rw [e1, e2]; exact q1, by rw [e2, q2], by rw [e2, q3]⟩
theorem Hurt.len (h : Hurt r L seg d s M Ls g) (h1 : 1 ≤ d) (h2 : d ≤ 8) (h3 : s ≤ 4) (h4 : seg ≤ 39) (h5 : L ≤ 400 * d) {i : Nat} (hi : i < d + s) : Seg.rl seg Ls g i = goneL M (Seg.layN L d) i := by
  have hr := h.right h1 h2 h3 h4 h5 hi
  unfold goneL
  cases hM : M i with
  | false =>
    rw [Seg.rl_yes (hr.2 hM), (h.ok i hi hM).1, Nat.add_sub_cancel]
    rfl
  | true =>
    rw [Seg.rl_no (h.bad i hi hM)]
    rfl
theorem Hurt.size (h : Hurt r L seg d s M Ls g) (h1 : 1 ≤ d) (h2 : d ≤ 8) (h3 : s ≤ 4) (h4 : seg ≤ 39) (h5 : L ≤ 400 * d) {i : Nat} (hi : i < d + s) (hr : Seg.right seg Ls g i) : Seg.rz g i = L := by
  obtain ⟨_, e2⟩ := h.ok i hi ((h.right h1 h2 h3 h4 h5 hi).1 hr)
  unfold Seg.rz
  rw [e2, Seg.blk_in (by omega), Crc.enc_hd (by omega), Crc.enc_hd (by omega)]
  show L / 256 * 256 + L % 256 = L
  omega
theorem Hurt.there (h : Hurt r L seg d s M Ls g) (h1 : 1 ≤ d) (h2 : d ≤ 8) (h3 : s ≤ 4) (h4 : seg ≤ 39) (h5 : L ≤ 400 * d) : (there (Seg.rl seg Ls g) (d + s)).length + cnt M (d + s) = d + s := by
  rw [there_congr (fun i hi => h.len h1 h2 h3 h4 h5 hi)]
  exact there_gone (Seg.layN_pos L d h1) _
/-- More are struck than there are spare ones: it is lost. -/
theorem read_lost (h : Hurt r L seg d s M Ls g) (h1 : 1 ≤ d) (h2 : d ≤ 8) (h3 : s ≤ 4) (h4 : seg ≤ 39) (h5 : L ≤ 400 * d) (hc : s < cnt M (d + s)) : readE seg d (d + s) Ls g = 10 := by
  have ht := h.there h1 h2 h3 h4 h5
  have hw : wrongC (d : Int) (((d + s : Nat) : Int) - (d : Int)) = 0 := wrongC_ok (by omega)
  have hm : mendE (d : Int) (d + s) (Seg.rl seg Ls g) = 10 := by
    unfold mendE
    rw [if_neg (fun q => q hw), if_pos (by rw [Int.toNat_natCast]; omega)]
  unfold readE
  rw [if_neg (fun q => q hw), if_neg (fun q => q (fun i hi j hj q1 q2 => by rw [h.size h1 h2 h3 h4 h5 hi q1, h.size h1 h2 h3 h4 h5 hj q2])), if_pos (by rw [hm]; decide), hm]
/-- No more are struck: it is read. -/
theorem read_kept (h : Hurt r L seg d s M Ls g) (h1 : 1 ≤ d) (h2 : d ≤ 8) (h3 : s ≤ 4) (h4 : seg ≤ 39) (h5 : L ≤ 400 * d) (hc : cnt M (d + s) ≤ s) (hr : ∀ k, r k < 256) :
    readE seg d (d + s) Ls g = 0 ∧ Seg.rz g (thr (Seg.rl seg Ls g) (d + s) 0) = L ∧ ∀ r', Gf.Bd2 r' → Gf.Und d (fun p => Gf.rowF d (thr (Seg.rl seg Ls g) (d + s) p)) r' → ∀ k, k < L → readF d (d + s) (Seg.rl seg Ls g) (Seg.rf g) r' k = r k := by
  have ht := h.there h1 h2 h3 h4 h5
  have hn1 := Seg.layN_pos L d h1
  have hn2 := Seg.layN_le h1 h5
  have hw : wrongC (d : Int) (((d + s : Nat) : Int) - (d : Int)) = 0 := wrongC_ok (by omega)
  have hp : ∀ p, p < (there (Seg.rl seg Ls g) (d + s)).length → thr (Seg.rl seg Ls g) (d + s) p < d + s ∧ Seg.right seg Ls g (thr (Seg.rl seg Ls g) (d + s) p) ∧ Seg.rl seg Ls g (thr (Seg.rl seg Ls g) (d + s) p) = Seg.layN L d := fun p hp => by
    obtain ⟨q1, q2⟩ := thr_mem hp
    have q3 := Seg.rl_right q2
    refine ⟨q1, q3, ?_⟩
    rw [Seg.rl_yes q3, (h.ok _ q1 ((h.right h1 h2 h3 h4 h5 q1).1 q3)).1, Nat.add_sub_cancel]
  obtain ⟨a1, a2, a3⟩ := hp 0 (by omega)
  have hm : mendE (d : Int) (d + s) (Seg.rl seg Ls g) = 0 := by
    unfold mendE
    rw [if_neg (fun q => q hw), if_neg (by rw [Int.toNat_natCast]; omega), if_pos ⟨by rw [a3]; exact hn2, fun p q => by rw [(hp p q).2.2, a3]⟩]
  have hz := h.size h1 h2 h3 h4 h5 a1 a2
  refine ⟨?_, hz, fun r' hb' hu k hk => ?_⟩
  · unfold readE
    rw [if_neg (fun q => q hw), if_neg (fun q => q (fun i hi j hj q1 q2 => by rw [h.size h1 h2 h3 h4 h5 hi q1, h.size h1 h2 h3 h4 h5 hj q2])), if_neg (fun q => q hm), hz, a3, Int.toNat_natCast, if_neg]
    have := Seg.layN_room L d h1
    rw [Nat.mul_comm] at this
    omega
  · unfold readF
    rw [a3]
    have hk1 : k / Seg.layN L d < d := by
      rw [Nat.div_lt_iff_lt_mul (by omega), Nat.mul_comm]
      exact Nat.lt_of_lt_of_le hk (Seg.layN_room L d h1)
    have hk2 : k % Seg.layN L d < Seg.layN L d := Nat.mod_lt _ (by omega)
    have hD := Seg.layD_bd hr L (Seg.layN L d)
    rw [mended (D := Seg.layD r L (Seg.layN L d)) hD hb' hu (fun p q => ?_), shard_data hD hk1, Seg.layD_in hk2]
    · rw [Nat.mul_comm, Nat.div_add_mod]
    · rw [Nat.mul_comm, Nat.div_add_mod]; exact hk
    · obtain ⟨b1, b2, _⟩ := hp p (by omega)
      obtain ⟨_, e2⟩ := h.ok _ b1 ((h.right h1 h2 h3 h4 h5 b1).1 b2)
      show g _ (k % Seg.layN L d + 7) = _
      rw [e2, Seg.blk_in (by omega), Crc.enc_hd (by omega)]
      rfl
end

theorem strB_congr {f g : Nat → Nat} {n : Nat} (h : ∀ k, k < n → f k = g k) : strB f n = strB g n := by
  unfold strB
  refine congrArg _ ?_
  exact List.map_congr_left (fun k hk => by rw [h k (List.mem_range.1 hk)])

/-- The blocks of a segment hang on its bytes alone. -/
theorem shard_congr {r r' : Nat → Nat} {L d : Nat} (h : ∀ k, k < L → r k = r' k) : Seg.shard r L d = Seg.shard r' L d := by
  have e : Seg.layD r L (Seg.layN L d) = Seg.layD r' L (Seg.layN L d) := by
    funext i k
    unfold Seg.layD
    split
    · rename_i q
      rw [h _ q.2]
    · rfl
  unfold Seg.shard
  rw [e]
theorem blk_congr {r r' : Nat → Nat} {L seg d : Nat} (h : ∀ k, k < L → r k = r' k) : Seg.blk r L seg d = Seg.blk r' L seg d := by
  funext i
  unfold Seg.blk
  rw [shard_congr h]

end Go.Proofs.Ytmlboaejkmffjad

namespace Go.Proofs.Ytmlboaejkmffjad
open Go.RowKit

theorem byts_of_block {w w' : World} {g o n cap : Nat} {f : Nat → Nat} (h : Byts w (.slice (some ⟨g, o, none⟩) n cap) n f) (e : w'.heap[g]? = w.heap[g]?) : Byts w' (.slice (some ⟨g, o, none⟩) n cap) n f := by
  obtain ⟨bd, A, C, hv, h1, h2, hc⟩ := h
  refine ⟨bd, A, C, hv, h1, h2, fun k hk => ?_⟩
  obtain ⟨b', o', e1, e2⟩ := hc k hk
  cases hv
  cases e1
  exact ⟨g, o, rfl, (World.cell?_of_block (a := ⟨g, o + k, none⟩) e).trans e2⟩
theorem byts_zero {w w' : World} {v : Value} {f : Nat → Nat} (h : Byts w v 0 f) : Byts w' v 0 f := by
  obtain ⟨bd, A, C, hv, h1, h2, _⟩ := h
  exact ⟨bd, A, C, hv, h1, h2, fun k hk => absurd hk (Nat.not_lt_zero k)⟩

/-- Bytes that lie in a row of bytes of the call's own; or none. -/
structure Pce (w : World) (N : Nat) (v : Value) (n : Nat) (f : Nat → Nat) : Prop where
  byts : Byts w v n f
  own : n = 0 ∨ ∃ g o cap m F, v = .slice (some ⟨g, o, none⟩) n cap ∧ N ≤ g ∧ RowC w g 5 m F
theorem Pce.of_block {w w' : World} {N n : Nat} {v : Value} {f : Nat → Nat} (h : Pce w N v n f) (hb : ∀ g m F, N ≤ g → RowC w g 5 m F → w'.heap[g]? = w.heap[g]?) : Pce w' N v n f := by
  rcases h.own with rfl | ⟨g, o, cap, m, F, rfl, hg, hr⟩
  · exact ⟨byts_zero h.byts, Or.inl rfl⟩
  · exact ⟨byts_of_block h.byts (hb g m F hg hr), Or.inr ⟨g, o, cap, m, F, rfl, hg, hr.of_block (hb g m F hg hr)⟩⟩
theorem Pce.below {w w' : World} {N n : Nat} {v : Value} {f : Nat → Nat} (h : Pce w N v n f) (hb : Below w.heap.size w w') : Pce w' N v n f := h.of_block (fun g _ _ _ hr => hb.block g hr.lt)
theorem Pce.kept {w w' : World} {N n M k : Nat} {v y : Value} {t : TypeId} {xs : List Value} {f : Nat → Nat} (h : Pce w N v n f) (ht : 5 ≠ t) (ho : w.ownsRow M t 1 y k xs) (hg : w.grownBy w' y.ownBlock) : Pce w' N v n f :=
  h.of_block (fun g m F _ hr => hg.block g hr.lt (fun e => by
    obtain ⟨F2, h2⟩ := owns_block ho e.symm
    exact hr.ne h2 ht rfl))
theorem Pce.lower {w : World} {N M n : Nat} {v : Value} {f : Nat → Nat} (h : Pce w N v n f) (hM : M ≤ N) : Pce w M v n f :=
  ⟨h.byts, h.own.imp id (fun ⟨g, o, cap, m, F, e, hg, hr⟩ => ⟨g, o, cap, m, F, e, Nat.le_trans hM hg, hr⟩)⟩
theorem Pce.nil (w : World) (N : Nat) {f : Nat → Nat} (hf : Bd f) : Pce w N (.slice none 0 0) 0 f := ⟨Byts.none w hf, Or.inl rfl⟩
theorem Made.pce {w : World} {N n : Nat} {v : Value} {f : Nat → Nat} (h : Made w N v n f) (hf : Bd f) : Pce w N v n f := by
  refine ⟨h.byts hf, ?_⟩
  obtain ⟨g, cap, rfl, hg, _, _, hr⟩ := h
  exact Or.inr ⟨g, 0, cap, _, _, rfl, hg, hr⟩

/-- A list of such that is appended to. -/
structure Pcs (w : World) (N : Nat) (v : Value) (k : Nat) (U : Nat → Value) (L : Nat → Nat) (f : Nat → Nat → Nat) : Prop where
  own : w.ownsRow N 25 1 v k ((List.range k).map U)
  row : ∀ i, i < k → Pce w N (U i) (L i) (f i)
theorem Pcs.below {w w' : World} {N k : Nat} {v : Value} {U : Nat → Value} {L : Nat → Nat} {f : Nat → Nat → Nat} (h : Pcs w N v k U L f) (hb : Below w.heap.size w w') : Pcs w' N v k U L f :=
  ⟨owns_below h.own hb, fun i hi => (h.row i hi).below hb⟩
theorem Pcs.start (w : World) (N : Nat) (U : Nat → Value) (L : Nat → Nat) (f : Nat → Nat → Nat) : Pcs w N (.slice none 0 0) 0 U L f :=
  ⟨World.ownsRow_nil w N _ 1, fun i hi => absurd hi (Nat.not_lt_zero i)⟩
theorem Pcs.step {w w' : World} {N k : Nat} {v v' u : Value} {U : Nat → Value} {L : Nat → Nat} {f : Nat → Nat → Nat} (h : Pcs w N v k U L f) (hr : Pce w N u (L k) (f k))
    (ho : w'.ownsRow N 25 1 v' (k + 1) ((List.range k).map U ++ [u])) (hg : w.grownBy w' v.ownBlock) : Pcs w' N v' (k + 1) (updV U k u) L f := by
  refine ⟨by rw [range_upd]; exact ho, fun i hi => ?_⟩
  by_cases e : i = k
  · rw [e, updV_at]
    exact hr.kept (by decide) h.own hg
  · rw [updV_ne _ _ e]
    exact (h.row i (by omega)).kept (by decide) h.own hg
theorem Pcs.lls {w : World} {N k : Nat} {v : Value} {U : Nat → Value} {L : Nat → Nat} {f : Nat → Nat → Nat} (h : Pcs w N v k U L f) (bd : Gf.Bd2 f) : Lls w v k L f := by
  rcases h.own.2 with ⟨rfl, h0⟩ | ⟨g, cap, cur, rfl, _, _, h1, h2, _, _⟩
  · subst h0
    exact ⟨bd, none, 0, rfl, Nat.le_refl _, Nat.zero_le _, fun r hr => absurd hr (Nat.not_lt_zero r)⟩
  · refine ⟨bd, some ⟨g, 0, none⟩, cap, rfl, h1, h2, fun r hr => ⟨g, 0, U r, rfl, ?_, (h.row r hr).byts⟩⟩
    have := h.own.cells (g := g) rfl r (U r) (by simp [hr])
    rw [WideShapes.add_plain] at this
    exact this
/-- Another list of the call's own grows. -/
theorem Pcs.kept {w w' : World} {N k M m : Nat} {v y : Value} {t : TypeId} {xs : List Value} {U : Nat → Value} {L : Nat → Nat} {f : Nat → Nat → Nat} (h : Pcs w N v k U L f) (ht : 5 ≠ t) (ht2 : 25 ≠ t) (ho : w.ownsRow M t 1 y m xs) (hg : w.grownBy w' y.ownBlock) : Pcs w' N v k U L f := by
  refine ⟨h.own.kept hg ?_, fun i hi => (h.row i hi).kept ht ho hg⟩
  cases hv : v.ownBlock with
  | none => exact Or.inl rfl
  | some x =>
    refine Or.inr (fun e => ?_)
    obtain ⟨F1, h1⟩ := owns_block h.own hv
    obtain ⟨F2, h2⟩ := owns_block ho e.symm
    exact h1.ne h2 ht2 rfl
theorem Nums.kept {w w' : World} {N M m : Nat} {v y : Value} {t : TypeId} {xs : List Value} {l : List Nat} (h : Nums w N v l) (ht : 3 ≠ t) (ho : w.ownsRow M t 1 y m xs) (hg : w.grownBy w' y.ownBlock) : Nums w' N v l := by
  refine World.ownsRow.kept h hg ?_
  cases hv : v.ownBlock with
  | none => exact Or.inl rfl
  | some x =>
    refine Or.inr (fun e => ?_)
    obtain ⟨F1, h1⟩ := owns_block h hv
    obtain ⟨F2, h2⟩ := owns_block ho e.symm
    exact h1.ne h2 ht rfl

end Go.Proofs.Ytmlboaejkmffjad
