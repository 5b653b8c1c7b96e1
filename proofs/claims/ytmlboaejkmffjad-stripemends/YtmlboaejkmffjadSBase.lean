/-
  What is said of segments, whoever lays or reads them: lists of numbers, lists of blocks, what is told beside a number.
-/
import Derived.Test.YtmlboaejkmffjadLls
import Derived.Test.YtmlboaejkmffjadSPure
import Derived.Test.YtmlboaejkmffjadCMend
import Derived.Test.YtmlboaejkmffjadBAny
import Derived.Test.YtmlboaejkmffjadAppM
namespace Go.Proofs.Ytmlboaejkmffjad
open Go.RowKit

/-- Numbers that the call has made, in a list. -/
def Nums (w : World) (N : Nat) (v : Value) (l : List Nat) : Prop := w.ownsRow N 3 1 v l.length (l.map fun x : Nat => Value.int .i64 (x : Int))
theorem Try.infoInt : (Try.prog.info? 3).map (fun i => (i.zero, i.size, i.bytes)) = some (some (.int .i64 0), 1, 8) := by kernel_rfl

theorem Nums.nil (w : World) (N : Nat) : Nums w N (.slice none 0 0) [] := World.ownsRow_nil w N _ 1
theorem Nums.below {w w' : World} {N : Nat} {v : Value} {l : List Nat} (h : Nums w N v l) (hb : Below w.heap.size w w') : Nums w' N v l := owns_below h hb
theorem Nums.one {w : World} {N : Nat} {v : Value} {l : List Nat} {x : Nat} (h : w.ownsRow N 3 1 v (l.length + 1) ((l.map fun x : Nat => Value.int .i64 (x : Int)) ++ [.int .i64 (x : Int)])) : Nums w N v (l ++ [x]) := by
  unfold Nums
  rw [List.length_append, List.map_append]
  exact h
theorem badL_len (s : Int) (L : Nat → Nat) (g : Nat → Nat → Nat) (k : Nat) : (Seg.badL s L g k).length ≤ k := by
  unfold Seg.badL
  exact Nat.le_trans (List.length_filter_le _ _) (by simp)

/-- Rows that are appended to are lists. -/
theorem Acc.lls {w : World} {N : Nat} {v : Value} {k c : Nat} {G K : Nat → Nat} {f : Nat → Nat → Nat} (h : Acc w N v k c G K f) (bd : Gf.Bd2 f) (hK : ∀ i, i < k → c ≤ K i ∧ K i ≤ maxLen) : Lls w v k (fun _ => c) f := by
  rcases h.own.2 with ⟨rfl, h0⟩ | ⟨g, cap, cur, rfl, _, _, h1, h2, _, _⟩
  · subst h0
    exact ⟨bd, none, 0, rfl, Nat.le_refl _, Nat.zero_le _, fun r hr => absurd hr (Nat.not_lt_zero r)⟩
  · refine ⟨bd, some ⟨g, 0, none⟩, cap, rfl, h1, h2, fun r hr => ⟨g, 0, .slice (some ⟨G r, 0, none⟩) c (K r), rfl, ?_, ?_⟩⟩
    · have := h.own.cells (g := g) rfl r (.slice (some ⟨G r, 0, none⟩) c (K r)) (by simp [hr])
      rw [WideShapes.add_plain] at this
      exact this
    · exact byts_of_row (bd r) (h.row r hr).2 (hK r hr).1 (hK r hr).2

/-- Lists appended to those that the call has made. -/
theorem app_more (w : World) (N : Nat) (v : Value) (d s c : Nat) (G K G' K' : Nat → Nat) (f f' : Nat → Nat → Nat) (N' : Nat) (vm : Value) (hds : d + s ≤ 1000) (hN : N ≤ w.heap.size) (hNN : N ≤ N') (hA : Acc w N v d c G K f) (hM : Acc w N' vm s c G' K' f') (hs : 1 ≤ s) :
    ∃ v' w', (Builtin.append_ #[43, 43] 43 #[v, vm]).run Try.prog w = .ok v' w' ∧ Below N w w' ∧ Acc w' N v' (d + s) c (fun i => if i < d then G i else G' (i - d)) (fun i => if i < d then K i else K' (i - d)) (fun i => if i < d then f i else f' (i - d)) := by
  obtain ⟨i0, hi, hh⟩ := Option.map_eq_some_iff.1 Try.infoRow
  simp only [Prod.mk.injEq] at hh
  obtain ⟨hz0, hz1, hz2⟩ := hh
  obtain ⟨gm, cm, rfl, _, _, hr⟩ := rowC_owns hM.own hs
  obtain ⟨v', w', hrun, ho, hg, _⟩ := run_append_own (P := Try.prog) w N 43 43 25 i0 (.slice none 0 0) 1 24 Try.underlying43 hi hz0 hz1 hz2 rfl (by decide) v d _ hA.own ⟨gm, 0, none⟩ s cm ((List.range s).map fun i => .slice (some ⟨G' i, 0, none⟩) c (K' i)) (by simp) (fun j u hj => hM.own.cells (g := gm) rfl j u hj) (fun u hu => by
    obtain ⟨_, _, rfl⟩ := List.mem_map.1 hu
    rfl) (by unfold maxLen; omega) (by omega) hN
  have keep : ∀ x F, RowC w x 5 c F → RowC w' x 5 c F := fun x F hx => hx.of_block (hg.block x hx.lt (fun e => by
    obtain ⟨F2, h2⟩ := owns_block hA.own e.symm
    exact hx.ne h2 (by decide) rfl))
  refine ⟨v', w', hrun, (Below.refl N w).grown hg hN (fun x hx => (hA.own.lt x hx).1), ?_, fun i hi => ?_⟩
  · have e : (List.range (d + s)).map (fun i => Value.slice (some ⟨if i < d then G i else G' (i - d), 0, none⟩) c (if i < d then K i else K' (i - d))) = ((List.range d).map fun i => .slice (some ⟨G i, 0, none⟩) c (K i)) ++ ((List.range s).map fun i => .slice (some ⟨G' i, 0, none⟩) c (K' i)) := by
      rw [List.range_add, List.map_append, List.map_map]
      refine congr (congrArg _ ?_) ?_
      · refine List.map_congr_left (fun i hi => ?_)
        have := List.mem_range.1 hi
        rw [if_pos this, if_pos this]
      · refine List.map_congr_left (fun i _ => ?_)
        show Value.slice (some ⟨if d + i < d then G (d + i) else G' (d + i - d), 0, none⟩) c (if d + i < d then K (d + i) else K' (d + i - d)) = _
        rw [if_neg (by omega), if_neg (by omega), Nat.add_sub_cancel_left]
    rw [e]
    exact ho
  · by_cases e : i < d
    · simp only [if_pos e]
      exact ⟨(hA.row i e).1, keep _ _ (hA.row i e).2⟩
    · simp only [if_neg e]
      exact ⟨Nat.le_trans hNN (hM.row (i - d) (by omega)).1, keep _ _ (hM.row (i - d) (by omega)).2⟩

theorem shard_data {d : Nat} {D : Nat → Nat → Nat} (hD : Gf.Bd2 D) {i : Nat} (hi : i < d) (k : Nat) : Gf.mm d (Gf.rowF d) D i k = D i k := by
  refine Eq.trans (Gf.mm_congr (a' := Gf.one) (b' := D) (fun j _ => if_pos hi) (fun _ _ => rfl)) (Gf.one_mm hD k hi)
theorem lls_congr {w : World} {v : Value} {n : Nat} {L : Nat → Nat} {f f' : Nat → Nat → Nat} (h : Lls w v n L f) (bd : Gf.Bd2 f') (e : ∀ i, i < n → ∀ k, k < L i → f i k = f' i k) : Lls w v n L f' := by
  obtain ⟨A, cap, hv, h1, h2, hr⟩ := h.lies
  refine ⟨bd, A, cap, hv, h1, h2, fun r hrn => ?_⟩
  obtain ⟨b, o, u, e1, e2, _, A', C', e3, e4, e5, e6⟩ := hr r hrn
  refine ⟨b, o, u, e1, e2, bd r, A', C', e3, e4, e5, fun k hk => ?_⟩
  obtain ⟨b', o', e7, e8⟩ := e6 k hk
  exact ⟨b', o', e7, by rw [← e r hrn k hk]; exact e8⟩

/-- What Lay tells beside a number. -/
def LayO (w : World) (E : Nat) (v : Value) (N m : Nat) (F : Nat → Nat → Nat) : Prop := (E = 0 ∧ Lls w v N (fun _ => m) F) ∨ (E ≠ 0 ∧ v = .slice none 0 0)
theorem layE_ok {L seg d s : Nat} (h1 : 1 ≤ d) (h2 : d ≤ 8) (h3 : s ≤ 4) (h4 : seg ≤ 39) (h5 : L ≤ 400 * d) : Seg.layE L seg d s = 0 := by
  unfold Seg.layE
  rw [if_neg (by omega), if_neg (by omega), if_neg (by omega)]

/-- What is told of blocks that are read. -/
def readE (seg : Int) (d : Int) (N : Nat) (L : Nat → Nat) (g : Nat → Nat → Nat) : Nat :=
  if wrongC d ((N : Int) - d) ≠ 0 then 5 else if ¬ Seg.sizes seg L g N then 8 else if mendE d N (Seg.rl seg L g) ≠ 0 then mendE d N (Seg.rl seg L g)
  else if d.toNat * Seg.rl seg L g (thr (Seg.rl seg L g) N 0) < Seg.rz g (thr (Seg.rl seg L g) N 0) then 8 else 0
/-- What is read. -/
def ReadO (w : World) (E : Nat) (v : Value) (n N : Nat) (L : Nat → Nat) (f : Nat → Nat → Nat) (z : Nat) : Prop :=
  (E = 0 ∧ ∃ r, Gf.Bd2 r ∧ Gf.Und n (fun p => Gf.rowF n (thr L N p)) r ∧ Byts w v z (fun k => Gf.mm n (Gf.rowF n) (Gf.mm n r (fun p => f (thr L N p))) (k / L (thr L N 0)) (k % L (thr L N 0)))) ∨ (E ≠ 0 ∧ v = .slice none 0 0)
def updV {α : Type} (Q : Nat → α) (k : Nat) (e : α) (i : Nat) : α := if i = k then e else Q i
theorem updV_at {α : Type} (Q : Nat → α) (k : Nat) (e : α) : updV Q k e k = e := if_pos rfl
theorem updV_ne {α : Type} (Q : Nat → α) {k i : Nat} (e : α) (h : i ≠ k) : updV Q k e i = Q i := if_neg h
theorem range_upd (U : Nat → Value) (k : Nat) (u : Value) : (List.range (k + 1)).map (updV U k u) = (List.range k).map U ++ [u] := by
  rw [List.range_succ, List.map_append]
  refine congr (congrArg _ ?_) ?_
  · refine List.map_congr_left (fun i hi => updV_ne _ _ ?_)
    have := List.mem_range.1 hi
    omega
  · show [updV U k u k] = [u]
    rw [updV_at]
theorem Byts.none (w : World) {f : Nat → Nat} (hf : Bd f) : Byts w (.slice Option.none 0 0) 0 f := ⟨hf, Option.none, 0, rfl, Nat.le_refl _, Nat.zero_le _, fun i hi => absurd hi (Nat.not_lt_zero i)⟩
theorem lls_own {w wr : World} {N n : Nat} {y : Value} {U : Nat → Value} {L : Nat → Nat} {f : Nat → Nat → Nat} (ho : wr.ownsRow N 25 1 y n ((List.range n).map U)) (hU : ∀ i, i < n → Byts w (U i) (L i) (f i)) (hb : Below w.heap.size w wr) (bd : Gf.Bd2 f) : Lls wr y n L f := by
  rcases ho.2 with ⟨rfl, h0⟩ | ⟨g, cap, cur, rfl, _, _, h1, h2, _, _⟩
  · subst h0
    exact ⟨bd, none, 0, rfl, Nat.le_refl _, Nat.zero_le _, fun r hr => absurd hr (Nat.not_lt_zero r)⟩
  · refine ⟨bd, some ⟨g, 0, none⟩, cap, rfl, h1, h2, fun r hr => ⟨g, 0, U r, rfl, ?_, (hU r hr).below hb⟩⟩
    have := ho.cells (g := g) rfl r (U r) (by simp [hr])
    rw [WideShapes.add_plain] at this
    exact this

theorem flat_at (F : Nat → Nat → Nat) (n c j : Nat) (hc : 1 ≤ c) (hj : j < n * c) : ((List.range n).flatMap (fun p => (List.range c).map (F p))).getD j 0 = F (j / c) (j % c) := by
  have h1 : j / c < n := by
    rw [Nat.div_lt_iff_lt_mul (by omega)]
    exact hj
  have h2 : j % c < c := Nat.mod_lt _ (by omega)
  have h3 := flat_get (fun p => (List.range c).map (F p)) c (List.range n) (fun _ _ => by simp) (j / c) (j % c) h2 (j / c) (by simp [h1])
  rw [show j / c * c + j % c = j by rw [Nat.mul_comm]; exact Nat.div_add_mod j c] at h3
  rw [List.getD_eq_getElem?_getD, h3]
  simp [h2]
theorem extract_at {l : List Nat} {z j : Nat} (hb : ∀ x, x ∈ l → x < 256) (hz : z ≤ l.length) (hj : j < z) : (((strL l).extract 0 z).data.toList.getD j 0).toNat = l.getD j 0 := by
  have h1 : (strL l).data.toList = l.map UInt8.ofNat := by rw [← ByteArray.toList_eq]; exact strL_list l
  have h2 : ((strL l).extract 0 z).data.toList = (l.map UInt8.ofNat).take z := by
    rw [ByteArray.data_extract, Array.toList_extract, h1]
    simp
  have hjl : j < l.length := by omega
  rw [h2, List.getD_eq_getElem?_getD, List.getElem?_take, if_pos hj, List.getElem?_map, List.getElem?_eq_getElem hjl]
  have := hb _ (List.getElem_mem hjl)
  simp [List.getD, hjl]
  omega

/-- The bytes that are read. -/
def readF (n N : Nat) (L : Nat → Nat) (f r : Nat → Nat → Nat) (k : Nat) : Nat := Gf.mm n (Gf.rowF n) (Gf.mm n r (fun p => f (thr L N p))) (k / L (thr L N 0)) (k % L (thr L N 0))
/-- What Mend tells of whatever blocks. -/
def SMendP (seg d : Int) (N : Nat) (L : Nat → Nat) (g : Nat → Nat → Nat) (e : Ending) (w' : World) : Prop :=
  (readE seg d N L g ≠ 0 ∧ e = .returned (.tuple #[.slice none 0 0, .int .i64 (readE seg d N L g : Nat)])) ∨
  (readE seg d N L g = 0 ∧ ∃ v' r, Gf.Bd2 r ∧ Gf.Und d.toNat (fun p => Gf.rowF d.toNat (thr (Seg.rl seg L g) N p)) r ∧ e = .returned (.tuple #[v', .int .i64 (Seg.layE (Seg.rz g (thr (Seg.rl seg L g) N 0)) seg d ((N : Int) - d) : Nat)]) ∧
    LayO w' (Seg.layE (Seg.rz g (thr (Seg.rl seg L g) N 0)) seg d ((N : Int) - d)) v' (d.toNat + ((N : Int) - d).toNat) (Seg.layN (Seg.rz g (thr (Seg.rl seg L g) N 0)) d.toNat + 11) (Seg.blk (readF d.toNat N (Seg.rl seg L g) (Seg.rf g) r) (Seg.rz g (thr (Seg.rl seg L g) N 0)) seg.toNat d.toNat))

end Go.Proofs.Ytmlboaejkmffjad
