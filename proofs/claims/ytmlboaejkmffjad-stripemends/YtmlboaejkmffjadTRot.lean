/-
  A list of blocks with the first one behind the others: all of them are in another one's place.
-/
import Derived.Test.YtmlboaejkmffjadTAlive
import Derived.Deep.Cut
namespace Go.Proofs.Ytmlboaejkmffjad
open Go.RowKit

theorem layE_inv {L : Nat} {seg d s : Int} (h : Seg.layE L seg d s = 0) : 1 ≤ d ∧ d ≤ 8 ∧ 0 ≤ s ∧ s ≤ 4 ∧ 0 ≤ seg ∧ seg ≤ 39 ∧ (L : Int) ≤ 400 * d := by
  unfold Seg.layE at h
  split at h
  · cases h
  · split at h
    · cases h
    · split at h
      · cases h
      · omega
theorem cnt_all : (N : Nat) → cnt (fun _ => true) N = N
  | 0 => rfl
  | N + 1 => by
    show cnt (fun _ => true) N + 1 = N + 1
    rw [cnt_all N]
/-- Where none is right all of them are told. -/
theorem badL_all {seg : Int} {L : Nat → Nat} {g : Nat → Nat → Nat} {N : Nat} (h : ∀ i, i < N → ¬ Seg.right seg L g i) : (Seg.badL seg L g N).length = N := by
  rw [badL_cnt (M := fun _ => true) N (fun i hi => ⟨fun q => absurd q (h i hi), fun q => by cases q⟩), cnt_all]
/-- Blocks of another segment. -/
theorem other_wrong {r : Nat → Nat} {L seg d N : Nat} {other : Int} (h1 : 1 ≤ d) (h2 : d ≤ 8) (h4 : seg ≤ 39) (h5 : L ≤ 400 * d) (hN : N ≤ 12) (ho : ¬ other = (seg : Int)) : (Seg.badL other (fun _ => Seg.layN L d + 11) (Seg.blk r L seg d) N).length = N :=
  badL_all (fun i hi q => ho (by
    obtain ⟨_, q2, _⟩ := Seg.blk_right (r := r) (L := L) (seg := seg) (d := d) (i := i) h1 h5 h4 (by omega) h2
    have := q.2.1
    rw [q2] at this
    exact this.symm))
/-- What lies at place i: the one behind it; at the last place the first one. -/
def rot (g : Nat → Nat → Nat) (N i : Nat) : Nat → Nat := if i + 1 < N then g (i + 1) else g 0
theorem rot_wrong {r : Nat → Nat} {L seg d N : Nat} (h1 : 1 ≤ d) (h2 : d ≤ 8) (h4 : seg ≤ 39) (h5 : L ≤ 400 * d) (hN : N ≤ 12) (hN2 : 2 ≤ N) : (Seg.badL (seg : Int) (fun _ => Seg.layN L d + 11) (rot (Seg.blk r L seg d) N) N).length = N :=
  badL_all (fun i hi q => by
    have q3 := q.2.2
    unfold rot at q3
    by_cases e : i + 1 < N
    · rw [if_pos e, (Seg.blk_right (r := r) (L := L) (seg := seg) (d := d) (i := i + 1) h1 h5 h4 (by omega) h2).2.2] at q3
      omega
    · rw [if_neg e, (Seg.blk_right (r := r) (L := L) (seg := seg) (d := d) (i := 0) h1 h5 h4 (by omega) h2).2.2] at q3
      omega)

/-- A list of the call's own that is appended to, since world W. -/
structure RB (W w : World) (v : Value) (xs : List Value) : Prop where
  bel : Below W.heap.size W w
  own : w.ownsRow W.heap.size 25 1 v xs.length xs
theorem RB.below {W w w' : World} {v : Value} {xs : List Value} (h : RB W w v xs) (hb : Below w.heap.size w w') : RB W w' v xs := ⟨bt h.bel hb, owns_below h.own hb⟩
theorem RB.alloc {W w : World} {v : Value} {xs : List Value} (h : RB W w v xs) (o : Obj) : RB W (w.alloc o) v xs := h.below ((Below.refl _ _).alloc (Nat.le_refl _) o)
theorem rb_new {W w : World} (h : Below W.heap.size W w) : RB W (w.alloc (.cells #[] 25)) (.slice (some ⟨w.heap.size, 0, none⟩) 0 0) [] :=
  ⟨h.alloc h.size _, World.ownsRow_made w #[] 0 h.size (by unfold maxLen; omega) rfl⟩
/-- A short list beside it. -/
structure Tm (w : World) (v : Value) (g : Nat) (u : Value) : Prop where
  row : w.rowIs g 25 1 (fun _ => u)
  ne : v.ownBlock ≠ some g
theorem Tm.below {w w' : World} {v : Value} {g : Nat} {u : Value} (h : Tm w v g u) (hb : Below w.heap.size w w') : Tm w' v g u := ⟨h.row.of_block (hb.block g h.row.lt), h.ne⟩
theorem one_new (w : World) (u : Value) : (w.alloc (.cells #[u] 25)).rowIs w.heap.size 25 1 (fun _ => u) := by
  have := World.rowIs_alloc w #[u] 25 (fun _ => u) (fun i hi => by
    have hi' : i < 1 := hi
    have : i = 0 := by omega
    subst this
    rfl)
  exact this
theorem tm_new {W w : World} {v u : Value} {xs : List Value} (h : RB W w v xs) : Tm (w.alloc (.cells #[u] 25)) v w.heap.size u := by
  refine ⟨one_new w u, fun e => ?_⟩
  have := (h.own.lt _ e).2
  omega
theorem Tm.cells {w : World} {v : Value} {g : Nat} {u : Value} (h : Tm w v g u) : ∀ j x, [u][j]? = some x → w.cell? ((⟨g, 0, none⟩ : Addr).add j) = some x := fun j x hj => by
  match j, hj with
  | 0, hj =>
    cases hj
    rw [WideShapes.add_plain]
    exact h.row.cell (by decide)
  | j + 1, hj => simp at hj
/-- An append to it, inside a statement that leaves its order open. -/
theorem app_rb {ops : Array Oper} {o : Oper} {a : Act} {w : World} {K : Act → World → Prop} {Q : Exit → Act → World → Prop} {E : Prop}
    (hg : o.guard = none) (s x : Operand) (hop : o.op = Op.call { callee := Callee.builtin Builtin.append, args := #[s, x], argTypes := #[43, 43] })
    {W : World} {v : Value} {xs ys : List Value} {A : Addr} {m c : Nat} (hs : a.eval s = v) (hx : a.eval x = .slice (some A) m c) (hR : RB W w v xs) (hy : ys.length = m) (hc : ∀ j u, ys[j]? = some u → w.cell? (A.add j) = some u) (h1 : ∀ u ∈ ys, u.oneCell' = true) (hl : xs.length + m ≤ 1000)
    (hK : ∀ v' w', RB W w' v' (xs ++ ys) → (∀ g u, Tm w v g u → Tm w' v' g u) → K (a.put o.dst v') w') :
    if Region.wanted o (yielded ops a.tmps) = true then Oper.wp Try.prog o a w K Q else E := by
  have hw : Region.wanted o (yielded ops a.tmps) = true := by simp [Region.wanted, hg]
  rw [if_pos hw]
  obtain ⟨i0, hi, hh⟩ := Option.map_eq_some_iff.1 Try.infoRow
  simp only [Prod.mk.injEq] at hh
  obtain ⟨hz0, hz1, hz2⟩ := hh
  obtain ⟨v', w', hr, h2, h3, _, h5⟩ := run_append_own_at (P := Try.prog) w W.heap.size 43 o.type 25 i0 (.slice none 0 0) 1 24 Try.underlying43 hi hz0 hz1 hz2 rfl (by decide) v xs.length xs hR.own A m c ys (by omega) hc h1 (by unfold maxLen; omega) (by omega) hR.bel.size
  unfold Oper.wp execOp
  simp only [hop, resolve, invoke, builtin, Sem.run_bind, Sem.run_pure, Result.andThen_ok, List.map_toArray, List.map_cons, List.map_nil, hs, hx, hr]
  refine hK v' w' ⟨hR.bel.grown h3 hR.bel.size (fun y hy => (hR.own.lt y hy).1), ?_⟩ (fun g u ht => ⟨ht.row.of_block (h3.block g ht.row.lt (fun e => ht.ne e.symm)), fun e => ?_⟩)
  · rw [List.length_append, hy]
    exact h2
  · rcases h5 with h5 | h5
    · rw [h5] at e
      exact ht.ne e
    · rw [h5] at e
      have := ht.row.lt
      simp at e
      omega
theorem keepO {w0 wX : World} {b o : Nat} {x : Value} {w3 : World} (b3 : Below wX.heap.size wX w3) (h : wX.cell? ⟨b, o, none⟩ = some x ∧ Below w0.heap.size w0 wX) : w3.cell? ⟨b, o, none⟩ = some x ∧ Below w0.heap.size w0 w3 :=
  ⟨(b3.cell (p := ⟨b, o, none⟩) (World.block_lt_of_cell? _ _ h.1)).trans h.1, bt h.2 b3⟩
theorem keepOa {w0 wX : World} {b o : Nat} {x : Value} {ob : Obj} (h : wX.cell? ⟨b, o, none⟩ = some x ∧ Below w0.heap.size w0 wX) : (wX.alloc ob).cell? ⟨b, o, none⟩ = some x ∧ Below w0.heap.size w0 (wX.alloc ob) := keepO ((Below.refl _ _).alloc (Nat.le_refl _) _) h
theorem keepOd {w0 wX : World} {b o : Nat} {x : Value} {ob : Obj} (h : wX.drew.cell? ⟨b, o, none⟩ = some x ∧ Below w0.heap.size w0 wX.drew) : (wX.alloc ob).drew.cell? ⟨b, o, none⟩ = some x ∧ Below w0.heap.size w0 (wX.alloc ob).drew := keepOa (wX := wX.drew) h

end Go.Proofs.Ytmlboaejkmffjad
