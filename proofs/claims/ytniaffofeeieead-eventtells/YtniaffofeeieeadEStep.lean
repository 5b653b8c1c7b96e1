/-
  Appends inside a statement that leaves its order open: what is appended to, and what lies beside it.
-/
import Derived.Test.YtniaffofeeieeadXBytes
import Derived.Deep.RegionHeld3
import Derived.Maps.AppendAt
import Derived.Lib.AppendStr
import Derived.Deep.Cut
import Derived.Deep.CutRange
namespace Go.Proofs.Ytniaffofeeieead
open Go.RowKit

/-- Bytes that are appended to since world W; blocks below N, and all that are none of bytes, are as they were. -/
structure RA (W w : World) (N : Nat) (v : Value) (bs : List Nat) : Prop where
  off : OffB N W w
  buf : BufL w N v bs
  hN : N ≤ w.heap.size
theorem RA.below {W w w' : World} {N : Nat} {v : Value} {bs : List Nat} (h : RA W w N v bs) (hb : Below w.heap.size w w') : RA W w' N v bs := ⟨h.off.trans (OffB.of_below hb), h.buf.below hb, Nat.le_trans h.hN hb.size⟩
theorem RA.alloc {W w : World} {N : Nat} {v : Value} {bs : List Nat} (h : RA W w N v bs) (o : Obj) : RA W (w.alloc o) N v bs := h.below ((Below.refl _ _).alloc (Nat.le_refl _) o)
theorem RA.drew {W w : World} {N : Nat} {v : Value} {bs : List Nat} (h : RA W w N v bs) : RA W w.drew N v bs := h.below ((Below.refl _ _).drew)
theorem RA.allocd {W w : World} {N : Nat} {v : Value} {bs : List Nat} (h : RA W w N v bs) (o : Obj) : RA W (w.alloc o).drew N v bs := (h.alloc o).drew
/-- A short row of bytes beside what is appended to. -/
structure Tmp (w : World) (v : Value) (g : Nat) (xs : List Nat) : Prop where
  row : w.rowIs g 5 xs.length (fun j => .int .u8 ((xs.getD j 0 : Nat) : Int))
  ne : v.ownBlock ≠ some g
  le : xs.length ≤ 3
theorem Tmp.below {w w' : World} {v : Value} {g : Nat} {xs : List Nat} (h : Tmp w v g xs) (hb : Below w.heap.size w w') : Tmp w' v g xs := ⟨h.row.of_block (hb.block g h.row.lt), h.ne, h.le⟩
theorem Tmp.alloc {w : World} {v : Value} {g : Nat} {xs : List Nat} (h : Tmp w v g xs) (o : Obj) : Tmp (w.alloc o) v g xs := h.below ((Below.refl _ _).alloc (Nat.le_refl _) o)
theorem Tmp.drew {w : World} {v : Value} {g : Nat} {xs : List Nat} (h : Tmp w v g xs) : Tmp w.drew v g xs := h.below ((Below.refl _ _).drew)
theorem Tmp.cells {w : World} {v : Value} {g : Nat} {xs : List Nat} (h : Tmp w v g xs) : ∀ j u, (clB xs)[j]? = some u → w.cell? ((⟨g, 0, none⟩ : Addr).add j) = some u := fun j u hj => by
  have hj' : j < xs.length := by
    have := (List.getElem?_eq_some_iff.1 hj).1
    simpa [clB] using this
  rw [WideShapes.add_plain, Nat.zero_add, h.row.cell hj']
  simp [clB, hj'] at hj
  rw [← hj]
  simp [List.getD, hj']
theorem row_new (w : World) (xs : List Nat) : (w.alloc (.cells (clB xs).toArray 5)).rowIs w.heap.size 5 xs.length (fun j => .int .u8 ((xs.getD j 0 : Nat) : Int)) := by
  have hs : (clB xs).toArray.size = xs.length := by simp [clB]
  have := World.rowIs_alloc w (clB xs).toArray 5 (fun j => .int .u8 ((xs.getD j 0 : Nat) : Int)) (fun i hi => by
    have hi' : i < xs.length := by simpa [clB] using hi
    simp [clB, hi', List.getD])
  rw [hs] at this
  exact this
theorem tmp_new {W w : World} {N : Nat} {v : Value} {bs : List Nat} (h : RA W w N v bs) (xs : List Nat) (hl : xs.length ≤ 3) : Tmp (w.alloc (.cells (clB xs).toArray 5)) v w.heap.size xs := by
  refine ⟨row_new w xs, fun e => ?_, hl⟩
  have := (h.buf.lt _ e).2
  omega
theorem clB_one (xs : List Nat) : ∀ u ∈ clB xs, u.oneCell' = true := fun u hu => by
  obtain ⟨_, _, rfl⟩ := List.mem_map.1 hu
  rfl
theorem tmp_app {w w' : World} {v v' : Value} {g : Nat} {xs : List Nat} (hg : w.grownBy w' v.ownBlock) (hl : v'.ownBlock = v.ownBlock ∨ v'.ownBlock = some w.heap.size) (ht : Tmp w v g xs) : Tmp w' v' g xs := by
  refine ⟨ht.row.of_block (hg.block g ht.row.lt (fun e => ht.ne e.symm)), fun e => ?_, ht.le⟩
  rcases hl with hl | hl
  · rw [hl] at e
    exact ht.ne e
  · rw [hl] at e
    have := ht.row.lt
    simp at e
    omega
theorem tmp_app_str {w w' : World} {N n : Nat} {v v' : Value} {ys : List Value} {g : Nat} {xs : List Nat} (h : w'.ownsRow N 5 1 v' n ys) (hn : 4 ≤ n) (hg : w.grownBy w' v.ownBlock) (ht : Tmp w v g xs) : Tmp w' v' g xs := by
  have hr := ht.row.of_block (hg.block g ht.row.lt (fun e => ht.ne e.symm))
  refine ⟨hr, fun e => ?_, ht.le⟩
  have h3 := ht.le
  obtain ⟨c, e1, e2, _⟩ := hr
  rcases h.2 with ⟨rfl, _⟩ | ⟨g', cap, cur, rfl, _, q1, q2, _, q4, _⟩
  · simp [Value.ownBlock] at e
  · simp [Value.ownBlock] at e
    subst e
    rw [q1] at e1
    cases e1
    omega
/-- An append of a row beside it. -/
theorem app_step {ops : Array Oper} {o : Oper} {a : Act} {w : World} {K : Act → World → Prop} {Q : Exit → Act → World → Prop} {E : Prop}
    (hg : o.guard = none) (s x : Operand) (hop : o.op = Op.call { callee := Callee.builtin Builtin.append, args := #[s, x], argTypes := #[25, 25] })
    {W : World} {N : Nat} {v : Value} {bs : List Nat} {g c : Nat} {xs : List Nat} (hs : a.eval s = v) (hx : a.eval x = .slice (some ⟨g, 0, none⟩) xs.length c) (hA : RA W w N v bs) (hT : Tmp w v g xs) (hb : bs.length + xs.length ≤ 2000000)
    (hK : ∀ v' w', RA W w' N v' (bs ++ xs) → (∀ g' xs', Tmp w v g' xs' → Tmp w' v' g' xs') → K (a.put o.dst v') w') :
    if Region.wanted o (yielded ops a.tmps) = true then Oper.wp Try.prog o a w K Q else E := by
  have hw : Region.wanted o (yielded ops a.tmps) = true := by simp [Region.wanted, hg]
  rw [if_pos hw]
  obtain ⟨i1, hi1, hh1⟩ := Option.map_eq_some_iff.1 Try.infoByte
  simp only [Prod.mk.injEq] at hh1
  obtain ⟨hy0, hy1, hy2⟩ := hh1
  obtain ⟨v', w', hr, h2, h3, _, h5⟩ := run_append_own_at (P := Try.prog) w N 25 o.type 5 i1 (.int .u8 0) 1 1 Try.underlying25 hi1 hy0 hy1 hy2 rfl (by decide) v bs.length (clB bs) hA.buf ⟨g, 0, none⟩ xs.length c (clB xs) (by simp [clB]) hT.cells (clB_one xs) (by unfold maxLen; omega) (by omega) hA.hN
  unfold Oper.wp execOp
  simp only [hop, resolve, invoke, builtin, Sem.run_bind, Sem.run_pure, Result.andThen_ok, List.map_toArray, List.map_cons, List.map_nil, hs, hx, hr]
  exact hK v' w' ⟨hA.off.trans (OffB.grown hA.buf h3), BufL.more h2 rfl rfl, Nat.le_trans hA.hN h3.size⟩ (fun g' xs' ht => tmp_app h3 h5 ht)
/-- An append of a string. -/
theorem app_step_str {ops : Array Oper} {o : Oper} {a : Act} {w : World} {K : Act → World → Prop} {Q : Exit → Act → World → Prop} {E : Prop}
    (hg : o.guard = none) (s x : Operand) (hop : o.op = Op.call { callee := Callee.builtin Builtin.append, args := #[s, x], argTypes := #[25, 9] })
    {W : World} {N : Nat} {v : Value} {bs : List Nat} {st : ByteArray} (hs : a.eval s = v) (hx : a.eval x = .string st) (hA : RA W w N v bs) (hb : bs.length + st.size ≤ 2000000) (h4 : 4 ≤ bs.length)
    (hK : ∀ v' w', RA W w' N v' (bs ++ nb st) → (∀ g' xs', Tmp w v g' xs' → Tmp w' v' g' xs') → K (a.put o.dst v') w') :
    if Region.wanted o (yielded ops a.tmps) = true then Oper.wp Try.prog o a w K Q else E := by
  have hw : Region.wanted o (yielded ops a.tmps) = true := by simp [Region.wanted, hg]
  rw [if_pos hw]
  obtain ⟨i1, hi1, hh1⟩ := Option.map_eq_some_iff.1 Try.infoByte
  simp only [Prod.mk.injEq] at hh1
  obtain ⟨hy0, hy1, hy2⟩ := hh1
  obtain ⟨v', w', hr, h2, h3, _⟩ := Lib.run_append_own_string (P := Try.prog) w N 25 9 o.type 5 i1 Try.underlying25 Try.underlying9 hi1 hy0 hy1 hy2 v bs.length (clB bs) hA.buf st (by unfold maxLen; omega) (by omega) hA.hN
  unfold Oper.wp execOp
  simp only [hop, resolve, invoke, builtin, Sem.run_bind, Sem.run_pure, Result.andThen_ok, List.map_toArray, List.map_cons, List.map_nil, hs, hx, hr]
  exact hK v' w' ⟨hA.off.trans (OffB.grown hA.buf h3), BufL.more h2 (strCells_nb st) (nb_len st), Nat.le_trans hA.hN h3.size⟩ (fun g' xs' ht => tmp_app_str h2 (by omega) h3 ht)

/-- What the document's own Three does: a row beside it. -/
theorem refThree_tmp (n : Nat) (w : World) (hn : n < 16777216) :
    Calls Try.prog 23 #[.int .i64 (n : Int)] w fun e w' => ∃ g, e = .returned (.slice (some ⟨g, 0, none⟩) 3 3) ∧ Below w.heap.size w w' ∧ ∀ {W N v bs}, RA W w N v bs → Tmp w' v g (Evt.three n) := by
  refine (refThree_any n w hn).mono ?_
  rintro e w' ⟨rfl, rfl⟩
  refine ⟨w.heap.size, rfl, (Below.refl _ _).alloc (Nat.le_refl _) _, fun h => ?_⟩
  exact tmp_new h (Evt.three n) (by simp [Evt.three])

end Go.Proofs.Ytniaffofeeieead
