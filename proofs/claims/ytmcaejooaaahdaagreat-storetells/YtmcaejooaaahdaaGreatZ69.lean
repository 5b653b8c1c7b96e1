/-
  Texts of the proof, joined: JPutH, JStepH.
-/
import Derived.Test.YtmcaejooaaahdaaGreatZ64
import Derived.Test.YtmcaejooaaahdaaGreatZ65
import Derived.Test.YtmcaejooaaahdaaGreatZ68
namespace Go.Proofs.YtmcaejooaaahdaaGreat
open Go.RowKit

/-- What a call's variables hold: the store, the thing to do, both results. -/
structure PJ (w w1 : World) (st dc : List Value) : Prop where
  st : VarN w1 w.heap.size 32 st
  dc : VarN w1 (w.heap.size + 1) 49 dc
  x2 : VarX w1 (w.heap.size + 1 + 1) 32 zStA
  x3 : VarX w1 (w.heap.size + 1 + 1 + 1) 42 zAnA
  bel : Below w.heap.size w w1
theorem PJ.below {w w1 w2 : World} {st dc : List Value} (h : PJ w w1 st dc) (hb : Below w1.heap.size w1 w2) : PJ w w2 st dc := ⟨h.st.below hb, h.dc.below hb, h.x2.below hb, h.x3.below hb, bt h.bel hb⟩
theorem pj_new (w : World) (st dc : Array Value) : PJ w ((((w.alloc (.cells st 32)).alloc (.cells dc 49)).alloc (.cells zStA 32)).alloc (.cells zAnA 42)) st.toList dc.toList := by
  have bA : ∀ (w' : World) o, Below w'.heap.size w' (w'.alloc o) := fun w' o => (Below.refl _ _).alloc (Nat.le_refl _) o
  have hs : ∀ (w' : World) o, (w'.alloc o).heap.size = w'.heap.size + 1 := fun w' o => Array.size_push _
  have V1 := (((varN_new w st 32).below (bA _ (.cells dc 49))).below (bA _ (.cells zStA 32))).below (bA _ (.cells zAnA 42))
  have V2 := ((varN_new (w.alloc (.cells st 32)) dc 49).below (bA _ (.cells zStA 32))).below (bA _ (.cells zAnA 42))
  have X2 := (varX_new ((w.alloc (.cells st 32)).alloc (.cells dc 49)) zStA 32).below (bA _ (.cells zAnA 42))
  have X3 := varX_new (((w.alloc (.cells st 32)).alloc (.cells dc 49)).alloc (.cells zStA 32)) zAnA 42
  simp only [hs] at V2 X2 X3
  exact ⟨V1, V2, X2, X3, bt (bt (bt (bA w _) (bA _ _)) (bA _ _)) (bA _ _)⟩
theorem VarN.c9 {w : World} {P : Nat} {t : TypeId} {a0 a1 a2 a3 a4 a5 a6 a7 a8 : Value} (h : VarN w P t [a0, a1, a2, a3, a4, a5, a6, a7, a8]) : w.cell? ⟨P, 0, none⟩ = some a0 ∧ w.cell? ⟨P, 1, none⟩ = some a1 ∧ w.cell? ⟨P, 2, none⟩ = some a2 ∧ w.cell? ⟨P, 3, none⟩ = some a3 ∧ w.cell? ⟨P, 4, none⟩ = some a4 ∧ w.cell? ⟨P, 5, none⟩ = some a5 ∧ w.cell? ⟨P, 6, none⟩ = some a6 ∧ w.cell? ⟨P, 7, none⟩ = some a7 ∧ w.cell? ⟨P, 8, none⟩ = some a8 := ⟨h.cell (i := 0) rfl, h.cell (i := 1) rfl, h.cell (i := 2) rfl, h.cell (i := 3) rfl, h.cell (i := 4) rfl, h.cell (i := 5) rfl, h.cell (i := 6) rfl, h.cell (i := 7) rfl, h.cell (i := 8) rfl⟩
theorem PJ.res {w w1 : World} {st dc : List Value} (h : PJ w w1 st dc) : w1.cell? ⟨w.heap.size + 1 + 1, 0, none⟩ = some (.int .i64 0) ∧ w1.cell? ⟨w.heap.size + 1 + 1, 1, none⟩ = some (.int .i64 0) ∧ w1.cell? ⟨w.heap.size + 1 + 1, 2, none⟩ = some (.int .i64 0) ∧ w1.cell? ⟨w.heap.size + 1 + 1, 3, none⟩ = some (.slice none 0 0) ∧ w1.cell? ⟨w.heap.size + 1 + 1, 4, none⟩ = some (.int .i64 0) ∧ w1.cell? ⟨w.heap.size + 1 + 1, 5, none⟩ = some (.slice none 0 0) ∧ w1.cell? ⟨w.heap.size + 1 + 1, 6, none⟩ = some (.slice none 0 0) ∧ w1.cell? ⟨w.heap.size + 1 + 1, 7, none⟩ = some (.int .i64 0) ∧ w1.cell? ⟨w.heap.size + 1 + 1, 8, none⟩ = some (.slice none 0 0) ∧ w1.frozen? ⟨w.heap.size + 1 + 1, 0, none⟩ = false ∧ w1.frozen? ⟨w.heap.size + 1 + 1, 1, none⟩ = false ∧ w1.frozen? ⟨w.heap.size + 1 + 1, 2, none⟩ = false ∧ w1.frozen? ⟨w.heap.size + 1 + 1, 3, none⟩ = false ∧ w1.frozen? ⟨w.heap.size + 1 + 1, 4, none⟩ = false ∧ w1.frozen? ⟨w.heap.size + 1 + 1, 5, none⟩ = false ∧ w1.frozen? ⟨w.heap.size + 1 + 1, 6, none⟩ = false ∧ w1.frozen? ⟨w.heap.size + 1 + 1, 7, none⟩ = false ∧ w1.frozen? ⟨w.heap.size + 1 + 1, 8, none⟩ = false ∧ w1.cell? ⟨w.heap.size + 1 + 1 + 1, 0, none⟩ = some (.int .i64 0) ∧ w1.cell? ⟨w.heap.size + 1 + 1 + 1, 1, none⟩ = some (.int .i64 0) ∧ w1.cell? ⟨w.heap.size + 1 + 1 + 1, 2, none⟩ = some (.slice none 0 0) ∧ w1.cell? ⟨w.heap.size + 1 + 1 + 1, 3, none⟩ = some (.int .i64 0) ∧ w1.cell? ⟨w.heap.size + 1 + 1 + 1, 4, none⟩ = some (.slice none 0 0) ∧ w1.frozen? ⟨w.heap.size + 1 + 1 + 1, 0, none⟩ = false ∧ w1.frozen? ⟨w.heap.size + 1 + 1 + 1, 1, none⟩ = false ∧ w1.frozen? ⟨w.heap.size + 1 + 1 + 1, 2, none⟩ = false ∧ w1.frozen? ⟨w.heap.size + 1 + 1 + 1, 3, none⟩ = false ∧ w1.frozen? ⟨w.heap.size + 1 + 1 + 1, 4, none⟩ = false :=
  ⟨h.x2.var.cell (i := 0) rfl, h.x2.var.cell (i := 1) rfl, h.x2.var.cell (i := 2) rfl, h.x2.var.cell (i := 3) rfl, h.x2.var.cell (i := 4) rfl, h.x2.var.cell (i := 5) rfl, h.x2.var.cell (i := 6) rfl, h.x2.var.cell (i := 7) rfl, h.x2.var.cell (i := 8) rfl, h.x2.var.frozen 0, h.x2.var.frozen 1, h.x2.var.frozen 2, h.x2.var.frozen 3, h.x2.var.frozen 4, h.x2.var.frozen 5, h.x2.var.frozen 6, h.x2.var.frozen 7, h.x2.var.frozen 8, h.x3.var.cell (i := 0) rfl, h.x3.var.cell (i := 1) rfl, h.x3.var.cell (i := 2) rfl, h.x3.var.cell (i := 3) rfl, h.x3.var.cell (i := 4) rfl, h.x3.var.frozen 0, h.x3.var.frozen 1, h.x3.var.frozen 2, h.x3.var.frozen 3, h.x3.var.frozen 4⟩
theorem Off.down {w w1 w2 : World} {S T : Nat → Prop} (hb : Below w.heap.size w w1) (ho : Off S w1 w2) (h : ∀ k, k < w.heap.size → S k → T k) : Off T w w2 :=
  ⟨ho.os.trans hb.os, ho.tape.trans hb.tape, ho.output.trans hb.output, Nat.le_trans hb.size ho.size, fun k hk hn => (ho.block k (Nat.lt_of_lt_of_le hk hb.size) (fun z => hn (h k hk z))).trans (hb.block k hk)⟩
abbrev stL (c : Sto.Cfg) (vd : Value) (g : Int) (vt vs : Value) (u : Int) (va : Value) : List Value := [.int .i64 (c.d : Int), .int .i64 (c.s : Int), .int .i64 (c.b : Int), vd, .int .i64 g, vt, vs, .int .i64 u, va]
theorem PJ.off {w w1 w2 : World} {st dc : List Value} {S : Nat → Prop} (h : PJ w w1 st dc) (ho : Off S w1 w2) (hS : ∀ k, S k → w.heap.size + 1 + 1 + 1 < k) : PJ w w2 st dc :=
  ⟨h.st.off ho (fun z => by have := hS _ z; omega), h.dc.off ho (fun z => by have := hS _ z; omega), h.x2.off ho (fun z => by have := hS _ z; omega), h.x3.off ho (fun z => by have := hS _ z; omega), h.bel.trans (ho.below h.bel.size fun k z => by have := hS k z; omega)⟩
theorem bats_tail {w w10 wf wx : World} {S : Nat → Prop} {tc : List (Int × Value)} {l : List Evt.Bat} {b : Evt.Bat} {v ve : Value} {n : Nat} (hR : RG w10 wf 47 2 v (n + 1) (tc.flatMap batCells ++ [.int .i64 b.cmd, ve])) (ho : Off S wf wx) (hQ : ∀ k, S k → k < w10.heap.size) (hb : CSub w wx) (h1 : tc.length = l.length) (h2 : ∀ (i : Nat) (x : Int × Value) (b : Evt.Bat), tc[i]? = some x → l[i]? = some b → b.cmd = x.1 ∧ Evs w x.2 b.evs) (hn : n = l.length) (he : Evs w ve b.evs) : Bats wx v (l ++ [b]) := by
  have hown : wx.ownsRow w10.heap.size 47 2 v (n + 1) (tc.flatMap batCells ++ [.int .i64 b.cmd, ve]) := owns_off hR.own ho fun g hg z => by
    have := (hR.own.lt g hg).1
    have := hQ g z
    omega
  have hB : BBuf wx w10.heap.size v (tc ++ [(b.cmd, ve)]) := by
    unfold BBuf
    rw [List.flatMap_append, List.length_append, h1, ← hn]
    exact hown
  refine BBuf.bats hB (by rw [List.length_append, List.length_append, h1]; rfl) fun i x y hx hy => ?_
  by_cases q : i < l.length
  · rw [List.getElem?_append_left (by omega)] at hx
    rw [List.getElem?_append_left q] at hy
    obtain ⟨e1, e2⟩ := h2 i x y hx hy
    exact ⟨e1, e2.sub hb⟩
  · rw [List.getElem?_append_right (by omega)] at hx hy
    rw [h1] at hx
    have hz : i - l.length = 0 := by
      have := (List.getElem?_eq_some_iff.1 hy).1
      simp at this
      omega
    rw [hz] at hx hy
    cases hx
    cases hy
    exact ⟨rfl, he.sub hb⟩
theorem PJ.size {w w1 : World} {st dc : List Value} (h : PJ w w1 st dc) : w.heap.size + 1 + 1 + 1 < w1.heap.size := h.x3.lt
theorem app_eqz {ops : Array Oper} {o : Oper} {a : Act} {w w0 : World} {K : Act → World → Prop} {Q : Exit → Act → World → Prop} {E : Prop} {t : TypeId} {v u v' : Value} {w' : World} (hr : (Builtin.append_ #[t, t] t #[v, u]).run Tryz.prog w0 = .ok v' w') (s x : Operand) (hw : w = w0) (hop : o.op = Op.call { callee := Callee.builtin Builtin.append, args := #[s, x], argTypes := #[t, t] }) (hty : o.type = t) (hg : o.guard = none) (hs : a.eval s = v) (hx : a.eval x = u) (hK : K (a.put o.dst v') w') :
    if Region.wanted o (yielded ops a.tmps) = true then Oper.wp Tryz.prog o a w K Q else E := by
  subst hw
  subst hty
  exact app_eq hg s x _ hop hs hx hr hK
theorem bufL_byt {w : World} {N : Nat} {v : Value} {bs : List Nat} (h : BufL w N v bs) (hb : Evt.Bytes bs) : BytL w v bs := by
  obtain ⟨A, C, hv, h1, h2, h3⟩ := row_shape h
  refine ⟨hb, A, C, hv, h1, h2, fun i x hx => ?_⟩
  obtain ⟨g, rfl⟩ := h3 (by have := (List.getElem?_eq_some_iff.1 hx).1; omega)
  have := h.cells (g := g) (by rw [hv]; rfl) i (.int .u8 (x : Nat)) (by unfold clB; rw [List.getElem?_map, hx]; rfl)
  rw [WideShapes.add_plain] at this
  exact ⟨g, 0, rfl, this⟩
section
variable {X : Sto.Six} {c : Sto.Cfg} {s : Sto.St} {b : Evt.Bat} {v : Int × List Vw.Acc}
theorem laid_few (h : s.tail.length + 1 < c.b) : Sto.laid X c s b v = (0, ⟨s.disks, s.segs, s.tail ++ [b], s.seen.take (Sto.below b.cmd s.seen) ++ b.cmd :: s.seen.drop (Sto.below b.cmd s.seen), v.1, v.2⟩) := by
  unfold Sto.laid
  dsimp only
  rw [if_pos (by rw [List.length_append]; exact h)]
theorem laid_wrong (h : ¬ s.tail.length + 1 < c.b) (h1 : (Evt.wrongL (s.tail ++ [b])).1 ≠ 0) : Sto.laid X c s b v = ((Evt.wrongL (s.tail ++ [b])).1, s) := by
  unfold Sto.laid
  dsimp only
  rw [if_neg (by rw [List.length_append]; exact h), if_pos h1]
theorem laid_none (h : ¬ s.tail.length + 1 < c.b) (h1 : (Evt.wrongL (s.tail ++ [b])).1 = 0) (h2 : (X.lay (Evt.encL (s.tail ++ [b])) s.segs c).1 ≠ 0) : Sto.laid X c s b v = ((X.lay (Evt.encL (s.tail ++ [b])) s.segs c).1, s) := by
  unfold Sto.laid
  dsimp only
  rw [if_neg (by rw [List.length_append]; exact h), if_neg (fun z => z h1), if_pos h2]
theorem laid_done (h : ¬ s.tail.length + 1 < c.b) (h1 : (Evt.wrongL (s.tail ++ [b])).1 = 0) (h2 : (X.lay (Evt.encL (s.tail ++ [b])) s.segs c).1 = 0) : Sto.laid X c s b v = (0, ⟨Sto.write s.segs (X.lay (Evt.encL (s.tail ++ [b])) s.segs c).2 0 s.disks, s.segs + 1, [], s.seen.take (Sto.below b.cmd s.seen) ++ b.cmd :: s.seen.drop (Sto.below b.cmd s.seen), v.1, v.2⟩) := by
  unfold Sto.laid
  dsimp only
  rw [if_neg (by rw [List.length_append]; exact h), if_neg (fun z => z h1), if_neg (fun z => z h2)]
end
theorem DkJ.offS {w w' : World} {S : Nat → Bool} {D : Nat} {V : Nat → Value} {ds : List Sto.Disk} {T : Nat → Prop} (h : DkJ w S D V ds) (ho : Off T w w') (hT : ∀ k, T k → S k = true ∧ k ≠ D) : DkJ w' S D V ds :=
  ⟨h.sD, h.row.of_block (ho.block D h.row.lt fun z => (hT D z).2 rfl), fun i d hd => (h.hes i d hd).sub (blank_off (ho.wider fun k hk => (hT k hk).1))⟩
theorem off14 (w2 : World) (P Q : Nat) (a b c d e f g i j k l m n o : Value) : Off (fun q => q = P ∨ q = Q) w2 ((((((((((((((w2.setCell ⟨P, 0, none⟩ a).setCell ⟨P, 1, none⟩ b).setCell ⟨P, 2, none⟩ c).setCell ⟨P, 3, none⟩ d).setCell ⟨P, 4, none⟩ e).setCell ⟨P, 5, none⟩ f).setCell ⟨P, 6, none⟩ g).setCell ⟨P, 7, none⟩ i).setCell ⟨P, 8, none⟩ j).setCell ⟨Q, 0, none⟩ k).setCell ⟨Q, 1, none⟩ l).setCell ⟨Q, 2, none⟩ m).setCell ⟨Q, 3, none⟩ n).setCell ⟨Q, 4, none⟩ o).drew :=
  (((off_nine w2 P a b c d e f g i j).wider fun _ z => Or.inl z).trans ((off_five _ Q k l m n o).wider fun _ z => Or.inr z)).trans (Off.of_below (Below.refl _ _).drew)
theorem nms_cells {w : World} {b o k C : Nat} {l : List Int} (h : Nms w (.slice (some ⟨b, o, none⟩) k C) l) (m : Nat) : ∀ a : Addr, some (⟨b, o + m, none⟩ : Addr) = some a → ∀ j u, ((l.drop m).flatMap inCells)[j]? = some u → w.cell? (a.add j) = some u := fun a ha j u hj => by
  cases ha
  obtain ⟨A, C', q1, _, _, q4⟩ := h
  cases q1
  have hm : ∀ l : List Int, l.flatMap inCells = l.map fun x => Value.int .i64 x := fun l => by
    induction l with
    | nil => rfl
    | cons x r ih => rw [List.flatMap_cons, ih]; rfl
  rw [hm, List.getElem?_map, List.getElem?_drop] at hj
  obtain ⟨x, hx, rfl⟩ := Option.map_eq_some_iff.1 hj
  obtain ⟨b', o', e, hc⟩ := q4 _ x hx
  cases e
  rw [WideShapes.add_plain, Nat.add_assoc]
  exact hc
/-- Three appends of ints, in each order. -/
theorem app_three (W : World) (A : Option Addr) (m c : Nat) (hA : A = none → m = 0) (p : List Int) (hp : p.length = m) (hc : ∀ a, A = some a → ∀ j u, (p.flatMap inCells)[j]? = some u → W.cell? (a.add j) = some u) (x : Int) (A' : Option Addr) (m' c' : Nat) (hA' : A' = none → m' = 0) (q : List Int) (hq : q.length = m') (hc' : ∀ a, A' = some a → ∀ j u, (q.flatMap inCells)[j]? = some u → W.cell? (a.add j) = some u) (hm : m ≤ 1000) (hm' : m' ≤ 1000) :
    (∃ A6 n6 C6 w6 A7 n7 C7 w7 A8 n8 C8 w8, (Builtin.append_ #[27, 27] 27 #[.slice (some ⟨W.heap.size, 0, none⟩) 0 0, .slice A m c]).run Tryz.prog (W.alloc (.cells #[] 3)).drew = .ok (.slice A6 n6 C6) w6 ∧ Below W.heap.size W w6 ∧ (Builtin.append_ #[27, 27] 27 #[.slice A6 n6 C6, .slice (some ⟨w6.heap.size, 0, none⟩) 1 1]).run Tryz.prog (w6.alloc (.cells #[.int .i64 x] 3)) = .ok (.slice A7 n7 C7) w7 ∧ Below W.heap.size W w7 ∧ (Builtin.append_ #[27, 27] 27 #[.slice A7 n7 C7, .slice A' m' c']).run Tryz.prog w7 = .ok (.slice A8 n8 C8) w8 ∧ RG W w8 3 1 (.slice A8 n8 C8) (m + 1 + m') ((p ++ x :: q).flatMap inCells)) ∧
    (∃ A6 n6 C6 w6 A7 n7 C7 w7 A8 n8 C8 w8, (Builtin.append_ #[27, 27] 27 #[.slice (some ⟨W.heap.size, 0, none⟩) 0 0, .slice A m c]).run Tryz.prog ((W.alloc (.cells #[] 3)).alloc (.cells #[.int .i64 x] 3)).drew = .ok (.slice A6 n6 C6) w6 ∧ Below W.heap.size W w6 ∧ (Builtin.append_ #[27, 27] 27 #[.slice A6 n6 C6, .slice (some ⟨W.heap.size + 1, 0, none⟩) 1 1]).run Tryz.prog w6 = .ok (.slice A7 n7 C7) w7 ∧ Below W.heap.size W w7 ∧ (Builtin.append_ #[27, 27] 27 #[.slice A7 n7 C7, .slice A' m' c']).run Tryz.prog w7 = .ok (.slice A8 n8 C8) w8 ∧ RG W w8 3 1 (.slice A8 n8 C8) (m + 1 + m') ((p ++ x :: q).flatMap inCells)) ∧
    (∃ A6 n6 C6 w6 A7 n7 C7 w7 A8 n8 C8 w8, (Builtin.append_ #[27, 27] 27 #[.slice (some ⟨W.heap.size + 1, 0, none⟩) 0 0, .slice A m c]).run Tryz.prog ((W.alloc (.cells #[.int .i64 x] 3)).alloc (.cells #[] 3)).drew = .ok (.slice A6 n6 C6) w6 ∧ Below W.heap.size W w6 ∧ (Builtin.append_ #[27, 27] 27 #[.slice A6 n6 C6, .slice (some ⟨W.heap.size, 0, none⟩) 1 1]).run Tryz.prog w6 = .ok (.slice A7 n7 C7) w7 ∧ Below W.heap.size W w7 ∧ (Builtin.append_ #[27, 27] 27 #[.slice A7 n7 C7, .slice A' m' c']).run Tryz.prog w7 = .ok (.slice A8 n8 C8) w8 ∧ RG W w8 3 1 (.slice A8 n8 C8) (m + 1 + m') ((p ++ x :: q).flatMap inCells)) := by
  have third : ∀ {v : Value} {w7 : World}, RG W w7 3 1 v (m + 1) (p.flatMap inCells ++ #[Value.int .i64 x].toList) → ∃ A8 n8 C8 w8, (Builtin.append_ #[27, 27] 27 #[v, .slice A' m' c']).run Tryz.prog w7 = .ok (.slice A8 n8 C8) w8 ∧ RG W w8 3 1 (.slice A8 n8 C8) (m + 1 + m') ((p ++ x :: q).flatMap inCells) := fun {v w7} hR => by
    obtain ⟨v8, w8, r8, R8, _⟩ := hR.app Tryz.underlying27 Tryz.infoI rfl (by decide) (by decide) A' m' c' hA' (q.flatMap inCells) (by rw [in_len, hq, Nat.mul_one]) (fun a ha j u hj => (hR.bel.cell (p := a.add j) (World.block_lt_of_cell? _ _ (hc' a ha j u hj))).trans (hc' a ha j u hj)) (in_one q) (by omega)
    obtain ⟨A8, C8, e8, _⟩ := row_shape R8.own
    subst e8
    refine ⟨A8, _, C8, w8, r8, ?_⟩
    have e : (p ++ x :: q).flatMap inCells = p.flatMap inCells ++ #[Value.int .i64 x].toList ++ q.flatMap inCells := by
      rw [List.flatMap_append, List.flatMap_cons, List.append_assoc]
      rfl
    rw [e]
    exact R8
  obtain ⟨⟨A1, n1, C1, x1, A2, n2, C2, y1, r1, B1, r2, R2⟩, ⟨A3, n3, C3, x3, A4, n4, C4, y3, r3, B3, r4, R4⟩, ⟨A5, n5, C5, x5, A6, n6, C6, y5, r5, B5, r6, R6⟩⟩ := app_orders (t := 27) Tryz.underlying27 Tryz.infoI rfl (by decide) (by decide) W A m c hA (p.flatMap inCells) (by rw [in_len, hp, Nat.mul_one]) hc (in_one p) hm #[.int .i64 x] rfl (by simp [Value.oneCell'])
  obtain ⟨a1, a2, a3, a4, a5, a6⟩ := third R2
  obtain ⟨b1, b2, b3, b4, b5, b6⟩ := third R4
  obtain ⟨c1, c2, c3, c4, c5, c6⟩ := third R6
  exact ⟨⟨A1, n1, C1, x1, A2, n2, C2, y1, a1, a2, a3, a4, r1, B1, r2, R2.bel, a5, a6⟩, ⟨A3, n3, C3, x3, A4, n4, C4, y3, b1, b2, b3, b4, r3, B3, r4, R4.bel, b5, b6⟩, ⟨A5, n5, C5, x5, A6, n6, C6, y5, c1, c2, c3, c4, r5, B5, r6, R6.bel, c5, c6⟩⟩
theorem bats_cells {w : World} {v : Value} {l : List Evt.Bat} (h : Bats w v l) : ∃ tc : List (Int × Value), tc.length = l.length ∧ (∀ (i : Nat) (x : Int × Value) (b : Evt.Bat), tc[i]? = some x → l[i]? = some b → b.cmd = x.1 ∧ Evs w x.2 b.evs) ∧ (∀ u, u ∈ tc.flatMap batCells → u.oneCell' = true) ∧ ∀ A n C, v = .slice A n C → n = l.length ∧ (A = none → n = 0) ∧ ∀ a, A = some a → ∀ j u, (tc.flatMap batCells)[j]? = some u → w.cell? (a.add j) = some u := by
  obtain ⟨A, C, hv, h1, h2, h3⟩ := h
  have hV : ∀ i, ∃ ve, ∀ b, l[i]? = some b → Evs w ve b.evs ∧ ∃ p o, A = some ⟨p, o, none⟩ ∧ w.cell? ⟨p, o + i * 2, none⟩ = some (.int .i64 b.cmd) ∧ w.cell? ⟨p, o + i * 2 + 1, none⟩ = some ve := fun i => by
    cases hb : l[i]? with
    | none => exact ⟨.slice none 0 0, fun b e => by cases e⟩
    | some b =>
      obtain ⟨p, o, e, ve, q1, q2, q3⟩ := h3 i b hb
      exact ⟨ve, fun b' e' => by cases e'; exact ⟨q3, p, o, e, q1, q2⟩⟩
  obtain ⟨V, hV⟩ := Classical.skolem.1 hV
  have hl : ((List.range l.length).map fun i => (((l.getD i ⟨0, []⟩).cmd, V i) : Int × Value)).length = l.length := by rw [List.length_map, List.length_range]
  have hat : ∀ (i : Nat) (x : Int × Value), ((List.range l.length).map fun i => (((l.getD i ⟨0, []⟩).cmd, V i) : Int × Value))[i]? = some x → ∃ b, l[i]? = some b ∧ x = (b.cmd, V i) := fun i x hx => by
    rw [List.getElem?_map] at hx
    obtain ⟨j, hj, rfl⟩ := Option.map_eq_some_iff.1 hx
    obtain ⟨hjl, hj⟩ := List.getElem?_eq_some_iff.1 hj
    rw [List.getElem_range] at hj
    subst hj
    rw [List.length_range] at hjl
    exact ⟨l[i], List.getElem?_eq_getElem hjl, by rw [List.getD_eq_getElem?_getD, List.getElem?_eq_getElem hjl]; rfl⟩
  refine ⟨(List.range l.length).map fun i => ((l.getD i ⟨0, []⟩).cmd, V i), hl, fun i x b hx hb => ?_, fun u hu => ?_, fun A' n C' e => ?_⟩
  · obtain ⟨b', hb', rfl⟩ := hat i x hx
    rw [hb] at hb'
    cases hb'
    exact ⟨rfl, (hV i b hb).1⟩
  · obtain ⟨x, hx, hu⟩ := List.mem_flatMap.1 hu
    obtain ⟨i, hi⟩ := List.mem_iff_getElem?.1 hx
    obtain ⟨b, hb, rfl⟩ := hat i x hi
    simp only [batCells, List.mem_cons, List.not_mem_nil, or_false] at hu
    rcases hu with rfl | rfl
    · rfl
    · obtain ⟨A9, C9, h9⟩ := (hV i b hb).1.shape
      rw [h9]
      rfl
  · rw [hv] at e
    cases e
    refine ⟨rfl, fun e => ?_, fun a e j u hj => ?_⟩
    · cases hb : l[0]? with
      | none => exact Nat.le_zero.1 (List.getElem?_eq_none_iff.1 hb)
      | some b =>
        obtain ⟨_, p, o, e2, _⟩ := hV 0 b hb
        rw [e] at e2
        cases e2
    · have hjl : j < ((List.range l.length).map fun i => (((l.getD i ⟨0, []⟩).cmd, V i) : Int × Value)).length * 2 := by
        have := (List.getElem?_eq_some_iff.1 hj).1
        rw [flat_len batCells 2 _ (fun _ _ => rfl)] at this
        exact this
      obtain ⟨x, hx⟩ : ∃ x, ((List.range l.length).map fun i => (((l.getD i ⟨0, []⟩).cmd, V i) : Int × Value))[j / 2]? = some x := ⟨_, List.getElem?_eq_getElem (by omega)⟩
      have hf := flat_get batCells 2 _ (fun _ _ => rfl) (j / 2) (j % 2) (Nat.mod_lt _ (by decide)) x hx
      rw [show j / 2 * 2 + j % 2 = j by omega] at hf
      rw [hf] at hj
      obtain ⟨b, hb, rfl⟩ := hat _ x hx
      obtain ⟨_, p, o, e2, q1, q2⟩ := hV _ b hb
      rw [e] at e2
      cases e2
      rw [WideShapes.add_plain]
      by_cases z : j % 2 = 0
      · rw [z] at hj
        cases hj
        rw [show o + j = o + j / 2 * 2 by omega]
        exact q1
      · rw [show j % 2 = 1 by omega] at hj
        cases hj
        rw [show o + j = o + j / 2 * 2 + 1 by omega]
        exact q2
theorem below_next {cmd x : Int} {l : List Int} {k : Nat} (h : l[k]? = some x) : Sto.below cmd (l.take (k + 1)) = Sto.below cmd (l.take k) + if x < cmd then 1 else 0 := by
  unfold Sto.below
  rw [List.take_add_one, h, List.filter_append, List.length_append]
  show _ + ([x].filter _).length = _
  by_cases q : x < cmd
  · rw [if_pos q]
    simp [q]
  · rw [if_neg q]
    simp [q]
theorem put_seen {X : Sto.Six} {c : Sto.Cfg} {s : Sto.St} {d : Sto.Do} (h1 : (Evt.wrongB d.bat).1 = 0) (h2 : d.bat.cmd ∈ s.seen) : Sto.put X c s d = (s, Sto.told s.u) := by
  unfold Sto.put
  rw [if_neg (fun z => z h1), if_pos h2]
theorem put_wrong {X : Sto.Six} {c : Sto.Cfg} {s : Sto.St} {d : Sto.Do} (h1 : (Evt.wrongB d.bat).1 ≠ 0) : Sto.put X c s d = (s, Sto.no (Evt.wrongB d.bat).1) := by
  unfold Sto.put
  rw [if_pos h1]
theorem put_old {X : Sto.Six} {c : Sto.Cfg} {s : Sto.St} {d : Sto.Do} (h1 : (Evt.wrongB d.bat).1 = 0) (h2 : d.bat.cmd ∉ s.seen) (h3 : 0 ≤ d.ver ∧ d.ver ≠ (Vw.get s.acc d.name).cnt) : Sto.put X c s d = (s, Sto.no 11) := by
  unfold Sto.put
  rw [if_neg (fun z => z h1), if_neg h2, if_pos h3]
theorem put_fit {X : Sto.Six} {c : Sto.Cfg} {s : Sto.St} {d : Sto.Do} (h1 : (Evt.wrongB d.bat).1 = 0) (h2 : d.bat.cmd ∉ s.seen) (h3 : ¬ (0 ≤ d.ver ∧ d.ver ≠ (Vw.get s.acc d.name).cnt)) (h4 : (Vw.fold s.u s.acc d.bat.evs).1.1 ≠ 0) : Sto.put X c s d = (s, Sto.no (Vw.fold s.u s.acc d.bat.evs).1.1) := by
  unfold Sto.put
  rw [if_neg (fun z => z h1), if_neg h2, if_neg h3, if_pos h4]
theorem put_laid {X : Sto.Six} {c : Sto.Cfg} {s : Sto.St} {d : Sto.Do} (h1 : (Evt.wrongB d.bat).1 = 0) (h2 : d.bat.cmd ∉ s.seen) (h3 : ¬ (0 ≤ d.ver ∧ d.ver ≠ (Vw.get s.acc d.name).cnt)) (h4 : (Vw.fold s.u s.acc d.bat.evs).1.1 = 0) : Sto.put X c s d = if (Sto.laid X c s d.bat (Vw.fold s.u s.acc d.bat.evs).2).1 ≠ 0 then (s, Sto.no (Sto.laid X c s d.bat (Vw.fold s.u s.acc d.bat.evs).2).1) else ((Sto.laid X c s d.bat (Vw.fold s.u s.acc d.bat.evs).2).2, Sto.told (Vw.fold s.u s.acc d.bat.evs).2.1) := by
  unfold Sto.put
  rw [if_neg (fun z => z h1), if_neg h2, if_neg h3, if_neg (fun z => z h4)]

end Go.Proofs.YtmcaejooaaahdaaGreat

namespace Go.Proofs.YtmcaejooaaahdaaGreat
open Go.RowKit

abbrev doL (k : Int) (d : Sto.Do) (ve : Value) (t : ByteArray) : List Value := [.int .i64 k, .int .i64 d.n, .int .i64 d.seg, .int .i64 d.pos, .int .u8 (d.turn : Int), .int .i64 d.bat.cmd, ve, .string t, .int .i64 d.ver]
theorem doL_of {d : Sto.Do} {k : Int} (h : d.kind = k) (ve : Value) (t : ByteArray) : doCells d ve t = doL k d ve t := by
  subst h
  rfl
/-- What Step is handed. -/
structure SJ (X : Sto.Six) (c : Sto.Cfg) (s : Sto.St) (d : Sto.Do) (T : Nat → Bool) (w : World) (Ad : Option Addr) (nd Cd : Nat) (At : Option Addr) (nt Ct : Nat) (As : Option Addr) (ns Cs : Nat) (Aa : Option Addr) (na Ca : Nat) (Ae : Option Addr) (ne Ce : Nat) (t : ByteArray) : Prop where
  x : Sto.SixOk X
  st0 : StIn (blank T w) (.slice Ad nd Cd) (.slice At nt Ct) (.slice As ns Cs) (.slice Aa na Ca) s
  wf : WfJ c s
  do0 : DoIn (blank T w) d (.slice Ae ne Ce) t
  pv : PlainV (.slice As ns Cs)
  low : ∀ k, T k = true → k < w.heap.size
section
variable {X : Sto.Six} {c : Sto.Cfg} {s : Sto.St} {d : Sto.Do} {T : Nat → Bool} {w : World} {Ad At As Aa Ae : Option Addr} {nd Cd nt Ct ns Cs na Ca ne Ce : Nat} {t : ByteArray}
theorem SJ.st (H : SJ X c s d T w Ad nd Cd At nt Ct As ns Cs Aa na Ca Ae ne Ce t) : StIn w (.slice Ad nd Cd) (.slice At nt Ct) (.slice As ns Cs) (.slice Aa na Ca) s := H.st0.sub (blank_sub T w)
theorem SJ.same (H : SJ X c s d T w Ad nd Cd At nt Ct As ns Cs Aa na Ca Ae ne Ce t) {w' : World} (hb : Below w.heap.size w w') {a : Sto.Ans} {ve vl : Value} (he : Evs (blank T w') ve a.evs) (hl : Accs (blank T w') vl a.vl) : StepO (.returned (.tuple #[stA (c.d : Int) (c.s : Int) (c.b : Int) (.slice Ad nd Cd) (s.segs : Int) (.slice At nt Ct) (.slice As ns Cs) s.u (.slice Aa na Ca), .agg #[.int .i64 (a.err : Nat), .int .i64 a.n, ve, .int .i64 a.vu, vl]])) T w w' c (s, a) := stepO_same H.st0 H.pv hb he hl
theorem SJ.no (H : SJ X c s d T w Ad nd Cd At nt Ct As ns Cs Aa na Ca Ae ne Ce t) {w' : World} (hb : Below w.heap.size w w') (E : Nat) (n : Int) : StepO (.returned (.tuple #[stA (c.d : Int) (c.s : Int) (c.b : Int) (.slice Ad nd Cd) (s.segs : Int) (.slice At nt Ct) (.slice As ns Cs) s.u (.slice Aa na Ca), .agg #[.int .i64 (E : Nat), .int .i64 n, .slice none 0 0, .int .i64 0, .slice none 0 0]])) T w w' c (s, ⟨E, n, [], 0, []⟩) := stepO_no H.st0 H.pv hb E n
end
theorem pj_ex (w : World) (st dc : Array Value) : ∃ w1, w1 = (((w.alloc (.cells st 32)).alloc (.cells dc 49)).alloc (.cells zStA 32)).alloc (.cells zAnA 42) ∧ PJ w w1 st.toList dc.toList := ⟨_, rfl, pj_new w st dc⟩
theorem blank_up {T T1 : Nat → Bool} {w2 wE : World} {S : Nat → Prop} (ho : Off S w2 wE) (hS : ∀ k, S k → T1 k = true) (hT : ∀ k, T k = true → T1 k = true) : CSub (blank T1 w2) (blank T wE) := sub_off ((ho.wider hS).trans ((off_blank T wE).wider hT))
theorem blank_down {T T1 : Nat → Bool} {w w1 : World} (hb : Below w.heap.size w w1) (h : ∀ k, k < w.heap.size → T1 k = true → T k = true) : CSub (blank T w) (blank T1 w1) := sub_off (Off.down hb (off_blank T1 w1) h)
/-- The blocks of T, and both results. -/
def resT (T : Nat → Bool) (N : Nat) : Nat → Bool := fun k => T k || (decide (k = N + 1 + 1) || decide (k = N + 1 + 1 + 1))
theorem resT_iff {T : Nat → Bool} {N k : Nat} : resT T N k = true ↔ T k = true ∨ k = N + 1 + 1 ∨ k = N + 1 + 1 + 1 := by
  unfold resT
  simp
theorem off14n (w2 : World) (P Q : Nat) (a b c d e f g i j k l m n o : Value) : Off (fun q => q = P ∨ q = Q) w2 ((((((((((((((w2.setCell ⟨P, 0, none⟩ a).setCell ⟨P, 1, none⟩ b).setCell ⟨P, 2, none⟩ c).setCell ⟨P, 3, none⟩ d).setCell ⟨P, 4, none⟩ e).setCell ⟨P, 5, none⟩ f).setCell ⟨P, 6, none⟩ g).setCell ⟨P, 7, none⟩ i).setCell ⟨P, 8, none⟩ j).setCell ⟨Q, 0, none⟩ k).setCell ⟨Q, 1, none⟩ l).setCell ⟨Q, 2, none⟩ m).setCell ⟨Q, 3, none⟩ n).setCell ⟨Q, 4, none⟩ o) :=
  ((off_nine w2 P a b c d e f g i j).wider fun _ z => Or.inl z).trans ((off_five _ Q k l m n o).wider fun _ z => Or.inr z)

theorem EBuf.blankT {T : Nat → Bool} {w2 wE : World} {N M : Nat} {v : Value} {es : List EvC} (h : EBuf w2 N v es) (ho : Off (fun q => q = M + 1 + 1 ∨ q = M + 1 + 1 + 1) w2 wE) (hN : M + 1 + 1 + 1 < N) (hT : ∀ k, T k = true → k < N) : EBuf (blank T wE) N v es :=
  h.off ((ho.wider fun _ z => Or.inl z).trans ((off_blank T wE).wider fun _ z => Or.inr z)) fun g hg z => by
    have := (h.1.lt g hg).1
    rcases z with (z | z) | z
    · omega
    · omega
    · have := hT g z
      omega
theorem DkAt.dks_off {w W : World} {N D C : Nat} {V : Nat → Value} {U : Nat → List HeC} {ds : List Sto.Disk} {S : Nat → Prop} (h : DkAt w N D V U ds) (ho : Off S w W) (hS : ∀ k, S k → k < N) (h1 : ds.length ≤ C) (h2 : C ≤ maxLen) : Dks W (.slice (some ⟨D, 0, none⟩) ds.length C) ds := by
  obtain ⟨S', hS'⟩ : ∃ S' : Nat → Bool, ∀ k, S' k = true ↔ k = D ∨ S k := ⟨fun k => @decide (k = D ∨ S k) (Classical.propDecidable _), fun k => @decide_eq_true_iff _ (Classical.propDecidable _)⟩
  have hj := h.dkJ (S := S') ((hS' D).2 (Or.inl rfl)) (fun k hk => by
    rcases (hS' k).1 hk with rfl | z
    · exact Or.inr ⟨58, h.row.ty, by decide, by decide⟩
    · exact Or.inl (hS k z))
  exact (hj.offS ho (fun k hk => ⟨(hS' k).2 (Or.inr hk), fun e => by
    have := hS k hk
    have := h.ge
    omega⟩)).dks h1 h2
/-- The store has other disks, of the call's own. -/
theorem SJ.disks {X : Sto.Six} {c : Sto.Cfg} {s : Sto.St} {d : Sto.Do} {T : Nat → Bool} {w : World} {Ad At As Aa Ae : Option Addr} {nd Cd nt Ct ns Cs na Ca ne Ce : Nat} {t : ByteArray} (H : SJ X c s d T w Ad nd Cd At nt Ct As ns Cs Aa na Ca Ae ne Ce t) {w2 wE : World} {D n C : Nat} {V : Nat → Value} {U : Nat → List HeC} {ds : List Sto.Disk} {N : Nat} (hb : Below w.heap.size w w2) (hd : DkAt w2 N D V U ds) (ho : Off (fun q => q = w.heap.size + 1 + 1 ∨ q = w.heap.size + 1 + 1 + 1) w2 wE) (hN : w.heap.size + 1 + 1 + 1 < N) (hn : n = ds.length) (h1 : n ≤ C) (h2 : C ≤ maxLen) (E : Nat) (m : Int) : StepO (.returned (.tuple #[stA (c.d : Int) (c.s : Int) (c.b : Int) (.slice (some ⟨D, 0, none⟩) n C) (s.segs : Int) (.slice At nt Ct) (.slice As ns Cs) s.u (.slice Aa na Ca), .agg #[.int .i64 (E : Nat), .int .i64 m, .slice none 0 0, .int .i64 0, .slice none 0 0]])) T w wE c ({ s with disks := ds }, ⟨E, m, [], 0, []⟩) := by
  have hbE : Below w.heap.size w wE := hb.trans (ho.below hb.size fun q hq => by omega)
  have hs : CSub (blank T w) (blank T wE) := blank_below hbE
  have o3 : Off (fun q => (q = w.heap.size + 1 + 1 ∨ q = w.heap.size + 1 + 1 + 1) ∨ T q = true) w2 (blank T wE) := (ho.wider fun _ z => Or.inl z).trans ((off_blank T wE).wider fun _ z => Or.inr z)
  subst hn
  exact ⟨_, _, _, _, _, _, rfl, ⟨hd.dks_off o3 (fun q hq => by
    rcases hq with (z | z) | z
    · omega
    · omega
    · have := H.low q z
      omega) h1 h2, H.st0.tl.sub hs, H.st0.sn.sub hs, H.st0.ac.sub hs⟩, evs_none8 _, Accs.nil _, H.pv, hbE⟩
theorem find_up {k : Int} : ∀ {bl : List (Int × List Nat)} {i : Nat} {h : Int × List Nat}, Sto.Up bl → bl[i]? = some h → h.1 = k → bl.find? (fun h => decide (h.1 = k)) = some h
  | [], _, _, _, hi, _ => by cases hi
  | x :: t, 0, h, hu, hi, hk => by
    cases hi
    exact List.find?_cons_of_pos (p := fun h : Int × List Nat => decide (h.1 = k)) (decide_eq_true hk)
  | x :: t, i + 1, h, hu, hi, hk => by
    obtain ⟨h1, h2⟩ := List.pairwise_cons.1 hu
    have hi : t[i]? = some h := hi
    have := h1 h (List.mem_of_getElem? hi)
    exact (List.find?_cons_of_neg (p := fun h : Int × List Nat => decide (h.1 = k)) (by
      intro z
      have := of_decide_eq_true z
      omega)).trans (find_up h2 hi hk)

end Go.Proofs.YtmcaejooaaahdaaGreat
