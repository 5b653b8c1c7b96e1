/-
  Texts of the proof, joined: JOwn, JOwnW.
-/
import Derived.Test.YtmcaejooaaahdaaGreatZ58
import Derived.Test.YtmcaejooaaahdaaGreatZ59
namespace Go.Proofs.YtmcaejooaaahdaaGreat
open Go.RowKit

/-- An append inside a statement that leaves its order open, by what it comes to. -/
theorem app_eq {ops : Array Oper} {o : Oper} {a : Act} {w : World} {K : Act → World → Prop} {Q : Exit → Act → World → Prop} {E : Prop}
    (hg : o.guard = none) (s x : Operand) (t : TypeId) (hop : o.op = Op.call { callee := Callee.builtin Builtin.append, args := #[s, x], argTypes := #[t, t] })
    {v u v' : Value} {w' : World} (hs : a.eval s = v) (hx : a.eval x = u) (hr : (Builtin.append_ #[t, t] o.type #[v, u]).run Tryz.prog w = .ok v' w') (hK : K (a.put o.dst v') w') :
    if Region.wanted o (yielded ops a.tmps) = true then Oper.wp Tryz.prog o a w K Q else E := by
  have hw : Region.wanted o (yielded ops a.tmps) = true := by simp [Region.wanted, hg]
  rw [if_pos hw]
  unfold Oper.wp execOp
  simp only [hop, resolve, invoke, builtin, Sem.run_bind, Sem.run_pure, Result.andThen_ok, List.map_toArray, List.map_cons, List.map_nil, hs, hx, hr]
  exact hK
theorem bytL_cells {w : World} {A : Option Addr} {m c : Nat} {r : List Nat} (h : BytL w (.slice A m c) r) : m = r.length ∧ (A = none → m = 0) ∧ ∀ a, A = some a → ∀ j u, (clB r)[j]? = some u → w.cell? (a.add j) = some u := by
  obtain ⟨_, A', C', hv, h1, h2, h3⟩ := h
  cases hv
  refine ⟨rfl, fun e => ?_, fun a e j u hj => ?_⟩
  · cases hr : r[0]? with
    | none => exact Nat.le_zero.1 (List.getElem?_eq_none_iff.1 hr)
    | some x =>
      obtain ⟨b, o, e1, _⟩ := h3 0 x hr
      rw [e] at e1
      cases e1
  · unfold clB at hj
    rw [List.getElem?_map] at hj
    obtain ⟨x, hx, rfl⟩ := Option.map_eq_some_iff.1 hj
    obtain ⟨b, o, e1, e2⟩ := h3 j x hx
    rw [e] at e1
    cases e1
    rw [WideShapes.add_plain]
    exact e2
theorem ownB_of {w : World} {N : Nat} {v : Value} {r : List Nat} {n : Nat} (h : w.ownsRow N 5 1 v n (clB r)) (hn : n = r.length) (h1 : 1 ≤ n) (hb : Evt.Bytes r) : OwnB w N v r := by
  subst hn
  obtain ⟨A, C, _, _, hC2, _⟩ := row_shape h
  obtain ⟨g, cap, hv, hN, hc, hR⟩ := rowC_owns h h1
  have hm : cap ≤ maxLen := by
    rename_i hv2 _ _
    rw [hv2] at hv
    cases hv
    exact hC2
  refine ⟨hb, g, cap, hv, hN, hc, hm, hR.congr fun j hj => ?_⟩
  unfold clB
  show _ = Value.int .u8 ((r.getD j 0 : Nat) : Int)
  rw [List.getD_eq_getElem?_getD, List.getElem?_map, List.getD_eq_getElem?_getD, List.getElem?_eq_getElem hj]
  rfl
theorem rowC_less {w : World} {g : Nat} {t : TypeId} {n m : Nat} {F : Nat → Value} (h : RowC w g t n F) (hm : m ≤ n) : RowC w g t m F := by
  obtain ⟨k, F', hr, hk, hF⟩ := h
  exact ⟨k, F', hr, Nat.le_trans hm hk, fun j hj => hF j (Nat.lt_of_lt_of_le hj hm)⟩
theorem owns_low8 {w : World} {N M : Nat} {t : TypeId} {s : Nat} {v : Value} {n : Nat} {xs : List Value} (h : w.ownsRow N t s v n xs) (hM : M ≤ N) : w.ownsRow M t s v n xs := by
  obtain ⟨hl, h⟩ := h
  refine ⟨hl, h.imp id ?_⟩
  rintro ⟨g, cap, cur, hv, hN, h⟩
  exact ⟨g, cap, cur, hv, Nat.le_trans hM hN, h⟩
/-- Some of what a disk has is copied. -/
def OwJ (wo wr : World) (bl : List (Int × List Nat)) (v : Value) (j : Nat) : Prop := ∃ es : List HeC, wr.ownsRow wo.heap.size 61 2 v es.length (es.flatMap heCells) ∧ es.map heOf = bl.take j ∧ (∀ e, e ∈ es → OwnB wr wo.heap.size (slV e.2.1) e.2.2) ∧ (∀ (a b : Nat) (x x' : HeC) (g : Nat), es[a]? = some x → es[b]? = some x' → (slV x.2.1).ownBlock = some g → (slV x'.2.1).ownBlock = some g → a = b) ∧ Below wo.heap.size wo wr
theorem OwJ.lt {wo wr : World} {bl : List (Int × List Nat)} {v : Value} {j : Nat} (h : OwJ wo wr bl v j) {b : Nat} (hb : v.ownBlock = some b) : b < wr.heap.size := by
  obtain ⟨es, h1, _⟩ := h
  exact (h1.lt b hb).2
theorem OwJ.bel {wo wr : World} {bl : List (Int × List Nat)} {v : Value} {j : Nat} (h : OwJ wo wr bl v j) : Below wo.heap.size wo wr := by
  obtain ⟨_, _, _, _, _, h5⟩ := h
  exact h5
theorem OwJ.off {wo wr wr' : World} {bl : List (Int × List Nat)} {v : Value} {j : Nat} (h : OwJ wo wr bl v j) (hb : Below wr.heap.size wr wr') : OwJ wo wr' bl v j := by
  obtain ⟨es, h1, h2, h3, h4, h5⟩ := h
  exact ⟨es, owns_below h1 hb, h2, fun e he => (h3 e he).below hb, h4, bt h5 hb⟩
theorem OwJ.shape {wo wr : World} {bl : List (Int × List Nat)} {v : Value} {j : Nat} (h : OwJ wo wr bl v j) : ∃ A n C, v = .slice A n C := by
  obtain ⟨es, h1, _⟩ := h
  obtain ⟨A, C, hv, _⟩ := row_shape h1
  exact ⟨A, _, C, hv⟩
/-- One block more: its bytes are copied, and it comes behind the others. -/
theorem OwJ.next {wo wA : World} {bl : List (Int × List Nat)} {v : Value} {j : Nat} {x : Int × List Nat} {A : Option Addr} {m C : Nat} (h : OwJ wo wA bl v j) (hx : bl[j]? = some x) (hy : BytL wo (.slice A m C) x.2) (h1 : 1 ≤ x.2.length) (h2 : x.2.length ≤ 1000) (hj : j ≤ 100) :
    ∃ A6 m6 C6 w6, (Builtin.append_ #[59, 59] 59 #[.slice (some ⟨wA.heap.size, 0, none⟩) 0 0, .slice A m C]).run Tryz.prog (wA.alloc (.cells #[] 5)).drew = .ok (.slice A6 m6 C6) w6 ∧ Below wA.heap.size wA w6 ∧
      ∃ v7 w7, (Builtin.append_ #[56, 56] 56 #[v, .slice (some ⟨w6.heap.size, 0, none⟩) 1 1]).run Tryz.prog (w6.alloc (.cells #[.int .i64 x.1, .slice A6 m6 C6] 61)) = .ok v7 w7 ∧ OwJ wo w7 bl v7 (j + 1) ∧ Off (fun k => v.ownBlock = some k) w6 w7 := by
  obtain ⟨es, g1, g2, g3, g4, g5⟩ := h
  have hel : es.length = min j bl.length := by rw [← List.length_take, ← g2, List.length_map]
  have bE : Below wA.heap.size wA (wA.alloc (.cells #[] 5)).drew := ((Below.refl _ _).alloc (Nat.le_refl _) _).drew
  obtain ⟨q1, q2, q3⟩ := bytL_cells ((hy.below g5).below bE)
  have hE : (wA.alloc (.cells #[] 5)).drew.ownsRow wA.heap.size 5 1 (.slice (some ⟨wA.heap.size, 0, none⟩) 0 0) 0 [] := owns_below (World.ownsRow_made wA #[] 0 (Nat.le_refl _) (by unfold maxLen; omega) rfl) (Below.refl _ _).drew
  obtain ⟨v6, w6, r6, o6, k6, b6⟩ := app_gen 59 Tryz.underlying59 Tryz.infoByte rfl (by decide) (by decide) hE A m C q2 (clB x.2) (by rw [Nat.mul_one, q1]; unfold clB; rw [List.length_map]) q3 (fun u hu => by
    unfold clB at hu
    obtain ⟨_, _, rfl⟩ := List.mem_map.1 hu
    rfl) (by omega) bE.size
  rw [Nat.zero_add, List.nil_append] at o6
  have B6 : Below wA.heap.size wA w6 := bE.trans (grown_below k6 (fun g hg => by cases hg; exact Nat.le_refl _) bE.size)
  have O6 : OwnB w6 wA.heap.size v6 x.2 := ownB_of o6 q1 (by omega) hy.1
  obtain ⟨A6, C6, hv6, _⟩ := row_shape o6
  subst hv6
  refine ⟨A6, m, C6, w6, r6, B6, ?_⟩
  have L6 := owns_below g1 B6
  obtain ⟨v7, w7, r7, o7, b7, f7⟩ := app_he L6 (x.1, (A6, m, C6), x.2) (Nat.le_trans g5.size B6.size) (by omega)
  refine ⟨v7, w7, r7, ⟨es ++ [(x.1, (A6, m, C6), x.2)], o7, ?_, fun e he => ?_, fun a b y y' g ha hb hy1 hy2 => ?_, (bt g5 B6).trans b7⟩, f7⟩
  · rw [List.map_append, g2, List.take_add_one, hx]
    rfl
  · have keep : ∀ {u : Value} {t : List Nat} {M : Nat}, OwnB w6 M u t → OwnB w7 M u t := fun {u t M} hu => hu.off f7 fun g hg s => (hu.ty hg).ne (owns_ty L6 s) (by decide) rfl
    rcases List.mem_append.1 he with z | z
    · exact keep ((g3 e z).below B6)
    · rw [List.mem_singleton.1 z]
      exact keep (O6.lower g5.size)
  · have old : ∀ (i : Nat) (z : HeC), es[i]? = some z → ∀ g, (slV z.2.1).ownBlock = some g → g < wA.heap.size := fun i z hz g hg => ((g3 z (List.mem_of_getElem? hz)).ty hg).lt
    have new : ∀ g, (Value.slice A6 m C6).ownBlock = some g → wA.heap.size ≤ g := fun g hg => O6.ge hg
    have cut : ∀ (i : Nat) (z : HeC), (es ++ [(x.1, (A6, m, C6), x.2)])[i]? = some z → (i < es.length ∧ es[i]? = some z) ∨ (i = es.length ∧ z = (x.1, (A6, m, C6), x.2)) := fun i z hz => by
      by_cases q : i < es.length
      · rw [List.getElem?_append_left q] at hz
        exact Or.inl ⟨q, hz⟩
      · rw [List.getElem?_append_right (by omega)] at hz
        have : i - es.length = 0 := by
          have := (List.getElem?_eq_some_iff.1 hz).1
          simp at this
          omega
        rw [this] at hz
        cases hz
        exact Or.inr ⟨by omega, rfl⟩
    rcases cut a y ha with ⟨_, c1⟩ | ⟨c1, rfl⟩
    · rcases cut b y' hb with ⟨_, c2⟩ | ⟨_, rfl⟩
      · exact g4 a b y y' g c1 c2 hy1 hy2
      · have := old a y c1 g hy1
        have := new g hy2
        omega
    · rcases cut b y' hb with ⟨_, c2⟩ | ⟨c2, rfl⟩
      · have := old b y' c2 g hy2
        have := new g hy1
        omega
      · rw [c1, c2]
/-- i disks have what they have in blocks of their own; the others as it came. -/
structure OwI (w wr : World) (D : Nat) (V0 : Nat → Value) (ds : List Sto.Disk) (i : Nat) : Prop where
  ok : ∃ V U, DkAt wr w.heap.size D V U (ds.take i) ∧ RowC wr D 58 (ds.length * 2) (dkF V ds) ∧ ∀ j, i ≤ j → V j = V0 j
theorem OwI.off {w wr wr' : World} {D : Nat} {V0 : Nat → Value} {ds : List Sto.Disk} {i : Nat} (h : OwI w wr D V0 ds i) (hb : Below wr.heap.size wr wr') : OwI w wr' D V0 ds i := by
  obtain ⟨V, U, h1, h2, h3⟩ := h.ok
  exact ⟨V, U, h1.below hb, h2.below hb, h3⟩
theorem OwI.next {w wo wr : World} {D : Nat} {V0 : Nat → Value} {ds : List Sto.Disk} {i : Nat} {d : Sto.Disk} {v : Value} (h : OwI w wo D V0 ds i) (hd : ds[i]? = some d) (hj : OwJ wo wr d.bl v d.bl.length) (hw : w.heap.size ≤ wo.heap.size) : OwI w (wr.setCell ⟨D, i * 2 + 1, none⟩ v) D V0 ds (i + 1) := by
  obtain ⟨V, U, h1, h2, h3⟩ := h.ok
  obtain ⟨es, g1, g2, g3, g4, g5⟩ := hj
  rw [List.take_length] at g2
  have hil : i < ds.length := (List.getElem?_eq_some_iff.1 hd).1
  have htl : (ds.take i).length = i := by rw [List.length_take]; omega
  have htl1 : (ds.take (i + 1)).length = i + 1 := by rw [List.length_take]; omega
  have h2 := h2.below g5
  have hDo : D < wo.heap.size := by
    obtain ⟨V, U, _, h2, _⟩ := h.ok
    exact h2.lt
  have hof : Off (fun k => k = D) wo (wr.setCell ⟨D, i * 2 + 1, none⟩ v) := (Off.of_below g5).trans (off_set wr ⟨D, i * 2 + 1, none⟩ v)
  have hofr : Off (fun k => k = D) wr (wr.setCell ⟨D, i * 2 + 1, none⟩ v) := off_set wr ⟨D, i * 2 + 1, none⟩ v
  have hrow : RowC (wr.setCell ⟨D, i * 2 + 1, none⟩ v) D 58 (ds.length * 2) (dkF (upd V i v) ds) := by
    refine (h2.set (i * 2 + 1) v).congr fun j hj => ?_
    unfold dkF
    by_cases e : j = i * 2 + 1
    · rw [if_pos e, if_neg (by omega), show j / 2 = i by omega, upd_at]
    · rw [if_neg e]
      by_cases q : j % 2 = 0
      · rw [if_pos q, if_pos q]
      · rw [if_neg q, if_neg q, upd_ne _ _ (by omega)]
  have oldV : ∀ j g, j < i → (V j).ownBlock = some g → g < wo.heap.size := fun j g hj hg => ((h1.own j (by omega)).lt g hg).2
  have oldU : ∀ (j : Nat) (x : HeC) (g : Nat), j < i → x ∈ U j → (slV x.2.1).ownBlock = some g → g < wo.heap.size := fun j x g hj hx hg => ((h1.byt j x (by omega) hx).ty hg).lt
  have newU : ∀ (x : HeC) (g : Nat), x ∈ es → (slV x.2.1).ownBlock = some g → wo.heap.size ≤ g := fun x g hx hg => (g3 x hx).ge hg
  have tD : TyB wr D 58 := h2.ty
  have hDk : DkAt (wr.setCell ⟨D, i * 2 + 1, none⟩ v) w.heap.size D (upd V i v) (upd U i es) (ds.take (i + 1)) := by
    refine ⟨?_, h1.ge, fun j hj => ?_, fun j x hx => ?_, fun j x hj hx => ?_, fun j l g hj hl a1 a2 => ?_, fun j l a b x x' g hj hl a1 a2 a3 a4 => ?_⟩
    · rw [htl1]
      refine (rowC_less hrow (show (i + 1) * 2 ≤ ds.length * 2 by omega)).congr fun j hj => ?_
      unfold dkF
      by_cases q : j % 2 = 0
      · rw [if_pos q, if_pos q, List.getD_eq_getElem?_getD, List.getD_eq_getElem?_getD, List.getElem?_take, if_pos (by omega)]
      · rw [if_neg q, if_neg q]
    · rw [htl1] at hj
      by_cases e : j = i
      · subst e
        rw [upd_at, upd_at]
        exact owns_low8 (owns_off g1 hofr fun g hg s => (owns_ty g1 hg).ne tD (by decide) s) hw
      · rw [upd_ne _ _ e, upd_ne _ _ e]
        exact owns_off (h1.own j (by omega)) hof fun g hg s => by
          subst s
          exact (owns_ty (h1.own j (by omega)) hg).ne h1.row.ty (by decide) rfl
    · rw [List.getElem?_take] at hx
      by_cases e : j = i
      · subst e
        rw [if_pos (by omega), hd] at hx
        cases hx
        rw [upd_at]
        exact g2.symm
      · have hj : j < i := by
          by_cases q : j < i + 1
          · omega
          · rw [if_neg q] at hx
            cases hx
        rw [if_pos (by omega)] at hx
        rw [upd_ne _ _ e]
        exact h1.bl j x (by rw [List.getElem?_take, if_pos hj]; exact hx)
    · rw [htl1] at hj
      by_cases e : j = i
      · subst e
        rw [upd_at] at hx
        exact ((g3 x hx).off hofr fun g hg s => by subst s; exact ((g3 x hx).ty hg).ne tD (by decide) rfl).lower hw
      · rw [upd_ne _ _ e] at hx
        have := h1.byt j x (by omega) hx
        exact this.off hof fun g hg s => by
          subst s
          exact (this.ty hg).ne h1.row.ty (by decide) rfl
    · rw [htl1] at hj hl
      by_cases e : j = i
      · by_cases e2 : l = i
        · rw [e, e2]
        · rw [e, upd_at] at a1
          rw [upd_ne _ _ e2] at a2
          have := oldV l g (by omega) a2
          have := (g1.lt g a1).1
          omega
      · by_cases e2 : l = i
        · rw [upd_ne _ _ e] at a1
          rw [e2, upd_at] at a2
          have := oldV j g (by omega) a1
          have := (g1.lt g a2).1
          omega
        · rw [upd_ne _ _ e] at a1
          rw [upd_ne _ _ e2] at a2
          exact h1.sepV j l g (by omega) (by omega) a1 a2
    · rw [htl1] at hj hl
      by_cases e : j = i
      · by_cases e2 : l = i
        · rw [e, upd_at] at a1
          rw [e2, upd_at] at a2
          exact ⟨by omega, g4 a b x x' g a1 a2 a3 a4⟩
        · rw [e, upd_at] at a1
          rw [upd_ne _ _ e2] at a2
          have := oldU l x' g (by omega) (List.mem_of_getElem? a2) a4
          have := newU x g (List.mem_of_getElem? a1) a3
          omega
      · by_cases e2 : l = i
        · rw [upd_ne _ _ e] at a1
          rw [e2, upd_at] at a2
          have := oldU j x g (by omega) (List.mem_of_getElem? a1) a3
          have := newU x' g (List.mem_of_getElem? a2) a4
          omega
        · rw [upd_ne _ _ e] at a1
          rw [upd_ne _ _ e2] at a2
          exact h1.sepU j l a b x x' g (by omega) (by omega) a1 a2 a3 a4
  exact ⟨upd V i v, upd U i es, hDk, hrow, fun j hj => by rw [upd_ne _ _ (by omega)]; exact h3 j (by omega)⟩

end Go.Proofs.YtmcaejooaaahdaaGreat

namespace Go.Proofs.YtmcaejooaaahdaaGreat
open Go.RowKit

theorem rowC_own2 {w : World} {N : Nat} {t : TypeId} {z : Nat} {v : Value} {n : Nat} {xs : List Value} (h : w.ownsRow N t z v n xs) (hn : 1 ≤ n) : ∃ g cap, v = .slice (some ⟨g, 0, none⟩) n cap ∧ N ≤ g ∧ n ≤ cap ∧ cap ≤ maxLen ∧ RowC w g t (n * z) (fun j => xs.getD j (.slice none 0 0)) := by
  obtain ⟨hl, h⟩ := h
  rcases h with ⟨_, h0⟩ | ⟨g, cap, cur, hv, hN, hg, hc, hm, hs, ht⟩
  · omega
  · have hle : n * z ≤ cur.size := by rw [hs]; exact Nat.mul_le_mul_right _ hc
    refine ⟨g, cap, hv, hN, hc, hm, cur.size, fun j => cur.getD j (.slice none 0 0), ⟨cur, hg, rfl, fun i hi => by simp [hi]⟩, hle, fun j hj => ?_⟩
    have hjc : j < cur.size := Nat.lt_of_lt_of_le hj hle
    show cur.getD j (.slice none 0 0) = xs.getD j (.slice none 0 0)
    rw [← ht, List.getD_eq_getElem?_getD, List.getElem?_take, if_pos hj]
    simp [Array.getD, hjc]
theorem dks_cells {w : World} {A : Option Addr} {n C : Nat} {ds : List Sto.Disk} (h : Dks w (.slice A n C) ds) (h1 : 1 ≤ ds.length) : ∃ (V0 : Nat → Value) (b o : Nat), n = ds.length ∧ A = some ⟨b, o, none⟩ ∧ n ≤ C ∧ C ≤ maxLen ∧ (∀ i d, ds[i]? = some d → Hes w (V0 i) d.bl) ∧ ∀ j, j < n * 2 → w.cell? ⟨b, o + j, none⟩ = some (dkF V0 ds j) := by
  obtain ⟨A', C', hv, hc1, hc2, h3⟩ := h
  cases hv
  obtain ⟨b, o, rfl, _⟩ := h3 0 ds[0] (List.getElem?_eq_getElem h1)
  have hV : ∀ i, ∃ v, ∀ d, ds[i]? = some d → w.cell? ⟨b, o + i * 2, none⟩ = some (.bool d.gone) ∧ w.cell? ⟨b, o + i * 2 + 1, none⟩ = some v ∧ Hes w v d.bl := fun i => by
    cases hd : ds[i]? with
    | none => exact ⟨.slice none 0 0, fun d e => by cases e⟩
    | some d =>
      obtain ⟨b', o', e, v, q1, q2, q3⟩ := h3 i d hd
      cases e
      exact ⟨v, fun d' e => by cases e; exact ⟨q1, q2, q3⟩⟩
  obtain ⟨V0, hV0⟩ := Classical.skolem.1 hV
  refine ⟨V0, b, o, rfl, rfl, hc1, hc2, fun i d hd => (hV0 i d hd).2.2, fun j hj => ?_⟩
  have hi : j / 2 < ds.length := by omega
  obtain ⟨q1, q2, _⟩ := hV0 (j / 2) ds[j / 2] (List.getElem?_eq_getElem hi)
  unfold dkF
  by_cases e : j % 2 = 0
  · rw [if_pos e, List.getD_eq_getElem?_getD, List.getElem?_eq_getElem hi, show o + j = o + j / 2 * 2 by omega]
    exact q1
  · rw [if_neg e, show o + j = o + j / 2 * 2 + 1 by omega]
    exact q2
def OwnO (e : Ending) (w w' : World) (x y z g u : Int) (vt vs va : Value) (ds : List Sto.Disk) : Prop := ∃ D C V U, e = .returned (stA x y z (.slice (some ⟨D, 0, none⟩) ds.length C) g vt vs u va) ∧ ds.length ≤ C ∧ C ≤ maxLen ∧ DkAt w' w.heap.size D V U ds ∧ Below w.heap.size w w'
abbrev zStA : Array Value := #[.int .i64 0, .int .i64 0, .int .i64 0, .slice none 0 0, .int .i64 0, .slice none 0 0, .slice none 0 0, .int .i64 0, .slice none 0 0]
set_option maxHeartbeats 4000000 in
set_option maxRecDepth 100000 in
theorem refOwn_any (x y z g u : Int) (vd vt vs va : Value) (ds : List Sto.Disk) (w : World) (h : Dks w vd ds) (h1 : 1 ≤ ds.length) (h12 : ds.length ≤ 12) (hbl : ∀ (i : Nat) (d : Sto.Disk), ds[i]? = some d → d.bl.length ≤ 100) (hok : LenOk ds) (ht : ∃ A n C, vt = .slice A n C) (hs : ∃ A n C, vs = .slice A n C) (ha : ∃ A n C, va = .slice A n C) :
    Calls Tryz.prog 36 #[stA x y z vd g vt vs u va] w fun e w' => OwnO e w w' x y z g u vt vs va ds := by
  obtain ⟨At, nt, Ct, rfl⟩ := ht
  obtain ⟨As, ns, Cs, rfl⟩ := hs
  obtain ⟨Aa, na, Ca, rfl⟩ := ha
  obtain ⟨Ad, Cd, rfl, hd0⟩ : ∃ A C, vd = .slice A ds.length C ∧ True := by
    obtain ⟨A, C, hv, _⟩ := h
    exact ⟨A, C, hv, trivial⟩
  obtain ⟨V0, b, o, _, rfl, hc1, hc2, hV0, hcell⟩ := dks_cells h h1
  obtain ⟨n, hn⟩ : ∃ n, n = ds.length := ⟨_, rfl⟩
  rw [← hn] at hc1 hcell h1 h12 ⊢
  have HN : Hid (n = ds.length) := hn
  have HV0 : Hid (∀ i d, ds[i]? = some d → Hes w (V0 i) d.bl) := hV0
  have HBL : Hid (∀ (i : Nat) (d : Sto.Disk), ds[i]? = some d → d.bl.length ≤ 100) := hbl
  have HOK : Hid (LenOk ds) := hok
  have hc2' : Cd ≤ 9223372036854775807 := by unfold maxLen at hc2; exact hc2
  -- the two variables, and the empty list
  obtain ⟨w1, hw1⟩ : ∃ q, q = (w.alloc (.cells #[.int .i64 x, .int .i64 y, .int .i64 z, .slice (some ⟨b, o, none⟩) n Cd, .int .i64 g, .slice At nt Ct, .slice As ns Cs, .int .i64 u, .slice Aa na Ca] 32)).alloc (.cells zStA 32) := ⟨_, rfl⟩
  have b1 : Below w.heap.size w (w.alloc (.cells #[.int .i64 x, .int .i64 y, .int .i64 z, .slice (some ⟨b, o, none⟩) n Cd, .int .i64 g, .slice At nt Ct, .slice As ns Cs, .int .i64 u, .slice Aa na Ca] 32)) := (Below.refl _ _).alloc (Nat.le_refl _) _
  have b2 := b1.alloc b1.size (.cells zStA 32)
  have V1 := (varN_new w #[.int .i64 x, .int .i64 y, .int .i64 z, .slice (some ⟨b, o, none⟩) n Cd, .int .i64 g, .slice At nt Ct, .slice As ns Cs, .int .i64 u, .slice Aa na Ca] 32).below ((Below.refl _ _).alloc (Nat.le_refl _) (.cells zStA 32))
  have V2 := varN_new (w.alloc (.cells #[.int .i64 x, .int .i64 y, .int .i64 z, .slice (some ⟨b, o, none⟩) n Cd, .int .i64 g, .slice At nt Ct, .slice As ns Cs, .int .i64 u, .slice Aa na Ca] 32)) zStA 32
  have hsz : (w.alloc (.cells #[.int .i64 x, .int .i64 y, .int .i64 z, .slice (some ⟨b, o, none⟩) n Cd, .int .i64 g, .slice At nt Ct, .slice As ns Cs, .int .i64 u, .slice Aa na Ca] 32)).heap.size = w.heap.size + 1 := Array.size_push _
  rw [hsz] at V2
  rw [← hw1] at b2 V1 V2
  have bE : Below w1.heap.size w1 (w1.alloc (.cells #[] 58)) := (Below.refl _ _).alloc (Nat.le_refl _) _
  have hE : (w1.alloc (.cells #[] 58)).ownsRow w1.heap.size 58 2 (.slice (some ⟨w1.heap.size, 0, none⟩) 0 0) 0 [] := World.ownsRow_made w1 #[] 0 (Nat.le_refl _) (by unfold maxLen; omega) rfl
  have hone : ∀ v, v ∈ (List.range (n * 2)).map (dkF V0 ds) → v.oneCell' = true := fun v hv => by
    obtain ⟨j, hj, rfl⟩ := List.mem_map.1 hv
    have hj := List.mem_range.1 hj
    unfold dkF
    by_cases e : j % 2 = 0
    · rw [if_pos e]
      rfl
    · rw [if_neg e]
      have hi : j / 2 < ds.length := by omega
      obtain ⟨A, C, hv, _⟩ := HV0.out (j / 2) ds[j / 2] (List.getElem?_eq_getElem hi)
      rw [hv]
      rfl
  obtain ⟨v3, w3, r3, o3, k3, e3⟩ := app_gen 25 Tryz.underlying25 Tryz.infoDisk rfl (by decide) (by decide) hE (some ⟨b, o, none⟩) n Cd (fun e => by cases e) ((List.range (n * 2)).map (dkF V0 ds)) (by rw [List.length_map, List.length_range]) (fun a e j v hj => by
    cases e
    rw [List.getElem?_map] at hj
    obtain ⟨j', hj', rfl⟩ := Option.map_eq_some_iff.1 hj
    obtain ⟨hl, hj'⟩ := List.getElem?_eq_some_iff.1 hj'
    rw [List.getElem_range] at hj'
    subst hj'
    rw [List.length_range] at hl
    rw [WideShapes.add_plain]
    exact ((bt b2 bE).cell (p := ⟨b, o + j, none⟩) (World.block_lt_of_cell? _ _ (hcell j hl))).trans (hcell j hl)) hone (by omega) bE.size
  rw [Nat.zero_add, List.nil_append] at o3
  obtain ⟨D, C, rfl, hD, hC1, hC2, hR⟩ := rowC_own2 o3 h1
  have B3 : Below w1.heap.size w1 w3 := bE.trans (grown_below k3 (fun q hq => by cases hq; exact Nat.le_refl _) bE.size)
  have hR : RowC w3 D 58 (ds.length * 2) (dkF V0 ds) := by
    rw [← HN.out]
    refine hR.congr fun j hj => ?_
    rw [List.getD_eq_getElem?_getD, List.getElem?_map, List.getElem?_range hj]
    rfl
  have hC2' : C ≤ 9223372036854775807 := by unfold maxLen at hC2; exact hC2
  have VP := (V1.below B3).set 3 (.slice (some ⟨D, 0, none⟩) n C) (show 3 < 9 by decide)
  have hDP : D ≠ w.heap.size := fun e => (hR.ty.ne (V1.below B3).ty (by decide)) e
  have hDP1 : D ≠ w.heap.size + 1 := fun e => (hR.ty.ne (V2.below B3).ty (by decide)) e
  have hoS : Off (fun k => k = w.heap.size) w3 (w3.setCell ⟨w.heap.size, 3, none⟩ (.slice (some ⟨D, 0, none⟩) n C)) := off_set _ ⟨w.heap.size, 3, none⟩ _
  have H0 : Hid (OwI w (w3.setCell ⟨w.heap.size, 3, none⟩ (.slice (some ⟨D, 0, none⟩) n C)) D V0 ds 0 ∧ VarN (w3.setCell ⟨w.heap.size, 3, none⟩ (.slice (some ⟨D, 0, none⟩) n C)) w.heap.size 32 [.int .i64 x, .int .i64 y, .int .i64 z, .slice (some ⟨D, 0, none⟩) n C, .int .i64 g, .slice At nt Ct, .slice As ns Cs, .int .i64 u, .slice Aa na Ca] ∧ VarN (w3.setCell ⟨w.heap.size, 3, none⟩ (.slice (some ⟨D, 0, none⟩) n C)) (w.heap.size + 1) 32 zStA.toList ∧ Below w.heap.size w (w3.setCell ⟨w.heap.size, 3, none⟩ (.slice (some ⟨D, 0, none⟩) n C))) := by
    refine ⟨⟨V0, fun _ => [], ?_, hR.of_block (hoS.block D hR.lt hDP), fun _ _ => rfl⟩, VP, (V2.below B3).off hoS (by show ¬ w.heap.size + 1 = w.heap.size; omega), (bt b2 B3).setCell (Nat.le_refl _) _⟩
    refine ⟨?_, Nat.le_trans b2.size hD, (fun i hi => by cases hi), (fun i d hd => by rw [List.take_zero] at hd; cases hd), (fun i _ hi => by cases hi), (fun i _ _ hi => by cases hi), (fun i _ _ _ _ _ _ hi => by cases hi)⟩
    exact ⟨_, _, (hR.of_block (hoS.block D hR.lt hDP)).choose_spec.choose_spec.1, Nat.zero_le _, fun j hj => by cases hj⟩
  have c3 := V1.cell (i := 3) rfl
  have c3E := (bE.cell (p := ⟨w.heap.size, 3, none⟩) (World.block_lt_of_cell? _ _ c3)).trans c3
  have c33 := (V1.below B3).cell (i := 3) rfl
  have f33 := (V1.below B3).frozen 3
  clear h hcell hV0 hbl hok hn hone o3 k3 e3 hE hR VP hoS V1 V2 b1 b2 bE hsz
  go_enter Tryz.func36, Tryz.ntmps36
  go_upto_region 1 with fail
  rw [← hw1]
  clear hw1
  go_upto_region 2 with (at_builtin; refine Lib.wpList_append_run _ rfl _ _ _ _ rfl _ _ rfl rfl _ _ r3 ?_)
  obtain ⟨w4, hw4⟩ : ∃ q, q = w3.setCell ⟨w.heap.size, 3, none⟩ (.slice (some ⟨D, 0, none⟩) n C) := ⟨_, rfl⟩
  rw [← hw4] at H0 ⊢
  clear hw4 c3 c3E c33 f33 r3 B3
  have c3 := H0.out.2.1.cell (i := 3) rfl
  go_wp2_with fail
  clear c3
  go_loopw [15] (fun x' wr => ∃ i : Nat, i ≤ n ∧ x' = .int .i64 i ∧ Hid (OwI w wr D V0 ds i ∧ VarN wr w.heap.size 32 [.int .i64 x, .int .i64 y, .int .i64 z, .slice (some ⟨D, 0, none⟩) n C, .int .i64 g, .slice At nt Ct, .slice As ns Cs, .int .i64 u, .slice Aa na Ca] ∧ VarN wr (w.heap.size + 1) 32 zStA.toList ∧ Below w.heap.size w wr)) (fun x' _ => n - (intOf x').toNat)
  case atStart => exact ⟨0, Nat.zero_le _, rfl, H0⟩
  case round =>
    obtain ⟨i, hi, rfl, HR⟩ := hrel
    by_cases hlt : i < n
    · have hlt' : (i : Int) < (n : Int) := by omega
      obtain ⟨hI, hP, hP1, hB⟩ := HR.out
      have hil : i < ds.length := by rw [← HN.out]; exact hlt
      obtain ⟨d, hd⟩ : ∃ d, ds[i]? = some d := ⟨ds[i], List.getElem?_eq_getElem hil⟩
      have c3 := hP.cell (i := 3) rfl
      have g1 : wr.cell? ⟨D, i * 2 + 1, none⟩ = some (V0 i) := by
        obtain ⟨V, U, _, hR2, hV⟩ := hI.ok
        rw [hR2.cell (show i * 2 + 1 < ds.length * 2 by omega)]
        unfold dkF
        rw [if_neg (by omega), show (i * 2 + 1) / 2 = i by omega, hV i (Nat.le_refl _)]
      obtain ⟨Ah, Ch, hVi, hh1, hh2, hh3⟩ := HV0.out i d hd
      rw [hVi] at g1
      obtain ⟨m, hm⟩ : ∃ m, m = d.bl.length := ⟨_, rfl⟩
      rw [← hm] at g1 hh1
      have hm100 : m ≤ 100 := by rw [hm]; exact HBL.out i d hd
      have hh2' : Ch ≤ 9223372036854775807 := by unfold maxLen at hh2; exact hh2
      obtain ⟨wo, hwo⟩ : ∃ q, q = wr := ⟨wr, rfl⟩
      have HHE : Hid (∀ j x9, d.bl[j]? = some x9 → ∃ b9 o9 A9 C9, Ah = some ⟨b9, o9, none⟩ ∧ wo.cell? ⟨b9, o9 + j * 2, none⟩ = some (.int .i64 x9.1) ∧ wo.cell? ⟨b9, o9 + j * 2 + 1, none⟩ = some (.slice A9 x9.2.length C9) ∧ BytL wo (.slice A9 x9.2.length C9) x9.2 ∧ 1 ≤ x9.2.length ∧ x9.2.length ≤ 1000) := fun j x9 hx9 => by
        obtain ⟨b9, o9, e1, u9, e2, e3, e4⟩ := hh3 j x9 hx9
        have e5 := e4
        obtain ⟨_, A9, C9, rfl, _⟩ := e5
        obtain ⟨q1, q2⟩ := HOK.out i d hd x9 (List.mem_of_getElem? hx9)
        rw [hwo]
        exact ⟨b9, o9, A9, C9, e1, (hB.cell (p := ⟨b9, o9 + j * 2, none⟩) (World.block_lt_of_cell? _ _ e2)).trans e2, (hB.cell (p := ⟨b9, o9 + j * 2 + 1, none⟩) (World.block_lt_of_cell? _ _ e3)).trans e3, e4.below hB, q1, q2⟩
      have HK : Hid (wo = wr ∧ OwI w wo D V0 ds i ∧ VarN wo w.heap.size 32 [.int .i64 x, .int .i64 y, .int .i64 z, .slice (some ⟨D, 0, none⟩) n C, .int .i64 g, .slice At nt Ct, .slice As ns Cs, .int .i64 u, .slice Aa na Ca] ∧ VarN wo (w.heap.size + 1) 32 zStA.toList ∧ Below w.heap.size w wo ∧ ds[i]? = some d ∧ m = d.bl.length) := ⟨hwo, by rw [hwo]; exact hI, by rw [hwo]; exact hP, by rw [hwo]; exact hP1, by rw [hwo]; exact hB, hd, hm⟩
      have H1 : Hid (OwJ wo wr d.bl (.slice none 0 0) 0) := ⟨[], by rw [hwo]; exact World.ownsRow_nil _ _ _ _, rfl, (fun _ h => by cases h), (fun _ _ _ _ _ h => by cases h), by rw [hwo]; exact Below.refl _ _⟩
      clear HR hI hP hP1 hB hd hm hVi hh3 hwo
      go_wp2_with fail
      clear c3 g1
      go_loopw [4, 25] (fun v4 x' wr => ∃ j : Nat, j ≤ m ∧ x' = .int .i64 j ∧ Hid (OwJ wo wr d.bl v4 j)) (fun _ x' _ => m - (intOf x').toNat)
      case atStart => exact ⟨0, Nat.zero_le _, rfl, H1⟩
      case round =>
        obtain ⟨j, hj, rfl, HR⟩ := hrel
        by_cases hlj : j < m
        · have hlj' : (j : Int) < (m : Int) := by omega
          obtain ⟨x9, hx9⟩ : ∃ x9, d.bl[j]? = some x9 := ⟨d.bl[j]'(by rw [← HK.out.2.2.2.2.2.2]; exact hlj), List.getElem?_eq_getElem _⟩
          obtain ⟨b9, o9, A9, C9, rfl, e0, e1, e2, q1, q2⟩ := HHE.out j x9 hx9
          have hbo := HR.out.bel
          have e0 := (hbo.cell (p := ⟨b9, o9 + j * 2, none⟩) (World.block_lt_of_cell? _ _ e0)).trans e0
          have e1 := (hbo.cell (p := ⟨b9, o9 + j * 2 + 1, none⟩) (World.block_lt_of_cell? _ _ e1)).trans e1
          have bA : Below wr.heap.size wr (wr.alloc (.cells #[.int .i64 x9.1, .slice A9 x9.2.length C9] 61)) := (Below.refl _ _).alloc (Nat.le_refl _) _
          have VH := varN_new wr #[.int .i64 x9.1, .slice A9 x9.2.length C9] 61
          obtain ⟨A6, m6, C6, w6, r6, B6, v7, w7, r7, J7, F7⟩ := (HR.out.off bA).next hx9 e2 q1 q2 (by omega)
          have HLT : Hid (u4.ownBlock ≠ some wr.heap.size) := fun e => by
            have := HR.out.lt e
            omega
          have HNX : Hid (OwJ wo w7 d.bl v7 (j + 1)) := J7
          obtain ⟨s9, hs9⟩ : ∃ q, q = x9.1 := ⟨_, rfl⟩
          obtain ⟨n9, hn9⟩ : ∃ q, q = x9.2.length := ⟨_, rfl⟩
          rw [← hs9] at e0 r7 VH bA r6 B6
          rw [← hn9] at e1 VH bA r6 B6
          clear HR J7 hx9 e2 q1 q2 hs9 hn9 hbo
          go_upto_region 9 with fail
          obtain ⟨wA, hwA⟩ : ∃ q, q = wr.alloc (.cells #[.int .i64 s9, .slice A9 n9 C9] 61) := ⟨_, rfl⟩
          rw [← hwA] at VH r6 B6 ⊢
          obtain ⟨Q, hQ⟩ : ∃ q, q = wr.heap.size := ⟨_, rfl⟩
          rw [← hQ] at VH HLT ⊢
          have HSo : ∀ w', Below wA.heap.size wA w' → w'.cell? ⟨Q, 0, none⟩ = some (.int .i64 s9) ∧ w'.cell? ⟨Q, 1, none⟩ = some (.slice A9 n9 C9) := fun w' hb => ⟨(VH.below hb).cell (i := 0) rfl, (VH.below hb).cell (i := 1) rfl⟩
          have V7 := (VH.below B6).off F7 HLT.out
          have T7 : w7.cell? ⟨Q, 0, none⟩ = some (.int .i64 s9) ∧ w7.cell? ⟨Q, 1, none⟩ = some (.slice A9 n9 C9) := ⟨V7.cell (i := 0) rfl, V7.cell (i := 1) rfl⟩
          have TD := HSo wA.drew (Below.refl _ _).drew
          have T1 := fun q => HSo (wA.alloc q).drew ((Below.refl _ _).alloc (Nat.le_refl _) q).drew
          have T2 := HSo w6 B6
          have T3 := fun q => HSo (w6.alloc q) (B6.alloc B6.size q)
          clear hwA hQ e0 e1 bA VH V7 F7 HLT
          go_region_held3 (fun w' => w'.cell? ⟨Q, 0, none⟩ = some (.int .i64 s9) ∧ w'.cell? ⟨Q, 1, none⟩ = some (.slice A9 n9 C9))
            (first | with_reducible exact TD | with_reducible assumption | with_reducible exact T1 _ | with_reducible exact T2 | with_reducible exact T3 _ | with_reducible exact T7)
            (first | (refine app_eq rfl (.tmp 32) (.tmp 34) 59 rfl rfl rfl r6 ?_) | (refine app_eq rfl (.tmp 29) (.tmp 37) 56 rfl rfl rfl r7 ?_))
          go_wp2_with fail
          exact ⟨⟨j + 1, by omega, by go_num, HNX⟩, by simp [intOf]; omega⟩
        · obtain rfl : j = m := by omega
          obtain ⟨_, k2, k3, k4, k5, k6, k7⟩ := HK.out
          have hbo := HR.out.bel
          have hJ := HR.out
          rw [k7] at hJ
          have hNI := k2.next k6 hJ k5.size
          have hDw : D < wr.heap.size := by
            obtain ⟨V, U, _, hR2, _⟩ := (k2.off hbo).ok
            exact hR2.lt
          have hof := off_set wr ⟨D, i * 2 + 1, none⟩ u4
          have HNX : Hid (OwI w (wr.setCell ⟨D, i * 2 + 1, none⟩ u4) D V0 ds (i + 1) ∧ VarN (wr.setCell ⟨D, i * 2 + 1, none⟩ u4) w.heap.size 32 [.int .i64 x, .int .i64 y, .int .i64 z, .slice (some ⟨D, 0, none⟩) n C, .int .i64 g, .slice At nt Ct, .slice As ns Cs, .int .i64 u, .slice Aa na Ca] ∧ VarN (wr.setCell ⟨D, i * 2 + 1, none⟩ u4) (w.heap.size + 1) 32 zStA.toList ∧ Below w.heap.size w (wr.setCell ⟨D, i * 2 + 1, none⟩ u4)) := ⟨hNI, (k3.below hbo).off hof (fun e => hDP e.symm), (k4.below hbo).off hof (fun e => hDP1 e.symm), (bt k5 hbo).setCell (by
            obtain ⟨V, U, hdk, _, _⟩ := k2.ok
            exact hdk.ge) _⟩
          have c3 := (k3.below hbo).cell (i := 3) rfl
          obtain ⟨u0, g1, f1⟩ : ∃ u0, wr.cell? ⟨D, i * 2 + 1, none⟩ = some u0 ∧ wr.frozen? ⟨D, i * 2 + 1, none⟩ = false := by
            obtain ⟨V, U, _, hR2, _⟩ := (k2.off hbo).ok
            exact ⟨_, hR2.cell (show i * 2 + 1 < ds.length * 2 by have := HN.out; omega), hR2.frozen _⟩
          obtain ⟨A7, n7, C7, rfl⟩ := hJ.shape
          clear HR hJ hNI k2 k3 k4 k5 k6 k7 hbo hof
          go_wp2_with fail
          exact ⟨⟨i + 1, by omega, by go_num, HNX⟩, by simp [intOf]; omega⟩
    · obtain rfl : i = n := by omega
      obtain ⟨hI, hP, hP1, hB⟩ := HR.out
      obtain ⟨V, U, hdk, hR2, _⟩ := hI.ok
      rw [HN.out, List.take_length] at hdk
      have HF : Hid (∀ w', Off (fun k => k = w.heap.size + 1) wr w' → OwnO (.returned (stA x y z (.slice (some ⟨D, 0, none⟩) i C) g (.slice At nt Ct) (.slice As ns Cs) u (.slice Aa na Ca))) w w' x y z g u (.slice At nt Ct) (.slice As ns Cs) (.slice Aa na Ca) ds) := fun w' ho => ⟨D, C, V, U, by rw [← HN.out], by rw [← HN.out]; exact hC1, hC2, hdk.off ho fun k hk => ⟨32, by subst hk; exact hP1.ty, by decide, by decide, by decide⟩, hB.trans (ho.below hB.size fun k hk => by subst hk; omega)⟩
      have a0 := hP.cell (i := 0) rfl
      have a1 := hP.cell (i := 1) rfl
      have a2 := hP.cell (i := 2) rfl
      have a3 := hP.cell (i := 3) rfl
      have a4 := hP.cell (i := 4) rfl
      have a5 := hP.cell (i := 5) rfl
      have a6 := hP.cell (i := 6) rfl
      have a7 := hP.cell (i := 7) rfl
      have a8 := hP.cell (i := 8) rfl
      have d0 := hP1.cell (i := 0) rfl
      have d1 := hP1.cell (i := 1) rfl
      have d2 := hP1.cell (i := 2) rfl
      have d3 := hP1.cell (i := 3) rfl
      have d4 := hP1.cell (i := 4) rfl
      have d5 := hP1.cell (i := 5) rfl
      have d6 := hP1.cell (i := 6) rfl
      have d7 := hP1.cell (i := 7) rfl
      have d8 := hP1.cell (i := 8) rfl
      have f0 := hP1.frozen 0
      have f1 := hP1.frozen 1
      have f2 := hP1.frozen 2
      have f3 := hP1.frozen 3
      have f4 := hP1.frozen 4
      have f5 := hP1.frozen 5
      have f6 := hP1.frozen 6
      have f7 := hP1.frozen 7
      have f8 := hP1.frozen 8
      clear HR hI hP hP1 hB hdk hR2
      go_wp2_with fail
      refine bodyPost_ret (v := stA x y z (.slice (some ⟨D, 0, none⟩) i C) g (.slice At nt Ct) (.slice As ns Cs) u (.slice Aa na Ca)) (by simp [results, Tryz.results36, go_sem, d0, d1, d2, d3, d4, d5, d6, d7, d8]) rfl ?_
      exact HF.out _ (off_nine _ _ _ _ _ _ _ _ _ _ _)

end Go.Proofs.YtmcaejooaaahdaaGreat
