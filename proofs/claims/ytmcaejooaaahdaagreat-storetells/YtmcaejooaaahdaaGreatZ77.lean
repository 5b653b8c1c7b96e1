/-
  Texts of the proof, joined: JPlay.
-/
import Derived.Test.YtmcaejooaaahdaaGreatZ71
import Derived.Test.YtmcaejooaaahdaaGreatZ72
import Derived.Test.YtmcaejooaaahdaaGreatZ73
import Derived.Test.YtmcaejooaaahdaaGreatZ74
import Derived.Test.YtmcaejooaaahdaaGreatZ75
import Derived.Test.YtmcaejooaaahdaaGreatZ76
namespace Go.Proofs.YtmcaejooaaahdaaGreat
open Go.RowKit

theorem refStep_any {X : Sto.Six} {c : Sto.Cfg} {s : Sto.St} {d : Sto.Do} {T : Nat → Bool} {w : World} {Ad At As Aa Ae : Option Addr} {nd Cd nt Ct ns Cs na Ca ne Ce : Nat} {t : ByteArray} (H : SJ X c s d T w Ad nd Cd At nt Ct As ns Cs Aa na Ca Ae ne Ce t) :
    Calls Tryz.prog 11 #[.agg #[.int .i64 (c.d : Int), .int .i64 (c.s : Int), .int .i64 (c.b : Int), .slice Ad nd Cd, .int .i64 (s.segs : Int), .slice At nt Ct, .slice As ns Cs, .int .i64 s.u, .slice Aa na Ca], .agg #[.int .i64 d.kind, .int .i64 d.n, .int .i64 d.seg, .int .i64 d.pos, .int .u8 (d.turn : Int), .int .i64 d.bat.cmd, .slice Ae ne Ce, .string t, .int .i64 d.ver]] w fun e w' => StepO e T w w' c (Sto.step X c s d) := by
  by_cases h1 : d.kind = 1
  · rw [h1]; exact refStep_put H h1
  by_cases h2 : d.kind = 2
  · rw [h2]; exact refStep_read H h2
  by_cases h3 : d.kind = 3
  · rw [h3]; exact refStep_all H h3
  by_cases h4 : d.kind = 4
  · rw [h4]; exact refStep_view H h4
  by_cases h5 : d.kind = 5
  · rw [h5]; exact refStep_lose H h5
  by_cases h6 : d.kind = 6
  · rw [h6]; exact refStep_swap H h6
  by_cases h7 : d.kind = 7
  · rw [h7]; exact refStep_spoil H h7
  by_cases h8 : d.kind = 8
  · rw [h8]; exact refStep_scrub H h8
  by_cases h9 : d.kind = 9
  · rw [h9]; exact refStep_health H h9
  exact refStep_none H fun k q1 q2 => by omega
/-- What the document's Play tells. -/
def PlayJ (e : Ending) (w w' : World) (c : Sto.Cfg) (r : Sto.St × List Sto.Ans) : Prop := ∃ vd vt vs va vr, e = .returned (.tuple #[.agg #[.int .i64 (c.d : Int), .int .i64 (c.s : Int), .int .i64 (c.b : Int), vd, .int .i64 (r.1.segs : Int), vt, vs, .int .i64 r.1.u, va], vr, .int .i64 0]) ∧ StIn w' vd vt vs va r.1 ∧ Anss w' vr r.2 ∧ Below w.heap.size w w'
/-- The store's variable, the result, and answers' own row. -/
def plT (P R : Nat) (v : Value) : Nat → Bool := fun k => decide (k = P) || (decide (k = R) || decide (v.ownBlock = some k))
theorem plT_iff {P R : Nat} {v : Value} {k : Nat} : plT P R v k = true ↔ k = P ∨ k = R ∨ v.ownBlock = some k := by
  unfold plT
  simp
/-- A new store. -/
structure StNewJ (w3 wx : World) (c : Sto.Cfg) (R D : Nat) : Prop where
  var : VarN wx R 32 (stCells c D (c.d + c.s) 0 (.slice none 0 0) (.slice none 0 0) 0 (.slice none 0 0))
  row : RowC wx D 58 ((c.d + c.s) * 2) (dkF (fun _ => .slice none 0 0) (List.replicate (c.d + c.s) ⟨false, []⟩))
  geR : w3.heap.size ≤ R
  geD : w3.heap.size ≤ D
  bel : Below w3.heap.size w3 wx
theorem stNewJ_1 (w3 : World) (c : Sto.Cfg) : StNewJ w3 ((w3.alloc (.cells (madeCells #[.bool false, .slice none 0 0] ((c.d + c.s) * 2)) 58)).alloc (.cells #[.int .i64 (c.d : Int), .int .i64 (c.s : Int), .int .i64 (c.b : Int), .slice (some ⟨w3.heap.size, 0, none⟩) (c.d + c.s) (c.d + c.s), .int .i64 0, .slice none 0 0, .slice none 0 0, .int .i64 0, .slice none 0 0] 32)).drew c (w3.heap.size + 1) w3.heap.size := by
  have b1 : Below w3.heap.size w3 (w3.alloc (.cells (madeCells #[.bool false, .slice none 0 0] ((c.d + c.s) * 2)) 58)) := (Below.refl _ _).alloc (Nat.le_refl _) _
  have b2 : Below (w3.alloc (.cells (madeCells #[.bool false, .slice none 0 0] ((c.d + c.s) * 2)) 58)).heap.size (w3.alloc (.cells (madeCells #[.bool false, .slice none 0 0] ((c.d + c.s) * 2)) 58)) ((w3.alloc (.cells (madeCells #[.bool false, .slice none 0 0] ((c.d + c.s) * 2)) 58)).alloc (.cells #[.int .i64 (c.d : Int), .int .i64 (c.s : Int), .int .i64 (c.b : Int), .slice (some ⟨w3.heap.size, 0, none⟩) (c.d + c.s) (c.d + c.s), .int .i64 0, .slice none 0 0, .slice none 0 0, .int .i64 0, .slice none 0 0] 32)).drew := ((Below.refl _ _).alloc (Nat.le_refl _) _).drew
  have V := varN_new (w3.alloc (.cells (madeCells #[.bool false, .slice none 0 0] ((c.d + c.s) * 2)) 58)) #[.int .i64 (c.d : Int), .int .i64 (c.s : Int), .int .i64 (c.b : Int), .slice (some ⟨w3.heap.size, 0, none⟩) (c.d + c.s) (c.d + c.s), .int .i64 0, .slice none 0 0, .slice none 0 0, .int .i64 0, .slice none 0 0] 32
  rw [show (w3.alloc (.cells (madeCells #[.bool false, .slice none 0 0] ((c.d + c.s) * 2)) 58)).heap.size = w3.heap.size + 1 by simp] at V
  exact ⟨V, (disks_row (c.d + c.s) w3).below b2, Nat.le_succ _, Nat.le_refl _, bt b1 b2⟩
theorem stNewJ_2 (w3 : World) (c : Sto.Cfg) : StNewJ w3 ((w3.alloc (.cells #[.int .i64 (c.d : Int), .int .i64 (c.s : Int), .int .i64 (c.b : Int), .slice (some ⟨w3.heap.size + 1, 0, none⟩) (c.d + c.s) (c.d + c.s), .int .i64 0, .slice none 0 0, .slice none 0 0, .int .i64 0, .slice none 0 0] 32)).alloc (.cells (madeCells #[.bool false, .slice none 0 0] ((c.d + c.s) * 2)) 58)).drew c w3.heap.size (w3.heap.size + 1) := by
  have b1 : Below w3.heap.size w3 (w3.alloc (.cells #[.int .i64 (c.d : Int), .int .i64 (c.s : Int), .int .i64 (c.b : Int), .slice (some ⟨w3.heap.size + 1, 0, none⟩) (c.d + c.s) (c.d + c.s), .int .i64 0, .slice none 0 0, .slice none 0 0, .int .i64 0, .slice none 0 0] 32)) := (Below.refl _ _).alloc (Nat.le_refl _) _
  have b2 : Below (w3.alloc (.cells #[.int .i64 (c.d : Int), .int .i64 (c.s : Int), .int .i64 (c.b : Int), .slice (some ⟨w3.heap.size + 1, 0, none⟩) (c.d + c.s) (c.d + c.s), .int .i64 0, .slice none 0 0, .slice none 0 0, .int .i64 0, .slice none 0 0] 32)).heap.size (w3.alloc (.cells #[.int .i64 (c.d : Int), .int .i64 (c.s : Int), .int .i64 (c.b : Int), .slice (some ⟨w3.heap.size + 1, 0, none⟩) (c.d + c.s) (c.d + c.s), .int .i64 0, .slice none 0 0, .slice none 0 0, .int .i64 0, .slice none 0 0] 32)) ((w3.alloc (.cells #[.int .i64 (c.d : Int), .int .i64 (c.s : Int), .int .i64 (c.b : Int), .slice (some ⟨w3.heap.size + 1, 0, none⟩) (c.d + c.s) (c.d + c.s), .int .i64 0, .slice none 0 0, .slice none 0 0, .int .i64 0, .slice none 0 0] 32)).alloc (.cells (madeCells #[.bool false, .slice none 0 0] ((c.d + c.s) * 2)) 58)).drew := ((Below.refl _ _).alloc (Nat.le_refl _) _).drew
  have V := (varN_new w3 #[.int .i64 (c.d : Int), .int .i64 (c.s : Int), .int .i64 (c.b : Int), .slice (some ⟨w3.heap.size + 1, 0, none⟩) (c.d + c.s) (c.d + c.s), .int .i64 0, .slice none 0 0, .slice none 0 0, .int .i64 0, .slice none 0 0] 32).below b2
  have r := disks_row (c.d + c.s) (w3.alloc (.cells #[.int .i64 (c.d : Int), .int .i64 (c.s : Int), .int .i64 (c.b : Int), .slice (some ⟨w3.heap.size + 1, 0, none⟩) (c.d + c.s) (c.d + c.s), .int .i64 0, .slice none 0 0, .slice none 0 0, .int .i64 0, .slice none 0 0] 32))
  rw [show (w3.alloc (.cells #[.int .i64 (c.d : Int), .int .i64 (c.s : Int), .int .i64 (c.b : Int), .slice (some ⟨w3.heap.size + 1, 0, none⟩) (c.d + c.s) (c.d + c.s), .int .i64 0, .slice none 0 0, .slice none 0 0, .int .i64 0, .slice none 0 0] 32)).heap.size = w3.heap.size + 1 by simp] at r
  exact ⟨V, r, Nat.le_refl _, Nat.le_succ _, bt b1 b2⟩
/-- Under way: k are done. -/
structure PlI (w wr : World) (c : Sto.Cfg) (P R : Nat) (vd vt vs va vr : Value) (s : Sto.St) (qs : List AnC) (al : List Sto.Ans) : Prop where
  st : StIn (blank (plT P R vr) wr) vd vt vs va s
  pv : PlainV vs
  vP : VarN wr P 32 (stL c vd (s.segs : Int) vt vs s.u va)
  vR : VarN wr R 32 zStA.toList
  own : wr.ownsRow w.heap.size 42 5 vr qs.length (qs.flatMap anCells)
  len : qs.length = al.length
  ans : ∀ (i : Nat) (q : AnC) (a : Sto.Ans), qs[i]? = some q → al[i]? = some a → q.1 = a.err ∧ q.2.1 = a.n ∧ q.2.2.2.1 = a.vu ∧ Evs (blank (plT P R vr) wr) (slV q.2.2.1) a.evs ∧ Accs (blank (plT P R vr) wr) (slV q.2.2.2.2) a.vl
  bel : Below w.heap.size w wr
  pr : P ≠ R
  vp : vr.ownBlock ≠ some P
  vr' : vr.ownBlock ≠ some R
  ge : w.heap.size ≤ P ∧ w.heap.size ≤ R
section
variable {w wr wr' : World} {c : Sto.Cfg} {P R : Nat} {vd vt vs va vr : Value} {s : Sto.St} {qs : List AnC} {al : List Sto.Ans}
theorem PlI.low (h : PlI w wr c P R vd vt vs va vr s qs al) : ∀ k, plT P R vr k = true → k < wr.heap.size := fun k hk => by
  rcases plT_iff.1 hk with z | z | z
  · rw [z]
    exact RowC.lt h.vP
  · rw [z]
    exact RowC.lt h.vR
  · exact (h.own.lt k z).2
theorem PlI.below (h : PlI w wr c P R vd vt vs va vr s qs al) (hb : Below wr.heap.size wr wr') : PlI w wr' c P R vd vt vs va vr s qs al :=
  ⟨h.st.sub (blank_below hb), h.pv, h.vP.below hb, h.vR.below hb, owns_below h.own hb, h.len, fun i q a hq ha => by
    obtain ⟨e1, e2, e3, e4, e5⟩ := h.ans i q a hq ha
    exact ⟨e1, e2, e3, e4.sub (blank_below hb), e5.sub (blank_below hb)⟩, bt h.bel hb, h.pr, h.vp, h.vr', h.ge⟩
/-- The store is set. -/
theorem PlI.store (h : PlI w wr c P R vd vt vs va vr s qs al) (ho : Off (fun k => k = P) wr wr') {vd' vt' vs' va' : Value} {s' : Sto.St} (hv : VarN wr' P 32 (stL c vd' (s'.segs : Int) vt' vs' s'.u va')) (hs : StIn (blank (plT P R vr) wr) vd' vt' vs' va' s') (hp : PlainV vs') : PlI w wr' c P R vd' vt' vs' va' vr s' qs al := by
  have hc : CSub (blank (plT P R vr) wr) (blank (plT P R vr) wr') := blank_one (plT_iff.2 (Or.inl rfl)) ho
  exact ⟨hs.sub hc, hp, hv, h.vR.off ho (fun z => h.pr z.symm), owns_off h.own ho (fun g hg z => h.vp (by have z : g = P := z; rw [← z]; exact hg)), h.len, fun i q a hq ha => by
    obtain ⟨e1, e2, e3, e4, e5⟩ := h.ans i q a hq ha
    exact ⟨e1, e2, e3, e4.sub hc, e5.sub hc⟩, h.bel.trans (ho.below h.bel.size fun k z => by have z : k = P := z; rw [z]; exact h.ge.1), h.pr, h.vp, h.vr', h.ge⟩
/-- The answer comes behind the others. -/
theorem PlI.app (h : PlI w wr c P R vd vt vs va vr s qs al) (q : AnC) (a : Sto.Ans) (hq : q.1 = a.err ∧ q.2.1 = a.n ∧ q.2.2.2.1 = a.vu ∧ Evs (blank (plT P R vr) wr) (slV q.2.2.1) a.evs ∧ Accs (blank (plT P R vr) wr) (slV q.2.2.2.2) a.vl) (hsz : qs.length ≤ 1000) :
    ∃ v' w', (Builtin.append_ #[33, 33] 33 #[vr, .slice (some ⟨wr.heap.size, 0, none⟩) 1 1]).run Tryz.prog (wr.alloc (.cells (anCells q).toArray 42)) = .ok v' w' ∧ PlI w w' c P R vd vt vs va v' s (qs ++ [q]) (al ++ [a]) := by
  obtain ⟨i4, hi4, hh4⟩ := Option.map_eq_some_iff.1 Tryz.infoAns
  simp only [Prod.mk.injEq] at hh4
  obtain ⟨hy0, hy1, hy2⟩ := hh4
  have bA : Below wr.heap.size wr (wr.alloc (.cells (anCells q).toArray 42)) := (Below.refl _ _).alloc (Nat.le_refl _) _
  have hc := varN_new wr (anCells q).toArray 42
  obtain ⟨v', w', hrun, ho, hg, _, hat⟩ := run_append_own_at (P := Tryz.prog) (wr.alloc (.cells (anCells q).toArray 42)) w.heap.size 33 33 42 i4 _ 5 72 Tryz.underlying33 hi4 hy0 hy1 hy2 rfl (by decide) vr qs.length _ (owns_below h.own bA) ⟨wr.heap.size, 0, none⟩ 1 1 (anCells q) rfl (fun j u hj => by
    rw [WideShapes.add_plain, Nat.zero_add]
    exact hc.cell hj) (fun u hu => by
    simp only [anCells, List.mem_cons, List.not_mem_nil, or_false] at hu
    rcases hu with rfl | rfl | rfl | rfl | rfl <;> rfl) (by unfold maxLen; omega) (by omega) (Nat.le_trans h.bel.size bA.size)
  have hof : Off (fun k => vr.ownBlock = some k) wr w' := (Off.of_below bA).trans (off_of_grown hg)
  have hlow := h.low
  have hT : ∀ k, k < wr.heap.size → plT P R v' k = true → plT P R vr k = true := fun k hk hz => by
    rcases plT_iff.1 hz with z | z | z
    · exact plT_iff.2 (Or.inl z)
    · exact plT_iff.2 (Or.inr (Or.inl z))
    · rcases hat with y | y
      · rw [y] at z
        exact plT_iff.2 (Or.inr (Or.inr z))
      · rw [y] at z
        cases z
        exact absurd bA.size (Nat.not_le.2 hk)
  have hs : CSub (blank (plT P R vr) wr) (blank (plT P R v') w') := fun p u hp => by
    obtain ⟨q1, q2⟩ := blank_at hp
    have hlt := World.block_lt_of_cell? _ _ q2
    have e1 : plT P R v' p.block = false := by
      cases e : plT P R v' p.block with
      | false => rfl
      | true =>
        rw [hT _ hlt e] at q1
        cases q1
    rw [blank_cell e1]
    exact (World.cell?_of_block (w := wr) (a := p) (hof.block p.block hlt (fun z => by
      rw [plT_iff.2 (Or.inr (Or.inr z))] at q1
      cases q1))).trans q2
  have hnv : ∀ k, k < wr.heap.size → vr.ownBlock ≠ some k → v'.ownBlock ≠ some k := fun k hk hz e => by
    rcases hat with y | y
    · rw [y] at e
      exact hz e
    · rw [y] at e
      cases e
      exact absurd bA.size (Nat.not_le.2 hk)
  refine ⟨v', w', hrun, h.st.sub hs, h.pv, h.vP.off hof h.vp, h.vR.off hof h.vr', ?_, by rw [List.length_append, List.length_append, h.len]; rfl, fun i x b hx hb => ?_, h.bel.trans (hof.below h.bel.size fun k z => (h.own.lt k z).1), h.pr, hnv P (RowC.lt h.vP) h.vp, hnv R (RowC.lt h.vR) h.vr', h.ge⟩
  · rw [List.length_append, List.flatMap_append]
    exact ho
  · have hql := h.len
    by_cases hi : i < qs.length
    · rw [List.getElem?_append_left hi] at hx
      rw [List.getElem?_append_left (by omega)] at hb
      obtain ⟨e1, e2, e3, e4, e5⟩ := h.ans i x b hx hb
      exact ⟨e1, e2, e3, e4.sub hs, e5.sub hs⟩
    · have hil := (List.getElem?_eq_some_iff.1 hx).1
      rw [List.length_append] at hil
      have hil : i < qs.length + 1 := hil
      obtain rfl : i = qs.length := by omega
      rw [List.getElem?_append_right (Nat.le_refl _), Nat.sub_self] at hx
      rw [List.getElem?_append_right (by omega), show qs.length - al.length = 0 by omega] at hb
      cases hx
      cases hb
      obtain ⟨e1, e2, e3, e4, e5⟩ := hq
      exact ⟨e1, e2, e3, e4.sub hs, e5.sub hs⟩
/-- What is told in the end. -/
theorem PlI.told (h : PlI w wr c P R vd vt vs va vr s qs al) (ho : Off (fun k => k = R) wr wr') : StIn wr' vd vt vs va s ∧ Anss wr' vr al ∧ Below w.heap.size w wr' := by
  have hc : CSub (blank (plT P R vr) wr) wr' := sub_off (ho.wider fun k z => by
    have z : k = R := z
    exact plT_iff.2 (Or.inr (Or.inl z)))
  have hown := owns_off h.own ho fun g hg z => h.vr' (by have z : g = R := z; rw [← z]; exact hg)
  refine ⟨h.st.sub hc, ?_, h.bel.trans (ho.below h.bel.size fun k z => by have z : k = R := z; rw [z]; exact h.ge.2)⟩
  obtain ⟨A, C, rfl, h1, h2, h3⟩ := row_shape hown
  refine ⟨A, C, by rw [h.len], by rw [← h.len]; exact h1, h2, fun i a ha => ?_⟩
  have hil := (List.getElem?_eq_some_iff.1 ha).1
  rw [← h.len] at hil
  obtain ⟨g, rfl⟩ := h3 (by omega)
  have hq : qs[i]? = some qs[i] := List.getElem?_eq_getElem hil
  obtain ⟨e1, e2, e3, e4, e5⟩ := h.ans i _ a hq ha
  have cc : ∀ (j : Nat) (u : Value), (anCells qs[i])[j]? = some u → wr'.cell? ⟨g, 0 + i * 5 + j, none⟩ = some u := fun j u hj => by
    rw [Nat.zero_add]
    exact row_cell (f := anCells) hown (fun _ _ => rfl) (g := g) rfl (j := j) hq hj
  refine ⟨g, 0, rfl, slV qs[i].2.2.1, slV qs[i].2.2.2.2, ?_, ?_, ?_, ?_, ?_, e4.sub hc, e5.sub hc⟩
  · rw [← e1]
    exact cc 0 _ rfl
  · rw [← e2]
    exact cc 1 _ rfl
  · exact cc 2 _ rfl
  · rw [← e3]
    exact cc 3 _ rfl
  · exact cc 4 _ rfl
end
theorem var_nine {w : World} {P : Nat} {t : TypeId} {a0 a1 a2 a3 a4 a5 a6 a7 a8 : Value} (h : VarN w P t [a0, a1, a2, a3, a4, a5, a6, a7, a8]) (b0 b1 b2 b3 b4 b5 b6 b7 b8 : Value) : VarN (((((((((w.setCell ⟨P, 0, none⟩ b0).setCell ⟨P, 1, none⟩ b1).setCell ⟨P, 2, none⟩ b2).setCell ⟨P, 3, none⟩ b3).setCell ⟨P, 4, none⟩ b4).setCell ⟨P, 5, none⟩ b5).setCell ⟨P, 6, none⟩ b6).setCell ⟨P, 7, none⟩ b7).setCell ⟨P, 8, none⟩ b8) P t [b0, b1, b2, b3, b4, b5, b6, b7, b8] :=
  ((((((((h.set 0 b0 (show 0 < 9 by decide)).set 1 b1 (show 1 < 9 by decide)).set 2 b2 (show 2 < 9 by decide)).set 3 b3 (show 3 < 9 by decide)).set 4 b4 (show 4 < 9 by decide)).set 5 b5 (show 5 < 9 by decide)).set 6 b6 (show 6 < 9 by decide)).set 7 b7 (show 7 < 9 by decide)).set 8 b8 (show 8 < 9 by decide)
set_option maxHeartbeats 4000000 in
set_option maxRecDepth 100000 in
theorem refPlay_ok {X : Sto.Six} (hX : Sto.SixOk X) (c : Sto.Cfg) (h1 : 1 ≤ c.d) (h2 : c.d ≤ 8) (h3 : c.s ≤ 4) (h4 : 1 ≤ c.b) (h5 : c.b ≤ 10) (v : Value) (l : List Sto.Do) (w : World) (hD : Dos w v l) (hl : l.length ≤ 80) :
    Calls Tryz.prog 5 #[.agg #[.int .i64 (c.d : Int), .int .i64 (c.s : Int), .int .i64 (c.b : Int)], v] w fun e w' => PlayJ e w w' c (Sto.steps X c (Sto.start c) l) := by
  obtain ⟨A, C, rfl, hc1, hc2, hdo⟩ := hD
  have hW0 : wrongS (c.d : Int) (c.s : Int) (c.b : Int) = 0 := by
    unfold wrongS
    rw [wrongC_ok (by omega), if_neg (fun z => z rfl), if_neg (by omega)]
  have b2 : Below w.heap.size w ((w.alloc (.cells #[.int .i64 (c.d : Int), .int .i64 (c.s : Int), .int .i64 (c.b : Int)] 23)).alloc (.cells #[.int .i64 0, .int .i64 0, .int .i64 0, .slice none 0 0, .int .i64 0, .slice none 0 0, .slice none 0 0, .int .i64 0, .slice none 0 0] 32)) := ((Below.refl _ _).alloc (Nat.le_refl _) _).alloc ((Below.refl _ _).alloc (Nat.le_refl _) _).size _
  have bB : Below (w.alloc (.cells #[.int .i64 (c.d : Int), .int .i64 (c.s : Int), .int .i64 (c.b : Int)] 23)).heap.size (w.alloc (.cells #[.int .i64 (c.d : Int), .int .i64 (c.s : Int), .int .i64 (c.b : Int)] 23)) ((w.alloc (.cells #[.int .i64 (c.d : Int), .int .i64 (c.s : Int), .int .i64 (c.b : Int)] 23)).alloc (.cells #[.int .i64 0, .int .i64 0, .int .i64 0, .slice none 0 0, .int .i64 0, .slice none 0 0, .slice none 0 0, .int .i64 0, .slice none 0 0] 32)) := (Below.refl _ _).alloc (Nat.le_refl _) _
  have VS := (varN_new w #[.int .i64 (c.d : Int), .int .i64 (c.s : Int), .int .i64 (c.b : Int)] 23).below bB
  have VT := varN_new (w.alloc (.cells #[.int .i64 (c.d : Int), .int .i64 (c.s : Int), .int .i64 (c.b : Int)] 23)) #[.int .i64 0, .int .i64 0, .int .i64 0, .slice none 0 0, .int .i64 0, .slice none 0 0, .slice none 0 0, .int .i64 0, .slice none 0 0] 32
  rw [show (w.alloc (.cells #[.int .i64 (c.d : Int), .int .i64 (c.s : Int), .int .i64 (c.b : Int)] 23)).heap.size = w.heap.size + 1 by simp] at VT
  have HW := refWrongS_any (c.d : Int) (c.s : Int) (c.b : Int) ((w.alloc (.cells #[.int .i64 (c.d : Int), .int .i64 (c.s : Int), .int .i64 (c.b : Int)] 23)).alloc (.cells #[.int .i64 0, .int .i64 0, .int .i64 0, .slice none 0 0, .int .i64 0, .slice none 0 0, .slice none 0 0, .int .i64 0, .slice none 0 0] 32))
  rw [hW0] at HW
  have HDO : Hid (∀ i d, l[i]? = some d → ∃ b o, A = some ⟨b, o, none⟩ ∧ DoAt w b (o + i * 9) d) := hdo
  have HX : Hid (Sto.SixOk X) := hX
  clear hW0 hdo hX bB
  go_enter Tryz.func5, Tryz.ntmps5
  go_upto_region 1 with fail
  generalize (w.alloc (.cells #[.int .i64 (c.d : Int), .int .i64 (c.s : Int), .int .i64 (c.b : Int)] 23)).alloc (.cells #[.int .i64 0, .int .i64 0, .int .i64 0, .slice none 0 0, .int .i64 0, .slice none 0 0, .slice none 0 0, .int .i64 0, .slice none 0 0] 32) = w2 at *
  have s0 := VS.cell (i := 0) rfl
  have s1 := VS.cell (i := 1) rfl
  have s2 := VS.cell (i := 2) rfl
  have hl' : ¬ (80 : Int) < (l.length : Int) := by omega
  go_wp2_with fail
  refine HW.mono ?_
  rintro e w3 ⟨rfl, b3⟩
  have VS3 := VS.below b3
  have VT3 := VT.below b3
  have b03 := bt b2 b3
  clear HW s0 s1 s2
  have s0 : w3.cell? ⟨w.heap.size, 0, none⟩ = some (.int .i64 (c.d : Int)) := VS3.cell (i := 0) rfl
  have s1 : w3.cell? ⟨w.heap.size, 1, none⟩ = some (.int .i64 (c.s : Int)) := VS3.cell (i := 1) rfl
  have s2 : w3.cell? ⟨w.heap.size, 2, none⟩ = some (.int .i64 (c.b : Int)) := VS3.cell (i := 2) rfl
  have hmk : ∀ w', (Instr.makeSlice 25 (.int .i64 ((c.d : Int) + (c.s : Int))) (.int .i64 ((c.d : Int) + (c.s : Int)))).run Tryz.prog w' = .ok (.slice (some ⟨w'.heap.size, 0, none⟩) (c.d + c.s) (c.d + c.s)) (w'.alloc (.cells (madeCells #[.bool false, .slice none 0 0] ((c.d + c.s) * 2)) 58)) := fun w' => made_disks (c.d + c.s) (by omega) w'
  have hwr : IntKind.i64.wrap ((c.d : Int) + (c.s : Int)) = (c.d : Int) + (c.s : Int) := by rw [IntKind.wrap_i64]; omega
  have hw64 : wrap64 ((c.d : Int) + (c.s : Int)) = (c.d : Int) + (c.s : Int) := by unfold wrap64; omega
  have bR : Below w3.heap.size w3 (w3.alloc (.cells #[.int .i64 0, .int .i64 0, .int .i64 0, .slice none 0 0, .int .i64 0, .slice none 0 0, .slice none 0 0, .int .i64 0, .slice none 0 0] 32)).drew := ((Below.refl _ _).alloc (Nat.le_refl _) _).drew
  have r0 : (w3.alloc (.cells #[.int .i64 0, .int .i64 0, .int .i64 0, .slice none 0 0, .int .i64 0, .slice none 0 0, .slice none 0 0, .int .i64 0, .slice none 0 0] 32)).drew.cell? ⟨w.heap.size, 0, none⟩ = some (.int .i64 (c.d : Int)) := (VS3.below bR).cell (i := 0) rfl
  have r1 : (w3.alloc (.cells #[.int .i64 0, .int .i64 0, .int .i64 0, .slice none 0 0, .int .i64 0, .slice none 0 0, .slice none 0 0, .int .i64 0, .slice none 0 0] 32)).drew.cell? ⟨w.heap.size, 1, none⟩ = some (.int .i64 (c.s : Int)) := (VS3.below bR).cell (i := 1) rfl
  have r2 : (w3.alloc (.cells #[.int .i64 0, .int .i64 0, .int .i64 0, .slice none 0 0, .int .i64 0, .slice none 0 0, .slice none 0 0, .int .i64 0, .slice none 0 0] 32)).drew.cell? ⟨w.heap.size, 2, none⟩ = some (.int .i64 (c.b : Int)) := (VS3.below bR).cell (i := 2) rfl
  have bq0 : Below w3.heap.size w3 (w3.alloc (.cells (madeCells #[.bool false, .slice none 0 0] ((c.d + c.s) * 2)) 58)).drew := ((Below.refl _ _).alloc (Nat.le_refl _) _).drew
  have q00 : (w3.alloc (.cells (madeCells #[.bool false, .slice none 0 0] ((c.d + c.s) * 2)) 58)).drew.cell? ⟨w.heap.size, 0, none⟩ = some (.int .i64 (c.d : Int)) := (VS3.below bq0).cell (i := 0) rfl
  have q01 : (w3.alloc (.cells (madeCells #[.bool false, .slice none 0 0] ((c.d + c.s) * 2)) 58)).drew.cell? ⟨w.heap.size, 1, none⟩ = some (.int .i64 (c.s : Int)) := (VS3.below bq0).cell (i := 1) rfl
  have q02 : (w3.alloc (.cells (madeCells #[.bool false, .slice none 0 0] ((c.d + c.s) * 2)) 58)).drew.cell? ⟨w.heap.size, 2, none⟩ = some (.int .i64 (c.b : Int)) := (VS3.below bq0).cell (i := 2) rfl
  have bq1 : Below w3.heap.size w3 ((w3.alloc (.cells #[.int .i64 0, .int .i64 0, .int .i64 0, .slice none 0 0, .int .i64 0, .slice none 0 0, .slice none 0 0, .int .i64 0, .slice none 0 0] 32)).alloc (.cells (madeCells #[.bool false, .slice none 0 0] ((c.d + c.s) * 2)) 58)).drew := (((Below.refl _ _).alloc (Nat.le_refl _) _).alloc ((Below.refl w3.heap.size w3).alloc (Nat.le_refl _) _).size _).drew
  have q10 : ((w3.alloc (.cells #[.int .i64 0, .int .i64 0, .int .i64 0, .slice none 0 0, .int .i64 0, .slice none 0 0, .slice none 0 0, .int .i64 0, .slice none 0 0] 32)).alloc (.cells (madeCells #[.bool false, .slice none 0 0] ((c.d + c.s) * 2)) 58)).drew.cell? ⟨w.heap.size, 0, none⟩ = some (.int .i64 (c.d : Int)) := (VS3.below bq1).cell (i := 0) rfl
  have q11 : ((w3.alloc (.cells #[.int .i64 0, .int .i64 0, .int .i64 0, .slice none 0 0, .int .i64 0, .slice none 0 0, .slice none 0 0, .int .i64 0, .slice none 0 0] 32)).alloc (.cells (madeCells #[.bool false, .slice none 0 0] ((c.d + c.s) * 2)) 58)).drew.cell? ⟨w.heap.size, 1, none⟩ = some (.int .i64 (c.s : Int)) := (VS3.below bq1).cell (i := 1) rfl
  have q12 : ((w3.alloc (.cells #[.int .i64 0, .int .i64 0, .int .i64 0, .slice none 0 0, .int .i64 0, .slice none 0 0, .slice none 0 0, .int .i64 0, .slice none 0 0] 32)).alloc (.cells (madeCells #[.bool false, .slice none 0 0] ((c.d + c.s) * 2)) 58)).drew.cell? ⟨w.heap.size, 2, none⟩ = some (.int .i64 (c.b : Int)) := (VS3.below bq1).cell (i := 2) rfl
  have bq2 : Below w3.heap.size w3 ((w3.alloc (.cells (madeCells #[.bool false, .slice none 0 0] ((c.d + c.s) * 2)) 58)).alloc (.cells #[.int .i64 0, .int .i64 0, .int .i64 0, .slice none 0 0, .int .i64 0, .slice none 0 0, .slice none 0 0, .int .i64 0, .slice none 0 0] 32)).drew := (((Below.refl _ _).alloc (Nat.le_refl _) _).alloc ((Below.refl w3.heap.size w3).alloc (Nat.le_refl _) _).size _).drew
  have q20 : ((w3.alloc (.cells (madeCells #[.bool false, .slice none 0 0] ((c.d + c.s) * 2)) 58)).alloc (.cells #[.int .i64 0, .int .i64 0, .int .i64 0, .slice none 0 0, .int .i64 0, .slice none 0 0, .slice none 0 0, .int .i64 0, .slice none 0 0] 32)).drew.cell? ⟨w.heap.size, 0, none⟩ = some (.int .i64 (c.d : Int)) := (VS3.below bq2).cell (i := 0) rfl
  have q21 : ((w3.alloc (.cells (madeCells #[.bool false, .slice none 0 0] ((c.d + c.s) * 2)) 58)).alloc (.cells #[.int .i64 0, .int .i64 0, .int .i64 0, .slice none 0 0, .int .i64 0, .slice none 0 0, .slice none 0 0, .int .i64 0, .slice none 0 0] 32)).drew.cell? ⟨w.heap.size, 1, none⟩ = some (.int .i64 (c.s : Int)) := (VS3.below bq2).cell (i := 1) rfl
  have q22 : ((w3.alloc (.cells (madeCells #[.bool false, .slice none 0 0] ((c.d + c.s) * 2)) 58)).alloc (.cells #[.int .i64 0, .int .i64 0, .int .i64 0, .slice none 0 0, .int .i64 0, .slice none 0 0, .slice none 0 0, .int .i64 0, .slice none 0 0] 32)).drew.cell? ⟨w.heap.size, 2, none⟩ = some (.int .i64 (c.b : Int)) := (VS3.below bq2).cell (i := 2) rfl
  go_upto_region 6 with fail
  go_cut [8] from 24 to 31 (fun p8 wx => ∃ R D, p8 = .pointer (some ⟨R, 0, none⟩) ∧ StNewJ w3 wx c R D)
  case first =>
    go_region
    all_goals go_wp2_with fail
    all_goals go_meet
    · exact ⟨_, _, rfl, stNewJ_1 w3 c⟩
    · exact ⟨_, _, rfl, stNewJ_2 w3 c⟩
  case rest =>
    obtain ⟨R, D, rfl, hN⟩ := hcut
    obtain ⟨w4, hw4⟩ : ∃ y, y = wc := ⟨wc, rfl⟩
    rw [← hw4] at hN ⊢
    have h03 := b03.size
    have hT3 : w.heap.size + 1 < w3.heap.size := RowC.lt VT3
    have hgR := hN.geR
    have hgD := hN.geD
    have hRD : D ≠ R := fun z => absurd rfl ((z ▸ hN.row.ty).ne hN.var.ty (by decide))
    have hl12 : (Sto.start c).disks.length = c.d + c.s := List.length_replicate ..
    have H0 : PlI w w4 c R (w.heap.size + 1) (.slice (some ⟨D, 0, none⟩) (c.d + c.s) (c.d + c.s)) (.slice none 0 0) (.slice none 0 0) (.slice none 0 0) (.slice none 0 0) (Sto.start c) [] [] := by
      refine ⟨⟨?_, ?_, ?_, Accs.nil _⟩, plainV_nil, hN.var, VT3.below hN.bel, World.ownsRow_nil _ _ _ _, rfl, fun i q a hq => (by cases hq), bt b03 hN.bel, by omega, (fun z => by cases z), (fun z => by cases z), by omega, by omega⟩
      · refine ⟨_, _, by rw [hl12], by rw [hl12]; exact Nat.le_refl _, by unfold maxLen; omega, fun i x hx => ⟨D, 0, rfl, .slice none 0 0, ?_, ?_, ?_⟩⟩
        · have hi := (List.getElem?_eq_some_iff.1 hx).1
          rw [hl12] at hi
          rw [blank_cell (by
            cases e : plT R (w.heap.size + 1) (.slice none 0 0) D with
            | false => rfl
            | true =>
              rcases plT_iff.1 e with z | z | z
              · exact absurd z hRD
              · omega
              · cases z), Nat.zero_add, hN.row.cell (by omega)]
          have hx : (List.replicate (c.d + c.s) (⟨false, []⟩ : Sto.Disk))[i]? = some x := hx
          have hxe := List.eq_of_mem_replicate (List.mem_of_getElem? hx)
          unfold dkF
          rw [if_pos (by omega), show i * 2 / 2 = i by omega, List.getD_eq_getElem?_getD, hx]
          rfl
        · have hi := (List.getElem?_eq_some_iff.1 hx).1
          rw [hl12] at hi
          rw [blank_cell (by
            cases e : plT R (w.heap.size + 1) (.slice none 0 0) D with
            | false => rfl
            | true =>
              rcases plT_iff.1 e with z | z | z
              · exact absurd z hRD
              · omega
              · cases z), Nat.zero_add, hN.row.cell (by omega)]
          unfold dkF
          rw [if_neg (by omega)]
        · have hx : (List.replicate (c.d + c.s) (⟨false, []⟩ : Sto.Disk))[i]? = some x := hx
          rw [List.eq_of_mem_replicate (List.mem_of_getElem? hx)]
          exact ⟨none, 0, rfl, Nat.le_refl _, Nat.zero_le _, fun _ _ z => (by cases z)⟩
      · exact ⟨none, 0, rfl, Nat.le_refl _, Nat.zero_le _, fun _ _ z => (by cases z)⟩
      · exact ⟨none, 0, rfl, Nat.le_refl _, Nat.zero_le _, fun _ _ z => (by cases z)⟩
    have HWF0 : Hid (WfJ c (Sto.start c)) := wfj_start h1 h2 h3 h4 h5
    have hC' : C ≤ 9223372036854775807 := by unfold maxLen at hc2; exact hc2
    have HPI0 : Hid (PlI w w4 c R (w.heap.size + 1) (.slice (some ⟨D, 0, none⟩) (c.d + c.s) (c.d + c.s)) (.slice none 0 0) (.slice none 0 0) (.slice none 0 0) (.slice none 0 0) (Sto.start c) [] []) := H0
    clear hw4 hN H0 VS3 VT3 b03 s0 s1 s2 hmk hwr hw64 VS VT b2 b3 h03 hT3 r0 r1 r2 bR bq0 bq1 bq2 q00 q01 q02 q10 q11 q12 q20 q21 q22 h1 h2 h3 h4 h5 hc2 hgR hgD hRD hl12
    go_wp2_with fail
    go_loopw [9, 34] (fun y x wr => ∃ (k : Nat) (vd vt vs va : Value) (qs : List AnC), k ≤ l.length ∧ x = .int .i64 k ∧ Hid (PlI w wr c R (w.heap.size + 1) vd vt vs va y (Sto.steps X c (Sto.start c) (l.take k)).1 qs (Sto.steps X c (Sto.start c) (l.take k)).2) ∧ Hid (WfJ c (Sto.steps X c (Sto.start c) (l.take k)).1)) (fun _ x _ => l.length - (intOf x).toNat)
    case atStart => exact ⟨0, _, _, _, _, [], Nat.zero_le _, rfl, HPI0, HWF0⟩
    case round =>
      obtain ⟨k, vd, vt, vs, va, qs, hk, rfl, HPI, HWF⟩ := hrel
      obtain ⟨Ad, nd, Cd, rfl⟩ := dks_shape HPI.out.st.dk
      obtain ⟨At, nt, Ct, rfl⟩ := bats_shape HPI.out.st.tl
      obtain ⟨As, ns, Cs, rfl⟩ := nms_shape HPI.out.st.sn
      obtain ⟨Aa, na, Ca, rfl⟩ := accs_shape HPI.out.st.ac
      by_cases hlt : k < l.length
      · have hlt' : (k : Int) < (l.length : Int) := by omega
        obtain ⟨d, hd⟩ : ∃ d, l[k]? = some d := ⟨l[k], List.getElem?_eq_getElem hlt⟩
        have hS1 := Sto.steps_next (X := X) (c := c) (s := Sto.start c) hd
        have hS2 : (Sto.steps X c (Sto.start c) (l.take (k + 1))).2 = (Sto.steps X c (Sto.start c) (l.take k)).2 ++ [(Sto.step X c (Sto.steps X c (Sto.start c) (l.take k)).1 d).2] := by
          rw [List.take_add_one, hd, Sto.steps_append]
          rfl
        have hqn : qs.length ≤ 80 := by
          rw [HPI.out.len, Sto.steps_length, List.length_take]
          omega
        have HWN : Hid (WfJ c (Sto.step X c (Sto.steps X c (Sto.start c) (l.take k)).1 d).1) := wfj_step HX.out HWF.out d
        obtain ⟨b, o, rfl, ve, t, hdin, hcs⟩ := HDO.out k d hd
        obtain ⟨Ae, ne, Ce, rfl⟩ : ∃ A n C, ve = .slice A n C := by
          obtain ⟨A, C, h⟩ := hdin.evs.shape
          exact ⟨A, _, C, h⟩
        have hb := HPI.out.bel
        have g0 : wr.cell? ⟨b, o + k * 9, none⟩ = some (.int .i64 d.kind) := (hb.cell (p := ⟨b, o + k * 9, none⟩) (World.block_lt_of_cell? _ _ (hcs 0 _ rfl))).trans (hcs 0 _ rfl)
        have g1 : wr.cell? ⟨b, o + k * 9 + 1, none⟩ = some (.int .i64 d.n) := (hb.cell (p := ⟨b, o + k * 9 + 1, none⟩) (World.block_lt_of_cell? _ _ (hcs 1 _ rfl))).trans (hcs 1 _ rfl)
        have g2 : wr.cell? ⟨b, o + k * 9 + 2, none⟩ = some (.int .i64 d.seg) := (hb.cell (p := ⟨b, o + k * 9 + 2, none⟩) (World.block_lt_of_cell? _ _ (hcs 2 _ rfl))).trans (hcs 2 _ rfl)
        have g3 : wr.cell? ⟨b, o + k * 9 + 3, none⟩ = some (.int .i64 d.pos) := (hb.cell (p := ⟨b, o + k * 9 + 3, none⟩) (World.block_lt_of_cell? _ _ (hcs 3 _ rfl))).trans (hcs 3 _ rfl)
        have g4 : wr.cell? ⟨b, o + k * 9 + 4, none⟩ = some (.int .u8 (d.turn : Int)) := (hb.cell (p := ⟨b, o + k * 9 + 4, none⟩) (World.block_lt_of_cell? _ _ (hcs 4 _ rfl))).trans (hcs 4 _ rfl)
        have g5 : wr.cell? ⟨b, o + k * 9 + 5, none⟩ = some (.int .i64 d.bat.cmd) := (hb.cell (p := ⟨b, o + k * 9 + 5, none⟩) (World.block_lt_of_cell? _ _ (hcs 5 _ rfl))).trans (hcs 5 _ rfl)
        have g6 : wr.cell? ⟨b, o + k * 9 + 6, none⟩ = some (.slice Ae ne Ce) := (hb.cell (p := ⟨b, o + k * 9 + 6, none⟩) (World.block_lt_of_cell? _ _ (hcs 6 _ rfl))).trans (hcs 6 _ rfl)
        have g7 : wr.cell? ⟨b, o + k * 9 + 7, none⟩ = some (.string t) := (hb.cell (p := ⟨b, o + k * 9 + 7, none⟩) (World.block_lt_of_cell? _ _ (hcs 7 _ rfl))).trans (hcs 7 _ rfl)
        have g8 : wr.cell? ⟨b, o + k * 9 + 8, none⟩ = some (.int .i64 d.ver) := (hb.cell (p := ⟨b, o + k * 9 + 8, none⟩) (World.block_lt_of_cell? _ _ (hcs 8 _ rfl))).trans (hcs 8 _ rfl)
        have HS1 : Hid ((Sto.steps X c (Sto.start c) (l.take (k + 1))).1 = (Sto.step X c (Sto.steps X c (Sto.start c) (l.take k)).1 d).1) := hS1
        have HS2 : Hid ((Sto.steps X c (Sto.start c) (l.take (k + 1))).2 = (Sto.steps X c (Sto.start c) (l.take k)).2 ++ [(Sto.step X c (Sto.steps X c (Sto.start c) (l.take k)).1 d).2]) := hS2
        generalize (Sto.steps X c (Sto.start c) (l.take k)).1 = s at *
        generalize (Sto.steps X c (Sto.start c) (l.take k)).2 = al at *
        have b5 : Below wr.heap.size wr (wr.alloc (.cells #[.int .i64 d.kind, .int .i64 d.n, .int .i64 d.seg, .int .i64 d.pos, .int .u8 (d.turn : Int), .int .i64 d.bat.cmd, .slice Ae ne Ce, .string t, .int .i64 d.ver] 49)) := (Below.refl _ _).alloc (Nat.le_refl _) _
        have VD := varN_new wr #[.int .i64 d.kind, .int .i64 d.n, .int .i64 d.seg, .int .i64 d.pos, .int .u8 (d.turn : Int), .int .i64 d.bat.cmd, .slice Ae ne Ce, .string t, .int .i64 d.ver] 49
        have hP5 := HPI.out.below b5
        have hge := hP5.ge
        have HC := refStep_any (X := X) (T := plT R (w.heap.size + 1) u9) (w := wr.alloc (.cells #[.int .i64 d.kind, .int .i64 d.n, .int .i64 d.seg, .int .i64 d.pos, .int .u8 (d.turn : Int), .int .i64 d.bat.cmd, .slice Ae ne Ce, .string t, .int .i64 d.ver] 49)) (d := d) (s := s) (c := c) (t := t) ⟨HX.out, hP5.st, HWF.out, hdin.sub (fun p u hp => by
          have hlt := World.block_lt_of_cell? _ _ hp
          rw [blank_cell (by
            cases e : plT R (w.heap.size + 1) u9 p.block with
            | false => rfl
            | true =>
              rcases plT_iff.1 e with z | z | z
              · omega
              · omega
              · have := (hP5.own.lt _ z).1
                omega)]
          exact CSub.of_below (bt hb b5) p u hp), hP5.pv, hP5.low⟩
        clear hS1 hS2 hd hdin hcs hb
        go_upto_region 11 with fail
        obtain ⟨w5, hw5⟩ : ∃ q, q = wr.alloc (.cells #[.int .i64 d.kind, .int .i64 d.n, .int .i64 d.seg, .int .i64 d.pos, .int .u8 (d.turn : Int), .int .i64 d.bat.cmd, .slice Ae ne Ce, .string t, .int .i64 d.ver] 49) := ⟨_, rfl⟩
        rw [← hw5] at VD hP5 HC ⊢
        obtain ⟨QD, hQD⟩ : ∃ q, q = wr.heap.size := ⟨_, rfl⟩
        rw [← hQD] at VD ⊢
        obtain ⟨p0, p1, p2, p3, p4, p5, p6, p7, p8⟩ := hP5.vP.c9
        obtain ⟨e0, e1, e2, e3, e4, e5, e6, e7, e8⟩ := VD.c9
        have HP5 : Hid (PlI w w5 c R (w.heap.size + 1) (.slice Ad nd Cd) (.slice At nt Ct) (.slice As ns Cs) (.slice Aa na Ca) u9 s qs al) := hP5
        clear hw5 hQD b5 hP5 VD g0 g1 g2 g3 g4 g5 g6 g7 g8 HPI
        go_wp2_with fail
        refine HC.mono ?_
        rintro e w6 ⟨vd6, vt6, vs6, va6, ve6, vl6, rfl, hst, hev, hac, hpl, b6⟩
        obtain ⟨B1, m1, K1, rfl⟩ := dks_shape hst.dk
        obtain ⟨B2, m2, K2, rfl⟩ := bats_shape hst.tl
        obtain ⟨B3, m3, K3, rfl⟩ := nms_shape hst.sn
        obtain ⟨B4, m4, K4, rfl⟩ := accs_shape hst.ac
        obtain ⟨B5, m5, K5, rfl⟩ : ∃ A n C, ve6 = .slice A n C := by
          obtain ⟨A, C, h⟩ := hev.shape
          exact ⟨A, _, C, h⟩
        obtain ⟨B6, m6, K6, rfl⟩ := accs_shape hac
        generalize Sto.step X c s d = rs at *
        obtain ⟨s', a⟩ := rs
        have HST6 : Hid (StIn (blank (plT R (w.heap.size + 1) u9) w6) (.slice B1 m1 K1) (.slice B2 m2 K2) (.slice B3 m3 K3) (.slice B4 m4 K4) s') := hst
        have HEV6 : Hid (Evs (blank (plT R (w.heap.size + 1) u9) w6) (.slice B5 m5 K5) a.evs ∧ Accs (blank (plT R (w.heap.size + 1) u9) w6) (.slice B6 m6 K6) a.vl ∧ PlainV (.slice B3 m3 K3)) := ⟨hev, hac, hpl⟩
        have HP6 : Hid (PlI w w6 c R (w.heap.size + 1) (.slice Ad nd Cd) (.slice At nt Ct) (.slice As ns Cs) (.slice Aa na Ca) u9 s qs al) := HP5.out.below b6
        have b7 : Below w6.heap.size w6 (w6.alloc (.cells #[.int .i64 (c.d : Int), .int .i64 (c.s : Int), .int .i64 (c.b : Int), .slice B1 m1 K1, .int .i64 (s'.segs : Int), .slice B2 m2 K2, .slice B3 m3 K3, .int .i64 s'.u, .slice B4 m4 K4] 32)) := (Below.refl _ _).alloc (Nat.le_refl _) _
        have b8 : Below (w6.alloc (.cells #[.int .i64 (c.d : Int), .int .i64 (c.s : Int), .int .i64 (c.b : Int), .slice B1 m1 K1, .int .i64 (s'.segs : Int), .slice B2 m2 K2, .slice B3 m3 K3, .int .i64 s'.u, .slice B4 m4 K4] 32)).heap.size (w6.alloc (.cells #[.int .i64 (c.d : Int), .int .i64 (c.s : Int), .int .i64 (c.b : Int), .slice B1 m1 K1, .int .i64 (s'.segs : Int), .slice B2 m2 K2, .slice B3 m3 K3, .int .i64 s'.u, .slice B4 m4 K4] 32)) ((w6.alloc (.cells #[.int .i64 (c.d : Int), .int .i64 (c.s : Int), .int .i64 (c.b : Int), .slice B1 m1 K1, .int .i64 (s'.segs : Int), .slice B2 m2 K2, .slice B3 m3 K3, .int .i64 s'.u, .slice B4 m4 K4] 32)).alloc (.cells #[.int .i64 (a.err : Nat), .int .i64 a.n, .slice B5 m5 K5, .int .i64 a.vu, .slice B6 m6 K6] 42)) := (Below.refl _ _).alloc (Nat.le_refl _) _
        have V7 := (varN_new w6 #[.int .i64 (c.d : Int), .int .i64 (c.s : Int), .int .i64 (c.b : Int), .slice B1 m1 K1, .int .i64 (s'.segs : Int), .slice B2 m2 K2, .slice B3 m3 K3, .int .i64 s'.u, .slice B4 m4 K4] 32).below b8
        have V8 := varN_new (w6.alloc (.cells #[.int .i64 (c.d : Int), .int .i64 (c.s : Int), .int .i64 (c.b : Int), .slice B1 m1 K1, .int .i64 (s'.segs : Int), .slice B2 m2 K2, .slice B3 m3 K3, .int .i64 s'.u, .slice B4 m4 K4] 32)) #[.int .i64 (a.err : Nat), .int .i64 a.n, .slice B5 m5 K5, .int .i64 a.vu, .slice B6 m6 K6] 42
        have hsz : (w6.alloc (.cells #[.int .i64 (c.d : Int), .int .i64 (c.s : Int), .int .i64 (c.b : Int), .slice B1 m1 K1, .int .i64 (s'.segs : Int), .slice B2 m2 K2, .slice B3 m3 K3, .int .i64 s'.u, .slice B4 m4 K4] 32)).heap.size = w6.heap.size + 1 := Array.size_push _
        rw [hsz] at V8
        have hRQ0 : R < w6.heap.size := RowC.lt HP6.out.vP
        have hP8 := (HP6.out.below b7).below b8
        have hst8 := (hst.sub (blank_below b7)).sub (blank_below b8)
        have hev8 := (hev.sub (blank_below b7)).sub (blank_below b8)
        have hac8 := (hac.sub (blank_below b7)).sub (blank_below b8)
        clear HC HP5 b6 b7 b8 hsz hst hev hac p0 p1 p2 p3 p4 p5 p6 p7 p8 e0 e1 e2 e3 e4 e5 e6 e7 e8 HST6 HEV6 HP6
        go_upto_region 12 with fail
        obtain ⟨w8, hw8⟩ : ∃ q, q = (w6.alloc (.cells #[.int .i64 (c.d : Int), .int .i64 (c.s : Int), .int .i64 (c.b : Int), .slice B1 m1 K1, .int .i64 (s'.segs : Int), .slice B2 m2 K2, .slice B3 m3 K3, .int .i64 s'.u, .slice B4 m4 K4] 32)).alloc (.cells #[.int .i64 (a.err : Nat), .int .i64 a.n, .slice B5 m5 K5, .int .i64 a.vu, .slice B6 m6 K6] 42) := ⟨_, rfl⟩
        rw [← hw8] at V7 V8 hP8 hst8 hev8 hac8 ⊢
        obtain ⟨QS, hQS⟩ : ∃ q, q = w6.heap.size := ⟨_, rfl⟩
        rw [← hQS] at V7 V8 hRQ0 ⊢
        obtain ⟨i0, i1, i2, i3, i4, i5, i6, i7, i8⟩ := V7.c9
        obtain ⟨p0, p1, p2, p3, p4, p5, p6, p7, p8⟩ := hP8.vP.c9
        have hRQ : ¬ QS = R := by omega
        have hRQ1 : ¬ QS + 1 = R := by omega
        have f0 := hP8.vP.frozen 0
        have f1 := hP8.vP.frozen 1
        have f2 := hP8.vP.frozen 2
        have f3 := hP8.vP.frozen 3
        have f4 := hP8.vP.frozen 4
        have f5 := hP8.vP.frozen 5
        have f6 := hP8.vP.frozen 6
        have f7 := hP8.vP.frozen 7
        have f8 := hP8.vP.frozen 8
        clear hw8 hQS
        go_upto_region 13 with fail
        obtain ⟨w9, hw9⟩ : ∃ q, q = (((((((((w8.setCell ⟨R, 0, none⟩ (.int .i64 (c.d : Int))).setCell ⟨R, 1, none⟩ (.int .i64 (c.s : Int))).setCell ⟨R, 2, none⟩ (.int .i64 (c.b : Int))).setCell ⟨R, 3, none⟩ (.slice B1 m1 K1)).setCell ⟨R, 4, none⟩ (.int .i64 (s'.segs : Int))).setCell ⟨R, 5, none⟩ (.slice B2 m2 K2)).setCell ⟨R, 6, none⟩ (.slice B3 m3 K3)).setCell ⟨R, 7, none⟩ (.int .i64 s'.u)).setCell ⟨R, 8, none⟩ (.slice B4 m4 K4)) := ⟨_, rfl⟩
        rw [← hw9]
        have o9 : Off (fun k => k = R) w8 w9 := by
          rw [hw9]
          exact off_nine _ _ _ _ _ _ _ _ _ _ _
        have vP9 : VarN w9 R 32 (stL c (.slice B1 m1 K1) (s'.segs : Int) (.slice B2 m2 K2) (.slice B3 m3 K3) s'.u (.slice B4 m4 K4)) := by
          rw [hw9]
          exact var_nine hP8.vP _ _ _ _ _ _ _ _ _
        have hP9 := hP8.store o9 vP9 hst8 hpl
        have hc9 : CSub (blank (plT R (w.heap.size + 1) u9) w8) (blank (plT R (w.heap.size + 1) u9) w9) := blank_one (plT_iff.2 (Or.inl rfl)) o9
        obtain ⟨v', w', hrun, hP'⟩ := hP9.app (a.err, a.n, (B5, m5, K5), a.vu, (B6, m6, K6)) a ⟨rfl, rfl, rfl, hev8.sub hc9, hac8.sub hc9⟩ (by omega)
        have hrun : (Builtin.append_ #[33, 33] 33 #[u9, .slice (some ⟨w9.heap.size, 0, none⟩) 1 1]).run Tryz.prog (w9.alloc (.cells #[.int .i64 (a.err : Nat), .int .i64 a.n, .slice B5 m5 K5, .int .i64 a.vu, .slice B6 m6 K6] 42)) = .ok v' w' := hrun
        have V9 := V8.off o9 hRQ1
        have y0 := V9.cell (i := 0) rfl
        have y1 := V9.cell (i := 1) rfl
        have y2 := V9.cell (i := 2) rfl
        have y3 := V9.cell (i := 3) rfl
        have y4 := V9.cell (i := 4) rfl
        have HPN : Hid (PlI w w' c R (w.heap.size + 1) (.slice B1 m1 K1) (.slice B2 m2 K2) (.slice B3 m3 K3) (.slice B4 m4 K4) v' (Sto.steps X c (Sto.start c) (l.take (k + 1))).1 (qs ++ [(a.err, a.n, (B5, m5, K5), a.vu, (B6, m6, K6))]) (Sto.steps X c (Sto.start c) (l.take (k + 1))).2) := by
          have := hP'
          show PlI _ _ _ _ _ _ _ _ _ _ (Sto.steps X c (Sto.start c) (l.take (k + 1))).1 _ (Sto.steps X c (Sto.start c) (l.take (k + 1))).2
          rw [HS1.out, HS2.out]
          exact this
        have HWF' : Hid (WfJ c (Sto.steps X c (Sto.start c) (l.take (k + 1))).1) := by
          show WfJ c (Sto.steps X c (Sto.start c) (l.take (k + 1))).1
          rw [HS1.out]
          exact HWN.out
        clear hw9 o9 vP9 hP9 hc9 hP' V9 V7 V8 hP8 hst8 hev8 hac8 hpl HS1 HS2 HWN HWF i0 i1 i2 i3 i4 i5 i6 i7 i8 p0 p1 p2 p3 p4 p5 p6 p7 p8 f0 f1 f2 f3 f4 f5 f6 f7 f8
        go_wp2_with (at_builtin; refine Lib.wpList_append_run _ rfl _ _ _ _ rfl _ _ rfl rfl _ _ hrun ?_)
        exact ⟨⟨k + 1, _, _, _, _, _, by omega, by go_num, HPN, HWF'⟩, by simp [intOf]; omega⟩
      · obtain rfl : k = l.length := by omega
        rw [List.take_length] at HPI
        have hP := HPI.out
        obtain ⟨s, al, hrs⟩ : ∃ s al, Sto.steps X c (Sto.start c) l = (s, al) := ⟨_, _, rfl⟩
        have HRS : Hid (Sto.steps X c (Sto.start c) l = (s, al)) := hrs
        rw [hrs] at hP
        dsimp only at hP
        obtain ⟨p0, p1, p2, p3, p4, p5, p6, p7, p8⟩ := hP.vP.c9
        have hpr : ¬ R = w.heap.size + 1 := hP.pr
        have x0 := hP.vR.cell (i := 0) rfl
        have x1 := hP.vR.cell (i := 1) rfl
        have x2 := hP.vR.cell (i := 2) rfl
        have x3 := hP.vR.cell (i := 3) rfl
        have x4 := hP.vR.cell (i := 4) rfl
        have x5 := hP.vR.cell (i := 5) rfl
        have x6 := hP.vR.cell (i := 6) rfl
        have x7 := hP.vR.cell (i := 7) rfl
        have x8 := hP.vR.cell (i := 8) rfl
        have f0 := hP.vR.frozen 0
        have f1 := hP.vR.frozen 1
        have f2 := hP.vR.frozen 2
        have f3 := hP.vR.frozen 3
        have f4 := hP.vR.frozen 4
        have f5 := hP.vR.frozen 5
        have f6 := hP.vR.frozen 6
        have f7 := hP.vR.frozen 7
        have f8 := hP.vR.frozen 8
        have HTO : Hid (∀ wE, Off (fun k => k = w.heap.size + 1) wr wE → PlayJ (.returned (.tuple #[.agg #[.int .i64 (c.d : Int), .int .i64 (c.s : Int), .int .i64 (c.b : Int), .slice Ad nd Cd, .int .i64 (s.segs : Int), .slice At nt Ct, .slice As ns Cs, .int .i64 s.u, .slice Aa na Ca], u9, .int .i64 0])) w wE c (s, al)) := fun wE ho => by
          obtain ⟨q1, q2, q3⟩ := hP.told ho
          exact ⟨_, _, _, _, _, rfl, q1, q2, q3⟩
        obtain ⟨A9, C9, hv9, _⟩ := row_shape hP.own
        subst hv9
        clear HPI hP HWF HDO HX hrs
        go_wp2_with fail
        refine bodyPost_ret (v := .tuple #[.agg #[.int .i64 (c.d : Int), .int .i64 (c.s : Int), .int .i64 (c.b : Int), .slice Ad nd Cd, .int .i64 (s.segs : Int), .slice At nt Ct, .slice As ns Cs, .int .i64 s.u, .slice Aa na Ca], .slice A9 qs.length C9, .int .i64 0]) (by simp [results, Tryz.results5, go_sem, x0, x1, x2, x3, x4, x5, x6, x7, x8]) rfl ?_
        rw [HRS.out]
        exact HTO.out _ (off_nine _ _ _ _ _ _ _ _ _ _ _)

end Go.Proofs.YtmcaejooaaahdaaGreat
