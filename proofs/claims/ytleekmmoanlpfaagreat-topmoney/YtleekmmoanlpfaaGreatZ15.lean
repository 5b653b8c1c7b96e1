/-
  Texts of the proof, joined: XBatch, XApp.
-/
import Derived.Test.YtleekmmoanlpfaaGreatZ14
import Derived.Lib.AppendStr
namespace Go.Proofs.YtleekmmoanlpfaaGreat
open Go.RowKit

set_option maxHeartbeats 1000000 in
theorem wrongB_any (c : Int) (vs : Value) (es : List Evt.Ev) (w : World) (h : Evs w vs es) :
    Calls Tryz.prog 36 #[.agg #[.int .i64 c, vs]] w fun e w' => e = .returned (.agg #[.int .i64 ((Evt.wrongB ⟨c, es⟩).1 : Nat), .int .i64 ((Evt.wrongB ⟨c, es⟩).2 : Nat)]) ∧ Below w.heap.size w w' := by
  obtain ⟨A, C, rfl⟩ := h.shape
  have hb0 : Below w.heap.size w (w.alloc (.cells #[.int .i64 c, .slice A es.length C] 27)) := (Below.refl _ _).alloc (Nat.le_refl _) _
  have hb1 : Below w.heap.size w ((w.alloc (.cells #[.int .i64 c, .slice A es.length C] 27)).alloc (.cells #[.int .i64 0, .int .i64 0] 80)) := hb0.alloc hb0.size _
  by_cases q0 : c < 1
  · have H : Hid (Evt.wrongB ⟨c, es⟩ = (3, 0)) := Evt.wrongB_range (Or.inl q0)
    go_enter Tryz.func36, Tryz.ntmps36
    go_wp2_with fail
    refine bodyPost_ret (v := .agg #[.int .i64 3, .int .i64 0]) (by simp [results, Tryz.results36, go_sem]) rfl ⟨by rw [H.out]; rfl, ?_⟩
    exact hb0.alloc hb0.size _
  by_cases q1 : 1000000 < c
  · have H : Hid (Evt.wrongB ⟨c, es⟩ = (3, 0)) := Evt.wrongB_range (Or.inr q1)
    go_enter Tryz.func36, Tryz.ntmps36
    go_wp2_with fail
    refine bodyPost_ret (v := .agg #[.int .i64 3, .int .i64 0]) (by simp [results, Tryz.results36, go_sem]) rfl ⟨by rw [H.out]; rfl, ?_⟩
    exact hb0.alloc hb0.size _
  have hk : Hid (¬ (c < 1 ∨ 1000000 < c)) := show ¬ (_ ∨ _) by omega
  by_cases q2 : es.length = 0
  · have H : Hid (Evt.wrongB ⟨c, es⟩ = (5, 0)) := Evt.wrongB_many hk.out (Or.inl q2)
    have g2 : (es.length : Int) < 1 := by omega
    clear q2
    go_enter Tryz.func36, Tryz.ntmps36
    go_wp2_with fail
    refine bodyPost_ret (v := .agg #[.int .i64 5, .int .i64 0]) (by simp [results, Tryz.results36, go_sem]) rfl ⟨by rw [H.out]; rfl, ?_⟩
    exact hb0.alloc hb0.size _
  have g2 : ¬ (es.length : Int) < 1 := by omega
  by_cases q3 : 10 < es.length
  · have H : Hid (Evt.wrongB ⟨c, es⟩ = (5, 0)) := Evt.wrongB_many hk.out (Or.inr q3)
    have g3 : (10 : Int) < (es.length : Int) := by omega
    go_enter Tryz.func36, Tryz.ntmps36
    go_wp2_with fail
    refine bodyPost_ret (v := .agg #[.int .i64 5, .int .i64 0]) (by simp [results, Tryz.results36, go_sem]) rfl ⟨by rw [H.out]; rfl, ?_⟩
    exact hb0.alloc hb0.size _
  have g3 : ¬ (10 : Int) < (es.length : Int) := by omega
  have HE : Hid (Evt.wrongB ⟨c, es⟩ = Evt.firstE es 0) := Evt.wrongB_else hk.out (show ¬ (es.length = 0 ∨ 10 < es.length) by omega)
  obtain ⟨b, o, C', hv, hc1, hc2, hc⟩ := h.some (by omega)
  cases hv
  have VF := varF_new (w.alloc (.cells #[.int .i64 c, .slice (some ⟨b, o, none⟩) es.length C] 27)) 80 (.int .i64 0) (.int .i64 0)
  have szx : (w.alloc (.cells #[.int .i64 c, .slice (some ⟨b, o, none⟩) es.length C] 27)).heap.size = w.heap.size + 1 := by simp
  rw [szx] at VF
  clear szx
  go_enter Tryz.func36, Tryz.ntmps36
  go_wp2_with fail
  generalize (w.alloc (.cells #[.int .i64 c, .slice (some ⟨b, o, none⟩) es.length C] 27)).alloc (.cells #[.int .i64 0, .int .i64 0] 80) = W0 at hb1 VF ⊢
  go_loopw [29] (fun x wr => ∃ k : Nat, k ≤ es.length ∧ x = .int .i64 k ∧ Hid (∀ j, j < k → ∃ e, es[j]? = some e ∧ Evt.wrongE e = 0) ∧ Below W0.heap.size W0 wr) (fun x _ => es.length - (intOf x).toNat)
  case atStart => exact ⟨0, Nat.zero_le _, rfl, fun j hj => absurd hj (Nat.not_lt_zero j), Below.refl _ _⟩
  case round =>
    obtain ⟨k, hkl, rfl, HS, hbr⟩ := hrel
    have bz := bt hb1 hbr
    by_cases hlt : k < es.length
    · have hlt' : (k : Int) < (es.length : Int) := by omega
      obtain ⟨ev, hev⟩ : ∃ ev, es[k]? = some ev := ⟨es[k], List.getElem?_eq_getElem hlt⟩
      have HEV : Hid (es[k]? = some ev) := hev
      obtain ⟨s, hs1, hs2, d0, d1, d2⟩ := (hc k ev hev).below bz
      have HNM : Hid (nb s = ev.name) := hs2
      have HW := wrongE_any s ev.kind ev.num (wr.alloc (.cells #[.string s, .int .i64 ev.kind, .int .i64 ev.num] 32)) hs1
      have HQ : Hid (Evt.wrongE ⟨nb s, ev.kind, ev.num⟩ = Evt.wrongE ev) := by
        show Evt.wrongE _ = _
        rw [hs2]
      clear hev hs2 hc
      rw [HQ.out] at HW
      have bA : Below wr.heap.size wr (wr.alloc (.cells #[.string s, .int .i64 ev.kind, .int .i64 ev.num] 32)) := (Below.refl _ _).alloc (Nat.le_refl _) _
      by_cases hE : Evt.wrongE ev = 0
      · have HE0 : Hid (Evt.wrongE ev = 0) := hE
        rw [hE] at HW
        clear hE
        go_wp2_with fail
        refine HW.mono ?_
        rintro e w1 ⟨rfl, b1⟩
        have b1 := bt bA b1
        clear HW
        go_wp2_with fail
        refine ⟨⟨k + 1, by omega, by go_num, fun j hj => ?_, bt hbr b1⟩, by simp [intOf]; omega⟩
        by_cases e : j = k
        · rw [e]; exact ⟨ev, HEV.out, HE0.out⟩
        · exact HS.out j (by omega)
      · have HE1 : Hid (Evt.firstE es 0 = (Evt.wrongE ev, k)) := Evt.firstE_some es k ev HEV.out hE HS.out
        generalize Evt.wrongE ev = x at HW HE1 hE
        have hx' : ((x : Int) == 0) = false := by rw [beq_eq_false_iff_ne]; omega
        have hxn : ((x : Int) != 0) = true := by rw [bne, hx']; rfl
        clear hE
        go_wp2_with fail
        refine HW.mono ?_
        rintro e w1 ⟨rfl, b1⟩
        have b1 := bt bA b1
        obtain ⟨c0, c1, fr⟩ := (VF.below hbr).below b1
        have f0 := fr 0
        have f1 := fr 1
        clear HW
        go_wp2_with fail
        refine bodyPost_ret (v := .agg #[.int .i64 (x : Nat), .int .i64 (k : Nat)]) (by simp [results, Tryz.results36, go_sem, c0, c1]) rfl ⟨by rw [HE.out, HE1.out], ?_⟩
        exact ((bt bz b1).setCell (Nat.le_succ _) _).setCell (Nat.le_succ _) _
    · obtain rfl : k = es.length := by omega
      have HZ : Hid (Evt.firstE es 0 = (0, 0)) := Evt.firstE_none es 0 (fun e he => by
        obtain ⟨j, hj, rfl⟩ := List.mem_iff_getElem.1 he
        obtain ⟨e', h1, h2⟩ := HS.out j hj
        rw [List.getElem?_eq_getElem hj, Option.some.injEq] at h1
        rw [h1]
        exact h2)
      obtain ⟨c0, c1, fr⟩ := VF.below hbr
      have f0 := fr 0
      have f1 := fr 1
      clear hc
      go_wp2_with fail
      refine bodyPost_ret (v := .agg #[.int .i64 0, .int .i64 0]) (by simp [results, Tryz.results36, go_sem, c0, c1]) rfl ⟨by rw [HE.out, HZ.out]; rfl, ?_⟩
      exact (bz.setCell (Nat.le_succ _) _).setCell (Nat.le_succ _) _

theorem Bats.shape {w : World} {v : Value} {l : List Evt.Bat} (h : Bats w v l) : ∃ A C, v = .slice A l.length C := by
  obtain ⟨A, C, hv, _⟩ := h
  exact ⟨A, C, hv⟩
theorem Bats.len {w : World} {v : Value} {l : List Evt.Bat} (h : Bats w v l) : l.length ≤ 9223372036854775807 := by
  obtain ⟨A, C, hv, h1, h2, _⟩ := h
  unfold maxLen at h2
  omega
theorem wrongL_many {l : List Evt.Bat} (h : 150 < l.length) : Evt.wrongL l = (5, 0) := if_pos h
theorem wrongL_else {l : List Evt.Bat} (h : ¬ 150 < l.length) : Evt.wrongL l = Evt.firstB l 0 := if_neg h

set_option maxHeartbeats 1000000 in
theorem wrongL_any (v : Value) (l : List Evt.Bat) (w : World) (h : Bats w v l) :
    Calls Tryz.prog 79 #[v] w fun e w' => e = .returned (.agg #[.int .i64 ((Evt.wrongL l).1 : Nat), .int .i64 ((Evt.wrongL l).2 : Nat)]) ∧ Below w.heap.size w w' := by
  obtain ⟨A, C, rfl⟩ := h.shape
  have hl := h.len
  have hb1 : Below w.heap.size w (w.alloc (.cells #[.int .i64 0, .int .i64 0] 80)) := (Below.refl _ _).alloc (Nat.le_refl _) _
  by_cases q3 : 150 < l.length
  · have H : Hid (Evt.wrongL l = (5, 0)) := wrongL_many q3
    have g3 : (150 : Int) < (l.length : Int) := by omega
    go_enter Tryz.func79, Tryz.ntmps79
    go_wp2_with fail
    refine bodyPost_ret (v := .agg #[.int .i64 5, .int .i64 0]) (by simp [results, Tryz.results79, go_sem]) rfl ⟨by rw [H.out]; rfl, ?_⟩
    exact (Below.refl _ _).alloc (Nat.le_refl _) _
  have g3 : ¬ (150 : Int) < (l.length : Int) := by omega
  have HE : Hid (Evt.wrongL l = Evt.firstB l 0) := wrongL_else q3
  have VF := varF_new w 80 (.int .i64 0) (.int .i64 0)
  have hc : Hid (∀ i x, l[i]? = some x → ∃ b o, A = some ⟨b, o, none⟩ ∧ BatIn w b (o + i * 2) x) := by
    obtain ⟨A', C', hv, _, _, hc⟩ := h
    cases hv
    exact hc
  clear h
  go_enter Tryz.func79, Tryz.ntmps79
  go_wp2_with fail
  generalize w.alloc (.cells #[.int .i64 0, .int .i64 0] 80) = W0 at hb1 VF ⊢
  go_loopw [12] (fun x wr => ∃ k : Nat, k ≤ l.length ∧ x = .int .i64 k ∧ Hid (∀ j, j < k → ∃ e, l[j]? = some e ∧ (Evt.wrongB e).1 = 0) ∧ Below W0.heap.size W0 wr) (fun x _ => l.length - (intOf x).toNat)
  case atStart => exact ⟨0, Nat.zero_le _, rfl, fun j hj => absurd hj (Nat.not_lt_zero j), Below.refl _ _⟩
  case round =>
    obtain ⟨k, hkl, rfl, HS, hbr⟩ := hrel
    have bz := bt hb1 hbr
    by_cases hlt : k < l.length
    · have hlt' : (k : Int) < (l.length : Int) := by omega
      obtain ⟨x, hx⟩ : ∃ x, l[k]? = some x := ⟨l[k], List.getElem?_eq_getElem hlt⟩
      have HEV : Hid (l[k]? = some x) := hx
      obtain ⟨b, o, rfl, hin⟩ := hc.out k x hx
      obtain ⟨vs, d0, d1, he⟩ := hin.below bz
      have bA : Below wr.heap.size wr (wr.alloc (.cells #[.int .i64 x.cmd, vs] 27)) := (Below.refl _ _).alloc (Nat.le_refl _) _
      have HW := wrongB_any x.cmd vs x.evs _ (he.below bA)
      have HQ : Hid (Evt.wrongB ⟨x.cmd, x.evs⟩ = Evt.wrongB x) := rfl
      rw [HQ.out] at HW
      obtain ⟨As, Cs, rfl⟩ := he.shape
      clear hx hin he
      by_cases hE : (Evt.wrongB x).1 = 0
      · have HE0 : Hid ((Evt.wrongB x).1 = 0) := hE
        rw [hE] at HW
        generalize (Evt.wrongB x).2 = y at HW
        clear hE
        go_wp2_with fail
        refine HW.mono ?_
        rintro e w1 ⟨rfl, b1⟩
        have b1 := bt bA b1
        have b2 : Below wr.heap.size wr (w1.alloc (.cells #[.int .i64 0, .int .i64 (y : Nat)] 80)) := b1.alloc b1.size _
        clear HW
        go_wp2_with fail
        refine ⟨⟨k + 1, by omega, by go_num, fun j hj => ?_, bt hbr b2⟩, by simp [intOf]; omega⟩
        by_cases e : j = k
        · rw [e]; exact ⟨x, HEV.out, HE0.out⟩
        · exact HS.out j (by omega)
      · have HE1 : Hid (Evt.firstB l 0 = ((Evt.wrongB x).1, k)) := Evt.firstB_some l k x HEV.out hE HS.out
        generalize (Evt.wrongB x).1 = x1 at HW HE1 hE
        generalize (Evt.wrongB x).2 = y at HW
        have hx' : ((x1 : Int) == 0) = false := by rw [beq_eq_false_iff_ne]; omega
        have hxn : ((x1 : Int) != 0) = true := by rw [bne, hx']; rfl
        clear hE
        go_wp2_with fail
        refine HW.mono ?_
        rintro e w1 ⟨rfl, b1⟩
        have b1 := bt bA b1
        have b2 : Below wr.heap.size wr (w1.alloc (.cells #[.int .i64 (x1 : Nat), .int .i64 (y : Nat)] 80)) := b1.alloc b1.size _
        obtain ⟨c0, c1, fr⟩ := (VF.below hbr).below b2
        have f0 := fr 0
        have f1 := fr 1
        clear HW
        go_wp2_with fail
        refine bodyPost_ret (v := .agg #[.int .i64 (x1 : Nat), .int .i64 (k : Nat)]) (by simp [results, Tryz.results79, go_sem, c0, c1]) rfl ⟨by rw [HE.out, HE1.out], ?_⟩
        exact ((bt bz b2).setCell (Nat.le_refl _) _).setCell (Nat.le_refl _) _
    · obtain rfl : k = l.length := by omega
      have HZ : Hid (Evt.firstB l 0 = (0, 0)) := Evt.firstB_none l 0 (fun e he => by
        obtain ⟨j, hj, rfl⟩ := List.mem_iff_getElem.1 he
        obtain ⟨e', h1, h2⟩ := HS.out j hj
        rw [List.getElem?_eq_getElem hj, Option.some.injEq] at h1
        rw [h1]
        exact h2)
      obtain ⟨c0, c1, fr⟩ := VF.below hbr
      have f0 := fr 0
      have f1 := fr 1
      go_wp2_with fail
      refine bodyPost_ret (v := .agg #[.int .i64 0, .int .i64 0]) (by simp [results, Tryz.results79, go_sem, c0, c1]) rfl ⟨by rw [HE.out, HZ.out]; rfl, ?_⟩
      exact (bz.setCell (Nat.le_refl _) _).setCell (Nat.le_refl _) _

end Go.Proofs.YtleekmmoanlpfaaGreat

namespace Go.Proofs.YtleekmmoanlpfaaGreat
open Go.RowKit

theorem owns_nil (w : World) (N : Nat) : BufL w N (.slice none 0 0) [] := World.ownsRow_nil w N _ 1

theorem one_cell (w : World) (x : Value) : ∀ j u, [x][j]? = some u → (w.alloc (.cells #[x] 5)).cell? ((⟨w.heap.size, 0, none⟩ : Addr).add j) = some u := cells_new w #[x] 5
theorem one_u8 (a : Int) : ∀ u ∈ [Value.int .u8 a], u.oneCell' = true := by
  intro u hu
  simp at hu
  rw [hu]
  rfl
theorem BufL.one {w : World} {N : Nat} {v : Value} {bs : List Nat} {a : Int} {x : Nat} (h : w.ownsRow N 5 1 v (bs.length + 1) (clB bs ++ [.int .u8 a])) (e : a = (x : Int)) : BufL w N v (bs ++ [x]) :=
  BufL.more h (by rw [e]; rfl) rfl

/-- Of the blocks that were there none has turned but some of bytes, from block N on. -/
def OffB (N : Nat) (w w' : World) : Prop := Off (fun k => N ≤ k ∧ ∃ c z, w.heap[k]? = some (.cells c 5 z)) w w'
theorem OffB.refl (N : Nat) (w : World) : OffB N w w := Off.refl _ _
theorem OffB.trans {N : Nat} {a b c : World} (h : OffB N a b) (k : OffB N b c) : OffB N a c := Off.past h k (fun y hy hl => by
  refine Classical.byContradiction fun hn => hn ⟨hy.1, ?_⟩
  obtain ⟨_, c, z, e⟩ := hy
  exact ⟨c, z, by rw [← h.block y hl hn]; exact e⟩)
theorem OffB.of_below {N : Nat} {a b : World} (h : Below a.heap.size a b) : OffB N a b := Off.of_below h
theorem OffB.grown {N : Nat} {w w' : World} {v : Value} {n : Nat} {xs : List Value} (h : w.ownsRow N 5 1 v n xs) (hg : w.grownBy w' v.ownBlock) : OffB N w w' :=
  (off_of_grown hg).wider (fun k hk => ⟨(h.lt k hk).1, by
    obtain ⟨c, e⟩ := owns_heap h hk
    exact ⟨c, _, e⟩⟩)
theorem OffB.below {N : Nat} {w w' : World} (h : OffB N w w') (hN : N ≤ w.heap.size) : Below N w w' := Off.below h hN (fun _ hk => hk.1)
/-- A variable's block that is none of bytes. -/
structure Box (w : World) (p : Nat) (cs : Array Value) (t : TypeId) : Prop where
  hp : w.heap[p]? = some (.cells cs t (0, 0))
  ht : t ≠ 5
theorem Box.lt {w : World} {p : Nat} {cs : Array Value} {t : TypeId} (h : Box w p cs t) : p < w.heap.size := (Array.getElem?_eq_some_iff.1 h.hp).1
theorem Box.off {w w' : World} {N p : Nat} {cs : Array Value} {t : TypeId} (h : Box w p cs t) (ho : OffB N w w') : Box w' p cs t :=
  ⟨by
    rw [ho.block p h.lt (fun q => by
      obtain ⟨_, c, z, e⟩ := q
      rw [h.hp] at e
      cases e
      exact h.ht rfl)]
    exact h.hp, h.ht⟩
theorem box_new (w : World) (cs : Array Value) (t : TypeId) (ht : t ≠ 5) : Box (w.alloc (.cells cs t)) w.heap.size cs t := ⟨Deep.blk_alloc_new _ _, ht⟩
theorem Box.cell {w : World} {p : Nat} {cs : Array Value} {t : TypeId} (h : Box w p cs t) (i : Nat) (u : Value) (hu : cs[i]? = some u) : w.cell? ⟨p, i, none⟩ = some u := by
  obtain ⟨hi, rfl⟩ := Array.getElem?_eq_some_iff.1 hu
  have hr : w.rowIs p t cs.size (fun j => cs.getD j (.slice none 0 0)) := ⟨cs, h.hp, rfl, fun i hi => by simp [hi]⟩
  rw [hr.cell hi]
  simp [Array.getD, hi]
theorem Box.frozen {w : World} {p : Nat} {cs : Array Value} {t : TypeId} (h : Box w p cs t) (i : Nat) : w.frozen? ⟨p, i, none⟩ = false := by
  have hr : w.rowIs p t cs.size (fun j => cs.getD j (.slice none 0 0)) := ⟨cs, h.hp, rfl, fun i hi => by simp [hi]⟩
  exact hr.frozen i

set_option maxHeartbeats 400000 in
theorem app1_any (N n : Nat) (v : Value) (bs : List Nat) (w : World) (h : BufL w N v bs) (hN : N ≤ w.heap.size) (hb : bs.length ≤ 1000000) (hn : n < 256) :
    Calls Tryz.prog 80 #[v, .int .i64 (n : Int), .int .i64 1] w fun e w' => ∃ v', e = .returned v' ∧ BufL w' N v' (bs ++ [n]) ∧ OffB N w w' := by
  obtain ⟨i1, hi1, hh1⟩ := Option.map_eq_some_iff.1 Tryz.infoByte
  simp only [Prod.mk.injEq] at hh1
  obtain ⟨hy0, hy1, hy2⟩ := hh1
  have X1 : Below w.heap.size w (w.alloc (.cells #[.int .u8 (n : Int)] 5)) := (Below.refl _ _).alloc (Nat.le_refl _) _
  have HO : (w.alloc (.cells #[.int .u8 (n : Int)] 5)).ownsRow N 5 1 v bs.length (clB bs) := h.below X1
  have sX := Nat.le_trans hN X1.size
  go_enter Tryz.func80, Tryz.ntmps80
  go_wp2_with fail
  refine wp_loop_rounds 2 ?_
  rw [rounds_succ]
  go_wp2_with (at_builtin; go_loud (refine wpList_append_own _ rfl (.tmp 14) (.tmp 20) 97 rfl N 5 i1 (.int .u8 0) 1 1 Tryz.underlying97 hi1 hy0 hy1 hy2 rfl (by decide) _ _ _ rfl HO ⟨w.heap.size, 0, none⟩ 1 1 [.int .u8 (n : Int)] rfl rfl (one_cell w _) (one_u8 _) (by unfold maxLen; omega) (by omega) sX ?_; intro v1 w1 hown1 hgrow1 _))
  have HB : Hid (BufL w1 N v1 (bs ++ [n])) := BufL.one hown1 rfl
  have HW : Hid (OffB N w w1) := (OffB.of_below X1).trans (OffB.grown HO hgrow1)
  clear hown1 hgrow1 HO
  rw [rounds_succ]
  go_wp2_with fail
  go_ret
  exact ⟨_, rfl, HB.out, HW.out⟩

set_option maxHeartbeats 400000 in
theorem app3_any (N n : Nat) (v : Value) (bs : List Nat) (w : World) (h : BufL w N v bs) (hN : N ≤ w.heap.size) (hb : bs.length ≤ 1000000) (hn : n < 16777216) :
    Calls Tryz.prog 80 #[v, .int .i64 (n : Int), .int .i64 3] w fun e w' => ∃ v', e = .returned v' ∧ BufL w' N v' (bs ++ Evt.three n) ∧ OffB N w w' := by
  obtain ⟨i1, hi1, hh1⟩ := Option.map_eq_some_iff.1 Tryz.infoByte
  simp only [Prod.mk.injEq] at hh1
  obtain ⟨hy0, hy1, hy2⟩ := hh1
  have X1 : Below w.heap.size w (w.alloc (.cells #[.int .u8 ((n : Int) / 65536)] 5)) := (Below.refl _ _).alloc (Nat.le_refl _) _
  have HO : (w.alloc (.cells #[.int .u8 ((n : Int) / 65536)] 5)).ownsRow N 5 1 v bs.length (clB bs) := h.below X1
  have sX := Nat.le_trans hN X1.size
  go_enter Tryz.func80, Tryz.ntmps80
  go_wp2_with fail
  refine wp_loop_rounds 4 ?_
  rw [rounds_succ]
  go_wp2_with (at_builtin; go_loud (refine wpList_append_own _ rfl (.tmp 14) (.tmp 20) 97 rfl N 5 i1 (.int .u8 0) 1 1 Tryz.underlying97 hi1 hy0 hy1 hy2 rfl (by decide) _ _ _ rfl HO ⟨w.heap.size, 0, none⟩ 1 1 [.int .u8 ((n : Int) / 65536)] rfl rfl (one_cell w _) (one_u8 _) (by unfold maxLen; omega) (by omega) sX ?_; intro v1 w1 hown1 hgrow1 _))
  have B1 : BufL w1 N v1 (bs ++ [n / 65536]) := BufL.one hown1 (by omega)
  have W1 : OffB N w w1 := (OffB.of_below X1).trans (OffB.grown HO hgrow1)
  have L1 : (bs ++ [n / 65536]).length = bs.length + 1 := by simp
  have hN1 := Nat.le_trans sX hgrow1.size
  clear hown1 hgrow1 HO X1 sX h
  have X2 : Below w1.heap.size w1 (w1.alloc (.cells #[.int .u8 ((n : Int) / 256 % 256)] 5)) := (Below.refl _ _).alloc (Nat.le_refl _) _
  have HO : (w1.alloc (.cells #[.int .u8 ((n : Int) / 256 % 256)] 5)).ownsRow N 5 1 v1 (bs ++ [n / 65536]).length (clB (bs ++ [n / 65536])) := B1.below X2
  have sX := Nat.le_trans hN1 X2.size
  rw [rounds_succ]
  go_wp2_with (at_builtin; go_loud (refine wpList_append_own _ rfl (.tmp 14) (.tmp 20) 97 rfl N 5 i1 (.int .u8 0) 1 1 Tryz.underlying97 hi1 hy0 hy1 hy2 rfl (by decide) _ _ _ rfl HO ⟨w1.heap.size, 0, none⟩ 1 1 [.int .u8 ((n : Int) / 256 % 256)] rfl rfl (one_cell w1 _) (one_u8 _) (by unfold maxLen; omega) (by omega) sX ?_; intro v2 w2 hown2 hgrow2 _))
  have B2 : BufL w2 N v2 (bs ++ [n / 65536] ++ [n / 256 % 256]) := BufL.one hown2 (by omega)
  have W2 : OffB N w w2 := W1.trans ((OffB.of_below X2).trans (OffB.grown HO hgrow2))
  have L2 : (bs ++ [n / 65536] ++ [n / 256 % 256]).length = bs.length + 2 := by simp
  have hN2 := Nat.le_trans sX hgrow2.size
  clear hown2 hgrow2 HO X2 sX B1 L1 W1
  have X3 : Below w2.heap.size w2 (w2.alloc (.cells #[.int .u8 ((n : Int) % 256)] 5)) := (Below.refl _ _).alloc (Nat.le_refl _) _
  have HO : (w2.alloc (.cells #[.int .u8 ((n : Int) % 256)] 5)).ownsRow N 5 1 v2 (bs ++ [n / 65536] ++ [n / 256 % 256]).length (clB (bs ++ [n / 65536] ++ [n / 256 % 256])) := B2.below X3
  have sX := Nat.le_trans hN2 X3.size
  rw [rounds_succ]
  go_wp2_with (at_builtin; go_loud (refine wpList_append_own _ rfl (.tmp 14) (.tmp 20) 97 rfl N 5 i1 (.int .u8 0) 1 1 Tryz.underlying97 hi1 hy0 hy1 hy2 rfl (by decide) _ _ _ rfl HO ⟨w2.heap.size, 0, none⟩ 1 1 [.int .u8 ((n : Int) % 256)] rfl rfl (one_cell w2 _) (one_u8 _) (by unfold maxLen; omega) (by omega) sX ?_; intro v3 w3 hown3 hgrow3 _))
  have B3 : Hid (BufL w3 N v3 (bs ++ Evt.three n)) := by
    have := BufL.one (x := n % 256) hown3 (by omega)
    rw [List.append_assoc, List.append_assoc] at this
    exact this
  have W3 : Hid (OffB N w w3) := W2.trans ((OffB.of_below X3).trans (OffB.grown HO hgrow3))
  clear hown3 hgrow3 HO X3 sX B2 L2 W2
  rw [rounds_succ]
  go_wp2_with fail
  go_ret
  exact ⟨_, rfl, B3.out, W3.out⟩

theorem strCells_nb (s : ByteArray) : Lib.strCells s = clB (nb s) := by
  unfold Lib.strCells clB nb
  rw [List.map_map]
  rfl

set_option maxHeartbeats 400000 in
theorem appE_any (N : Nat) (s : ByteArray) (k m : Int) (v : Value) (bs : List Nat) (w : World) (h : BufL w N v bs) (hN : N ≤ w.heap.size) (hb : bs.length ≤ 900000) (hE : Evt.wrongE ⟨nb s, k, m⟩ = 0) :
    Calls Tryz.prog 100 #[v, .agg #[.string s, .int .i64 k, .int .i64 m]] w fun e w' => ∃ v', e = .returned v' ∧ BufL w' N v' (bs ++ Evt.encE ⟨nb s, k, m⟩) ∧ OffB N w w' := by
  obtain ⟨⟨_, _, hn⟩, k1, k2, m1, m2⟩ := Evt.wrongE_inv hE
  rw [show (⟨nb s, k, m⟩ : Evt.Ev).name = nb s from rfl, nb_len] at hn
  have k1 : 1 ≤ k := k1
  have k2 : k ≤ 4 := k2
  have m1 : 0 ≤ m := m1
  have m2 : m ≤ 1000000 := m2
  obtain ⟨k', rfl⟩ : ∃ k' : Nat, k = k' := ⟨k.toNat, by omega⟩
  obtain ⟨m', rfl⟩ : ∃ m' : Nat, m = m' := ⟨m.toNat, by omega⟩
  obtain ⟨i1, hi1, hh1⟩ := Option.map_eq_some_iff.1 Tryz.infoByte
  simp only [Prod.mk.injEq] at hh1
  obtain ⟨hy0, hy1, hy2⟩ := hh1
  have X0 : Below w.heap.size w (w.alloc (.cells #[.string s, .int .i64 (k' : Int), .int .i64 (m' : Int)] 32)) := (Below.refl _ _).alloc (Nat.le_refl _) _
  have V0 := box_new w #[.string s, .int .i64 (k' : Int), .int .i64 (m' : Int)] 32 (by decide)
  have c0 := V0.cell 0 _ rfl
  have c1 := V0.cell 1 _ rfl
  have c2 := V0.cell 2 _ rfl
  have H1 := app1_any N s.size v bs _ (h.below X0) (Nat.le_trans hN X0.size) (by omega) (by omega)
  clear hE h
  go_enter Tryz.func100, Tryz.ntmps100
  go_wp2_with fail
  refine H1.mono ?_
  rintro e w1 ⟨v1, rfl, B1, O1⟩
  have V1 := V0.off O1
  have c0 := V1.cell 0 _ rfl
  have O1 := (OffB.of_below X0 (N := N)).trans O1
  have hN1 := Nat.le_trans hN O1.size
  have L1 : (bs ++ [s.size]).length = bs.length + 1 := by simp
  have HO : w1.ownsRow N 5 1 v1 (bs ++ [s.size]).length (clB (bs ++ [s.size])) := B1
  clear H1 V0 X0 c1 c2 B1
  go_wp2_with (at_builtin; go_loud (refine Lib.wpList_append_own_string _ rfl (.tmp 10) (.tmp 12) 97 9 rfl N 5 i1 Tryz.underlying97 Tryz.underlying9 hi1 hy0 hy1 hy2 _ _ _ rfl HO s rfl (by unfold maxLen; omega) (by omega) hN1 ?_; intro v2 w2 hown2 hgrow2 _; have V2 := V1.off (OffB.grown HO hgrow2); have c1 := V2.cell 1 _ rfl))
  have B2 : BufL w2 N v2 (bs ++ [s.size] ++ nb s) := BufL.more hown2 (strCells_nb s) (nb_len s)
  have L2 : (bs ++ [s.size] ++ nb s).length = bs.length + 1 + s.size := by simp [nb_len]; omega
  have O2 := O1.trans (OffB.grown HO hgrow2)
  have hN2 := Nat.le_trans hN O2.size
  have H3 := app1_any N k' v2 _ _ B2 hN2 (by omega) (by omega)
  clear hown2 hgrow2 HO B2 V1 c0 O1 L1 hN1
  refine H3.mono ?_
  rintro e w3 ⟨v3, rfl, B3, O3⟩
  have V3 := V2.off O3
  have c2 := V3.cell 2 _ rfl
  have O3 := O2.trans O3
  have hN3 := Nat.le_trans hN O3.size
  have H4 := app3_any N m' v3 _ _ B3 hN3 (by rw [List.length_append, L2]; simp; omega) (by omega)
  clear H3 V2 O2 B3 hN2
  go_wp2_with fail
  refine H4.mono ?_
  rintro e w4 ⟨v4, rfl, B4, O4⟩
  have HB : Hid (BufL w4 N v4 (bs ++ Evt.encE ⟨nb s, k', m'⟩)) := by
    have e : bs ++ [s.size] ++ nb s ++ [k'] ++ Evt.three m' = bs ++ Evt.encE ⟨nb s, k', m'⟩ := by
      unfold Evt.encE
      rw [nb_len]
      simp
    rw [e] at B4
    exact B4
  have HW : Hid (OffB N w w4) := O3.trans O4
  clear H4 B4 O4 V3
  go_wp2_with fail
  go_ret
  exact ⟨_, rfl, HB.out, HW.out⟩

end Go.Proofs.YtleekmmoanlpfaaGreat
