/-
  Texts of the proof, joined: XApp, XBytes.
-/
import Derived.Test.YtmcaejooaaahdaaGreatZ16
import Derived.Lib.AppendStr
namespace Go.Proofs.YtmcaejooaaahdaaGreat
open Go.RowKit

theorem owns_nil (w : World) (N : Nat) : BufL w N (.slice none 0 0) [] := World.ownsRow_nil w N _ 1

theorem one_cell (w : World) (x : Value) : ∀ j u, [x][j]? = some u → (w.alloc (.cells #[x] 5)).cell? ((⟨w.heap.size, 0, none⟩ : Addr).add j) = some u := cells_new w #[x] 5
theorem one_u8 (a : Int) : ∀ u ∈ [Value.int .u8 a], u.oneCell' = true := by
  intro u hu
  simp at hu
  rw [hu]
  rfl
theorem BufL.one {w : World} {N : Nat} {v : Value} {bs : List Nat} {a : Int} {x : Nat} (h : w.ownsRow N 5 1 v (bs.length + 1) (clB bs ++ [.int .u8 a])) (e : a = (x : Int)) : BufL w N v (bs ++ [x]) :=
  BufL.more h (by rw [e]; rfl) rfl

/-- Of the blocks that were there none has turned but some of bytes, from block N on. -/
def OffB (N : Nat) (w w' : World) : Prop := Off (fun k => N ≤ k ∧ ∃ c z, w.heap[k]? = some (.cells c 5 z)) w w'
theorem OffB.refl (N : Nat) (w : World) : OffB N w w := Off.refl _ _
theorem OffB.trans {N : Nat} {a b c : World} (h : OffB N a b) (k : OffB N b c) : OffB N a c := Off.past h k (fun y hy hl => by
  refine Classical.byContradiction fun hn => hn ⟨hy.1, ?_⟩
  obtain ⟨_, c, z, e⟩ := hy
  exact ⟨c, z, by rw [← h.block y hl hn]; exact e⟩)
theorem OffB.of_below {N : Nat} {a b : World} (h : Below a.heap.size a b) : OffB N a b := Off.of_below h
theorem OffB.grown {N : Nat} {w w' : World} {v : Value} {n : Nat} {xs : List Value} (h : w.ownsRow N 5 1 v n xs) (hg : w.grownBy w' v.ownBlock) : OffB N w w' :=
  (off_of_grown hg).wider (fun k hk => ⟨(h.lt k hk).1, by
    obtain ⟨c, e⟩ := owns_heap h hk
    exact ⟨c, _, e⟩⟩)
theorem OffB.below {N : Nat} {w w' : World} (h : OffB N w w') (hN : N ≤ w.heap.size) : Below N w w' := Off.below h hN (fun _ hk => hk.1)
/-- A variable's block that is none of bytes. -/
structure Box (w : World) (p : Nat) (cs : Array Value) (t : TypeId) : Prop where
  hp : w.heap[p]? = some (.cells cs t (0, 0))
  ht : t ≠ 5
theorem Box.lt {w : World} {p : Nat} {cs : Array Value} {t : TypeId} (h : Box w p cs t) : p < w.heap.size := (Array.getElem?_eq_some_iff.1 h.hp).1
theorem Box.off {w w' : World} {N p : Nat} {cs : Array Value} {t : TypeId} (h : Box w p cs t) (ho : OffB N w w') : Box w' p cs t :=
  ⟨by
    rw [ho.block p h.lt (fun q => by
      obtain ⟨_, c, z, e⟩ := q
      rw [h.hp] at e
      cases e
      exact h.ht rfl)]
    exact h.hp, h.ht⟩
theorem box_new (w : World) (cs : Array Value) (t : TypeId) (ht : t ≠ 5) : Box (w.alloc (.cells cs t)) w.heap.size cs t := ⟨Deep.blk_alloc_new _ _, ht⟩
theorem Box.cell {w : World} {p : Nat} {cs : Array Value} {t : TypeId} (h : Box w p cs t) (i : Nat) (u : Value) (hu : cs[i]? = some u) : w.cell? ⟨p, i, none⟩ = some u := by
  obtain ⟨hi, rfl⟩ := Array.getElem?_eq_some_iff.1 hu
  have hr : w.rowIs p t cs.size (fun j => cs.getD j (.slice none 0 0)) := ⟨cs, h.hp, rfl, fun i hi => by simp [hi]⟩
  rw [hr.cell hi]
  simp [Array.getD, hi]
theorem Box.frozen {w : World} {p : Nat} {cs : Array Value} {t : TypeId} (h : Box w p cs t) (i : Nat) : w.frozen? ⟨p, i, none⟩ = false := by
  have hr : w.rowIs p t cs.size (fun j => cs.getD j (.slice none 0 0)) := ⟨cs, h.hp, rfl, fun i hi => by simp [hi]⟩
  exact hr.frozen i

set_option maxHeartbeats 400000 in
theorem app1_any (N n : Nat) (v : Value) (bs : List Nat) (w : World) (h : BufL w N v bs) (hN : N ≤ w.heap.size) (hb : bs.length ≤ 1000000) (hn : n < 256) :
    Calls Tryz.prog 108 #[v, .int .i64 (n : Int), .int .i64 1] w fun e w' => ∃ v', e = .returned v' ∧ BufL w' N v' (bs ++ [n]) ∧ OffB N w w' := by
  obtain ⟨i1, hi1, hh1⟩ := Option.map_eq_some_iff.1 Tryz.infoByte
  simp only [Prod.mk.injEq] at hh1
  obtain ⟨hy0, hy1, hy2⟩ := hh1
  have X1 : Below w.heap.size w (w.alloc (.cells #[.int .u8 (n : Int)] 5)) := (Below.refl _ _).alloc (Nat.le_refl _) _
  have HO : (w.alloc (.cells #[.int .u8 (n : Int)] 5)).ownsRow N 5 1 v bs.length (clB bs) := h.below X1
  have sX := Nat.le_trans hN X1.size
  go_enter Tryz.func108, Tryz.ntmps108
  go_wp2_with fail
  refine wp_loop_rounds 2 ?_
  rw [rounds_succ]
  go_wp2_with (at_builtin; go_loud (refine wpList_append_own _ rfl (.tmp 14) (.tmp 20) 59 rfl N 5 i1 (.int .u8 0) 1 1 Tryz.underlying59 hi1 hy0 hy1 hy2 rfl (by decide) _ _ _ rfl HO ⟨w.heap.size, 0, none⟩ 1 1 [.int .u8 (n : Int)] rfl rfl (one_cell w _) (one_u8 _) (by unfold maxLen; omega) (by omega) sX ?_; intro v1 w1 hown1 hgrow1 _))
  have HB : Hid (BufL w1 N v1 (bs ++ [n])) := BufL.one hown1 rfl
  have HW : Hid (OffB N w w1) := (OffB.of_below X1).trans (OffB.grown HO hgrow1)
  clear hown1 hgrow1 HO
  rw [rounds_succ]
  go_wp2_with fail
  go_ret
  exact ⟨_, rfl, HB.out, HW.out⟩

set_option maxHeartbeats 400000 in
theorem app3_any (N n : Nat) (v : Value) (bs : List Nat) (w : World) (h : BufL w N v bs) (hN : N ≤ w.heap.size) (hb : bs.length ≤ 1000000) (hn : n < 16777216) :
    Calls Tryz.prog 108 #[v, .int .i64 (n : Int), .int .i64 3] w fun e w' => ∃ v', e = .returned v' ∧ BufL w' N v' (bs ++ Evt.three n) ∧ OffB N w w' := by
  obtain ⟨i1, hi1, hh1⟩ := Option.map_eq_some_iff.1 Tryz.infoByte
  simp only [Prod.mk.injEq] at hh1
  obtain ⟨hy0, hy1, hy2⟩ := hh1
  have X1 : Below w.heap.size w (w.alloc (.cells #[.int .u8 ((n : Int) / 65536)] 5)) := (Below.refl _ _).alloc (Nat.le_refl _) _
  have HO : (w.alloc (.cells #[.int .u8 ((n : Int) / 65536)] 5)).ownsRow N 5 1 v bs.length (clB bs) := h.below X1
  have sX := Nat.le_trans hN X1.size
  go_enter Tryz.func108, Tryz.ntmps108
  go_wp2_with fail
  refine wp_loop_rounds 4 ?_
  rw [rounds_succ]
  go_wp2_with (at_builtin; go_loud (refine wpList_append_own _ rfl (.tmp 14) (.tmp 20) 59 rfl N 5 i1 (.int .u8 0) 1 1 Tryz.underlying59 hi1 hy0 hy1 hy2 rfl (by decide) _ _ _ rfl HO ⟨w.heap.size, 0, none⟩ 1 1 [.int .u8 ((n : Int) / 65536)] rfl rfl (one_cell w _) (one_u8 _) (by unfold maxLen; omega) (by omega) sX ?_; intro v1 w1 hown1 hgrow1 _))
  have B1 : BufL w1 N v1 (bs ++ [n / 65536]) := BufL.one hown1 (by omega)
  have W1 : OffB N w w1 := (OffB.of_below X1).trans (OffB.grown HO hgrow1)
  have L1 : (bs ++ [n / 65536]).length = bs.length + 1 := by simp
  have hN1 := Nat.le_trans sX hgrow1.size
  clear hown1 hgrow1 HO X1 sX h
  have X2 : Below w1.heap.size w1 (w1.alloc (.cells #[.int .u8 ((n : Int) / 256 % 256)] 5)) := (Below.refl _ _).alloc (Nat.le_refl _) _
  have HO : (w1.alloc (.cells #[.int .u8 ((n : Int) / 256 % 256)] 5)).ownsRow N 5 1 v1 (bs ++ [n / 65536]).length (clB (bs ++ [n / 65536])) := B1.below X2
  have sX := Nat.le_trans hN1 X2.size
  rw [rounds_succ]
  go_wp2_with (at_builtin; go_loud (refine wpList_append_own _ rfl (.tmp 14) (.tmp 20) 59 rfl N 5 i1 (.int .u8 0) 1 1 Tryz.underlying59 hi1 hy0 hy1 hy2 rfl (by decide) _ _ _ rfl HO ⟨w1.heap.size, 0, none⟩ 1 1 [.int .u8 ((n : Int) / 256 % 256)] rfl rfl (one_cell w1 _) (one_u8 _) (by unfold maxLen; omega) (by omega) sX ?_; intro v2 w2 hown2 hgrow2 _))
  have B2 : BufL w2 N v2 (bs ++ [n / 65536] ++ [n / 256 % 256]) := BufL.one hown2 (by omega)
  have W2 : OffB N w w2 := W1.trans ((OffB.of_below X2).trans (OffB.grown HO hgrow2))
  have L2 : (bs ++ [n / 65536] ++ [n / 256 % 256]).length = bs.length + 2 := by simp
  have hN2 := Nat.le_trans sX hgrow2.size
  clear hown2 hgrow2 HO X2 sX B1 L1 W1
  have X3 : Below w2.heap.size w2 (w2.alloc (.cells #[.int .u8 ((n : Int) % 256)] 5)) := (Below.refl _ _).alloc (Nat.le_refl _) _
  have HO : (w2.alloc (.cells #[.int .u8 ((n : Int) % 256)] 5)).ownsRow N 5 1 v2 (bs ++ [n / 65536] ++ [n / 256 % 256]).length (clB (bs ++ [n / 65536] ++ [n / 256 % 256])) := B2.below X3
  have sX := Nat.le_trans hN2 X3.size
  rw [rounds_succ]
  go_wp2_with (at_builtin; go_loud (refine wpList_append_own _ rfl (.tmp 14) (.tmp 20) 59 rfl N 5 i1 (.int .u8 0) 1 1 Tryz.underlying59 hi1 hy0 hy1 hy2 rfl (by decide) _ _ _ rfl HO ⟨w2.heap.size, 0, none⟩ 1 1 [.int .u8 ((n : Int) % 256)] rfl rfl (one_cell w2 _) (one_u8 _) (by unfold maxLen; omega) (by omega) sX ?_; intro v3 w3 hown3 hgrow3 _))
  have B3 : Hid (BufL w3 N v3 (bs ++ Evt.three n)) := by
    have := BufL.one (x := n % 256) hown3 (by omega)
    rw [List.append_assoc, List.append_assoc] at this
    exact this
  have W3 : Hid (OffB N w w3) := W2.trans ((OffB.of_below X3).trans (OffB.grown HO hgrow3))
  clear hown3 hgrow3 HO X3 sX B2 L2 W2
  rw [rounds_succ]
  go_wp2_with fail
  go_ret
  exact ⟨_, rfl, B3.out, W3.out⟩

theorem strCells_nb (s : ByteArray) : Lib.strCells s = clB (nb s) := by
  unfold Lib.strCells clB nb
  rw [List.map_map]
  rfl

set_option maxHeartbeats 400000 in
theorem appE_any (N : Nat) (s : ByteArray) (k m : Int) (v : Value) (bs : List Nat) (w : World) (h : BufL w N v bs) (hN : N ≤ w.heap.size) (hb : bs.length ≤ 900000) (hE : Evt.wrongE ⟨nb s, k, m⟩ = 0) :
    Calls Tryz.prog 134 #[v, .agg #[.string s, .int .i64 k, .int .i64 m]] w fun e w' => ∃ v', e = .returned v' ∧ BufL w' N v' (bs ++ Evt.encE ⟨nb s, k, m⟩) ∧ OffB N w w' := by
  obtain ⟨⟨_, _, hn⟩, k1, k2, m1, m2⟩ := Evt.wrongE_inv hE
  rw [show (⟨nb s, k, m⟩ : Evt.Ev).name = nb s from rfl, nb_len] at hn
  have k1 : 1 ≤ k := k1
  have k2 : k ≤ 4 := k2
  have m1 : 0 ≤ m := m1
  have m2 : m ≤ 1000000 := m2
  obtain ⟨k', rfl⟩ : ∃ k' : Nat, k = k' := ⟨k.toNat, by omega⟩
  obtain ⟨m', rfl⟩ : ∃ m' : Nat, m = m' := ⟨m.toNat, by omega⟩
  obtain ⟨i1, hi1, hh1⟩ := Option.map_eq_some_iff.1 Tryz.infoByte
  simp only [Prod.mk.injEq] at hh1
  obtain ⟨hy0, hy1, hy2⟩ := hh1
  have X0 : Below w.heap.size w (w.alloc (.cells #[.string s, .int .i64 (k' : Int), .int .i64 (m' : Int)] 83)) := (Below.refl _ _).alloc (Nat.le_refl _) _
  have V0 := box_new w #[.string s, .int .i64 (k' : Int), .int .i64 (m' : Int)] 83 (by decide)
  have c0 := V0.cell 0 _ rfl
  have c1 := V0.cell 1 _ rfl
  have c2 := V0.cell 2 _ rfl
  have H1 := app1_any N s.size v bs _ (h.below X0) (Nat.le_trans hN X0.size) (by omega) (by omega)
  clear hE h
  go_enter Tryz.func134, Tryz.ntmps134
  go_wp2_with fail
  refine H1.mono ?_
  rintro e w1 ⟨v1, rfl, B1, O1⟩
  have V1 := V0.off O1
  have c0 := V1.cell 0 _ rfl
  have O1 := (OffB.of_below X0 (N := N)).trans O1
  have hN1 := Nat.le_trans hN O1.size
  have L1 : (bs ++ [s.size]).length = bs.length + 1 := by simp
  have HO : w1.ownsRow N 5 1 v1 (bs ++ [s.size]).length (clB (bs ++ [s.size])) := B1
  clear H1 V0 X0 c1 c2 B1
  go_wp2_with (at_builtin; go_loud (refine Lib.wpList_append_own_string _ rfl (.tmp 10) (.tmp 12) 59 9 rfl N 5 i1 Tryz.underlying59 Tryz.underlying9 hi1 hy0 hy1 hy2 _ _ _ rfl HO s rfl (by unfold maxLen; omega) (by omega) hN1 ?_; intro v2 w2 hown2 hgrow2 _; have V2 := V1.off (OffB.grown HO hgrow2); have c1 := V2.cell 1 _ rfl))
  have B2 : BufL w2 N v2 (bs ++ [s.size] ++ nb s) := BufL.more hown2 (strCells_nb s) (nb_len s)
  have L2 : (bs ++ [s.size] ++ nb s).length = bs.length + 1 + s.size := by simp [nb_len]; omega
  have O2 := O1.trans (OffB.grown HO hgrow2)
  have hN2 := Nat.le_trans hN O2.size
  have H3 := app1_any N k' v2 _ _ B2 hN2 (by omega) (by omega)
  clear hown2 hgrow2 HO B2 V1 c0 O1 L1 hN1
  refine H3.mono ?_
  rintro e w3 ⟨v3, rfl, B3, O3⟩
  have V3 := V2.off O3
  have c2 := V3.cell 2 _ rfl
  have O3 := O2.trans O3
  have hN3 := Nat.le_trans hN O3.size
  have H4 := app3_any N m' v3 _ _ B3 hN3 (by rw [List.length_append, L2]; simp; omega) (by omega)
  clear H3 V2 O2 B3 hN2
  go_wp2_with fail
  refine H4.mono ?_
  rintro e w4 ⟨v4, rfl, B4, O4⟩
  have HB : Hid (BufL w4 N v4 (bs ++ Evt.encE ⟨nb s, k', m'⟩)) := by
    have e : bs ++ [s.size] ++ nb s ++ [k'] ++ Evt.three m' = bs ++ Evt.encE ⟨nb s, k', m'⟩ := by
      unfold Evt.encE
      rw [nb_len]
      simp
    rw [e] at B4
    exact B4
  have HW : Hid (OffB N w w4) := O3.trans O4
  clear H4 B4 O4 V3
  go_wp2_with fail
  go_ret
  exact ⟨_, rfl, HB.out, HW.out⟩

end Go.Proofs.YtmcaejooaaahdaaGreat

namespace Go.Proofs.YtmcaejooaaahdaaGreat
open Go.RowKit

theorem encE_len {e : Evt.Ev} (h : Evt.wrongE e = 0) : (Evt.encE e).length ≤ 15 := by
  obtain ⟨⟨_, _, hn⟩, _⟩ := Evt.wrongE_inv h
  unfold Evt.encE Evt.three
  simp
  omega
theorem flat_le {α : Type} (f : α → List Nat) (c : Nat) : ∀ (l : List α), (∀ a, a ∈ l → (f a).length ≤ c) → (l.flatMap f).length ≤ l.length * c
  | [], _ => by simp
  | x :: l, h => by
    rw [List.flatMap_cons, List.length_append, List.length_cons, Nat.succ_mul]
    have h1 := h x List.mem_cons_self
    have h2 := flat_le f c l (fun a ha => h a (List.mem_cons_of_mem _ ha))
    omega
theorem encB_len {b : Evt.Bat} (h : (Evt.wrongB b).1 = 0) : (Evt.encB b).length ≤ 154 := by
  obtain ⟨_, _, _, h4, h5⟩ := Evt.wrongB_inv h
  have := flat_le Evt.encE 15 b.evs (fun e he => encE_len (h5 e he))
  unfold Evt.encB Evt.three
  simp only [List.length_append, List.length_cons, List.length_nil]
  omega
theorem take_flat {α : Type} (f : α → List Nat) (l : List α) (k : Nat) (a : α) (h : l[k]? = some a) : (l.take (k + 1)).flatMap f = (l.take k).flatMap f ++ f a := by
  rw [List.take_add_one, h, List.flatMap_append]
  simp
theorem take_len_le {α : Type} (f : α → List Nat) (c k : Nat) (l : List α) (h : ∀ a, a ∈ l → (f a).length ≤ c) : ((l.take k).flatMap f).length ≤ l.length * c := by
  refine Nat.le_trans (flat_le f c (l.take k) (fun a ha => h a (List.mem_of_mem_take ha))) (Nat.mul_le_mul_right c ?_)
  simp
  omega

set_option maxHeartbeats 400000 in
theorem appB_any (W0 : World) (c : Int) (vs : Value) (es : List Evt.Ev) (hes : Evs W0 vs es) (v : Value) (bs : List Nat) (w : World) (hW : Below W0.heap.size W0 w) (h : BufL w W0.heap.size v bs) (hb : bs.length ≤ 800000) (hE : (Evt.wrongB ⟨c, es⟩).1 = 0) :
    Calls Tryz.prog 109 #[v, .agg #[.int .i64 c, vs]] w fun e w' => ∃ v', e = .returned v' ∧ BufL w' W0.heap.size v' (bs ++ Evt.encB ⟨c, es⟩) ∧ OffB W0.heap.size w w' := by
  obtain ⟨h1, h2, h3, h4, h5⟩ := Evt.wrongB_inv hE
  have h1 : 1 ≤ c := h1
  have h2 : c ≤ 1000000 := h2
  have h3 : 1 ≤ es.length := h3
  have h4 : es.length ≤ 10 := h4
  have HA : Hid (∀ e, e ∈ es → Evt.wrongE e = 0) := h5
  obtain ⟨c', rfl⟩ : ∃ c' : Nat, c = c' := ⟨c.toNat, by omega⟩
  obtain ⟨b, o, C, rfl, _, _, hc⟩ := hes.some h3
  have HC : Hid (∀ i e, es[i]? = some e → EvIn W0 b (o + i * 3) e) := hc
  have hN := hW.size
  have X0 : Below w.heap.size w (w.alloc (.cells #[.int .i64 (c' : Int), .slice (some ⟨b, o, none⟩) es.length C] 47)) := (Below.refl _ _).alloc (Nat.le_refl _) _
  have V0 := box_new w #[.int .i64 (c' : Int), .slice (some ⟨b, o, none⟩) es.length C] 47 (by decide)
  have c0 := V0.cell 0 _ rfl
  have c1 := V0.cell 1 _ rfl
  have H1 := app3_any W0.heap.size c' v bs _ (h.below X0) (Nat.le_trans hN X0.size) (by omega) (by omega)
  clear hE h5 h hc hes
  go_enter Tryz.func109, Tryz.ntmps109
  go_wp2_with fail
  refine H1.mono ?_
  rintro e w1 ⟨v1, rfl, B1, O1⟩
  have V1 := V0.off O1
  have c1 := V1.cell 1 _ rfl
  have O1 := (OffB.of_below X0 (N := W0.heap.size)).trans O1
  have hN1 := Nat.le_trans hN O1.size
  have L1 : (bs ++ Evt.three c').length = bs.length + 3 := by simp [Evt.three]
  have H2 := app1_any W0.heap.size es.length v1 _ _ B1 hN1 (by omega) (by omega)
  clear H1 V0 X0 c0 B1
  go_wp2_with fail
  refine H2.mono ?_
  rintro e w2 ⟨v2, rfl, B2, O2⟩
  have V2 := V1.off O2
  have c1 := V2.cell 1 _ rfl
  have O2 := O1.trans O2
  have hN2 := Nat.le_trans hN O2.size
  have L2 : (bs ++ Evt.three c' ++ [es.length]).length = bs.length + 4 := by simp [Evt.three]
  have b2 := hW.trans (O2.below hN)
  clear H2 V1 O1 L1 hN1
  go_wp2_with fail
  clear c1 V2
  go_loopw [0, 19] (fun y x wr => ∃ k : Nat, k ≤ es.length ∧ x = .int .i64 k ∧ BufL wr W0.heap.size y (bs ++ Evt.three c' ++ [es.length] ++ (es.take k).flatMap Evt.encE) ∧ OffB W0.heap.size w2 wr) (fun _ x _ => es.length - (intOf x).toNat)
  case atStart => exact ⟨0, Nat.zero_le _, rfl, by simpa using B2, OffB.refl _ _⟩
  case round =>
    obtain ⟨k, hk, rfl, BR, OR⟩ := hrel
    have hNr := Nat.le_trans hN2 OR.size
    have br := b2.trans (OR.below hN2)
    by_cases hlt : k < es.length
    · have hlt' : (k : Int) < (es.length : Int) := by omega
      obtain ⟨ev, hev⟩ : ∃ ev, es[k]? = some ev := ⟨es[k], List.getElem?_eq_getElem hlt⟩
      have HT : Hid ((es.take (k + 1)).flatMap Evt.encE = (es.take k).flatMap Evt.encE ++ Evt.encE ev) := take_flat Evt.encE es k ev hev
      have HZ : ((es.take k).flatMap Evt.encE).length ≤ es.length * 15 := take_len_le Evt.encE 15 k es (fun e he => encE_len (HA.out e he))
      obtain ⟨s, hs1, hs2, d0, d1, d2⟩ := (HC.out k ev hev).below br
      have hw0 : Evt.wrongE ⟨nb s, ev.kind, ev.num⟩ = 0 := by
        rw [hs2]
        exact HA.out ev (List.mem_of_getElem? hev)
      have HQ : Hid ((⟨nb s, ev.kind, ev.num⟩ : Evt.Ev) = ev) := by
        show (⟨nb s, ev.kind, ev.num⟩ : Evt.Ev) = ev
        rw [hs2]
      have bA : Below wr.heap.size wr (wr.alloc (.cells #[.string s, .int .i64 ev.kind, .int .i64 ev.num] 83)) := (Below.refl _ _).alloc (Nat.le_refl _) _
      have HW := appE_any W0.heap.size s ev.kind ev.num u0 _ _ (BR.below bA) (Nat.le_trans hNr bA.size) (by rw [List.length_append, L2]; omega) hw0
      rw [HQ.out] at HW
      clear hev hs2 BR HZ hw0
      go_wp2_with fail
      refine HW.mono ?_
      rintro e w3 ⟨v3, rfl, B3, O3⟩
      have O3 := (OffB.of_below bA (N := W0.heap.size)).trans O3
      have HB : Hid (BufL w3 W0.heap.size v3 (bs ++ Evt.three c' ++ [es.length] ++ (es.take (k + 1)).flatMap Evt.encE)) := by
        have := B3
        rw [List.append_assoc, ← HT.out] at this
        exact this
      clear HW B3 bA
      go_wp2_with fail
      exact ⟨⟨k + 1, by omega, by go_num, HB.out, OR.trans O3⟩, by simp [intOf]; omega⟩
    · obtain rfl : k = es.length := by omega
      have HB : Hid (BufL wr W0.heap.size u0 (bs ++ Evt.encB ⟨c', es⟩)) := by
        have := BR
        rw [List.take_length] at this
        have e : bs ++ Evt.three c' ++ [es.length] ++ es.flatMap Evt.encE = bs ++ Evt.encB ⟨c', es⟩ := by
          unfold Evt.encB
          simp
        rw [e] at this
        exact this
      have HO : Hid (OffB W0.heap.size w wr) := O2.trans OR
      clear BR OR
      go_wp2_with fail
      go_ret
      exact ⟨_, rfl, HB.out, HO.out⟩

/-- What Bytes tells beside a fault, or none. -/
def outL (l : List Evt.Bat) : List Nat := if (Evt.wrongL l).1 = 0 then Evt.encL l else []
theorem outL_ok {l : List Evt.Bat} (h : (Evt.wrongL l).1 = 0) : outL l = Evt.encL l := if_pos h
theorem outL_no {l : List Evt.Bat} (h : (Evt.wrongL l).1 ≠ 0) : outL l = [] := if_neg h

set_option maxHeartbeats 400000 in
theorem bytesL_bad (v : Value) (l : List Evt.Bat) (w : World) (h : Bats w v l) (hE : (Evt.wrongL l).1 ≠ 0) :
    Calls Tryz.prog 78 #[v] w fun e w' => ∃ v', e = .returned (.tuple #[v', .agg #[.int .i64 ((Evt.wrongL l).1 : Nat), .int .i64 ((Evt.wrongL l).2 : Nat)]]) ∧ BufL w' w.heap.size v' (outL l) ∧ Below w.heap.size w w' := by
  rw [outL_no hE]
  have X0 : Below w.heap.size w (w.alloc (.cells #[.int .i64 0, .int .i64 0] 78)) := (Below.refl _ _).alloc (Nat.le_refl _) _
  have V0 := varF_new w 78 (.int .i64 0) (.int .i64 0)
  have H1 := wrongL_any v l _ (h.below X0)
  obtain ⟨A, C, rfl⟩ := h.shape
  generalize (Evt.wrongL l).1 = x at H1 hE ⊢
  generalize (Evt.wrongL l).2 = y at H1 ⊢
  have hx' : ((x : Int) == 0) = false := by rw [beq_eq_false_iff_ne]; omega
  have hxn : ((x : Int) != 0) = true := by rw [bne, hx']; rfl
  clear h hE
  go_enter Tryz.func78, Tryz.ntmps78
  go_wp2_with fail
  refine H1.mono ?_
  rintro e w1 ⟨rfl, b1⟩
  have bA : Below w1.heap.size w1 (w1.alloc (.cells #[.int .i64 (x : Nat), .int .i64 (y : Nat)] 78)) := (Below.refl _ _).alloc (Nat.le_refl _) _
  obtain ⟨c0, c1, fr⟩ := (V0.below b1).below bA
  have f0 := fr 0
  have f1 := fr 1
  have bz := bt (bt X0 b1) bA
  clear H1 V0 X0 b1
  go_wp2_with fail
  go_region
  go_wp2_with fail
  refine bodyPost_ret (v := .tuple #[.slice none 0 0, .agg #[.int .i64 (x : Nat), .int .i64 (y : Nat)]]) (by simp [results, Tryz.results78, go_sem, c0, c1]) rfl ⟨_, rfl, owns_nil _ _, ?_⟩
  exact ((bz.setCell (Nat.le_refl _) _).setCell (Nat.le_refl _) _).drew

theorem bats_at {w : World} {A : Option Addr} {n C : Nat} {l : List Evt.Bat} (h : Bats w (.slice A n C) l) : ∀ i x, l[i]? = some x → ∃ b o, A = some ⟨b, o, none⟩ ∧ BatIn w b (o + i * 2) x := by
  obtain ⟨A', C', hv, _, _, hc⟩ := h
  cases hv
  exact hc
theorem wrongL_ok2 {l : List Evt.Bat} (h : (Evt.wrongL l).1 = 0) : (Evt.wrongL l).2 = 0 := by
  obtain ⟨h1, h2⟩ := Evt.wrongL_inv h
  rw [wrongL_else (by omega), Evt.firstB_none l 0 h2]

set_option maxHeartbeats 400000 in
theorem bytesL_ok (v : Value) (l : List Evt.Bat) (w : World) (h : Bats w v l) (hE : (Evt.wrongL l).1 = 0) :
    Calls Tryz.prog 78 #[v] w fun e w' => ∃ v', e = .returned (.tuple #[v', .agg #[.int .i64 ((Evt.wrongL l).1 : Nat), .int .i64 ((Evt.wrongL l).2 : Nat)]]) ∧ BufL w' w.heap.size v' (outL l) ∧ Below w.heap.size w w' := by
  rw [outL_ok hE]
  obtain ⟨hl, h5⟩ := Evt.wrongL_inv hE
  have HA : Hid (∀ e, e ∈ l → (Evt.wrongB e).1 = 0) := h5
  have X0 : Below w.heap.size w (w.alloc (.cells #[.int .i64 0, .int .i64 0] 78)) := (Below.refl _ _).alloc (Nat.le_refl _) _
  have V0 := box_new w #[.int .i64 0, .int .i64 0] 78 (by decide)
  have H1 := wrongL_any v l _ (h.below X0)
  obtain ⟨A, C, rfl⟩ := h.shape
  have HC : Hid (∀ i x, l[i]? = some x → ∃ b o, A = some ⟨b, o, none⟩ ∧ BatIn w b (o + i * 2) x) := bats_at h
  rw [wrongL_ok2 hE, hE] at H1 ⊢
  clear h hE h5
  go_enter Tryz.func78, Tryz.ntmps78
  go_wp2_with fail
  refine H1.mono ?_
  rintro e w1 ⟨rfl, b1⟩
  have bA : Below w1.heap.size w1 (w1.alloc (.cells #[.int .i64 0, .int .i64 0] 78)) := (Below.refl _ _).alloc (Nat.le_refl _) _
  have V1 := (V0.off (N := w.heap.size) (OffB.of_below b1)).off (N := w.heap.size) (OffB.of_below bA)
  have bz := bt (bt X0 b1) bA
  have H2 := app1_any w.heap.size l.length (.slice none 0 0) [] _ (owns_nil _ _) bz.size (Nat.zero_le _) (by omega)
  clear H1 V0 X0 b1
  go_wp2_with fail
  refine H2.mono ?_
  rintro e w2 ⟨v2, rfl, B2, O2⟩
  have B2 : BufL w2 w.heap.size v2 [l.length] := B2
  have V2 := V1.off O2
  have b2 := bz.trans (O2.below bz.size)
  have hN2 := b2.size
  clear H2 V1 O2 bA bz
  go_wp2_with fail
  go_loopw [5, 19] (fun y x wr => ∃ k : Nat, k ≤ l.length ∧ x = .int .i64 k ∧ BufL wr w.heap.size y ([l.length] ++ (l.take k).flatMap Evt.encB) ∧ OffB w.heap.size w2 wr) (fun _ x _ => l.length - (intOf x).toNat)
  case atStart => exact ⟨0, Nat.zero_le _, rfl, by simpa using B2, OffB.refl _ _⟩
  case round =>
    obtain ⟨k, hk, rfl, BR, OR⟩ := hrel
    have hNr := Nat.le_trans hN2 OR.size
    have br := b2.trans (OR.below hN2)
    by_cases hlt : k < l.length
    · have hlt' : (k : Int) < (l.length : Int) := by omega
      obtain ⟨x, hx⟩ : ∃ x, l[k]? = some x := ⟨l[k], List.getElem?_eq_getElem hlt⟩
      have HT : Hid ((l.take (k + 1)).flatMap Evt.encB = (l.take k).flatMap Evt.encB ++ Evt.encB x) := take_flat Evt.encB l k x hx
      have HZ : ((l.take k).flatMap Evt.encB).length ≤ l.length * 154 := take_len_le Evt.encB 154 k l (fun e he => encB_len (HA.out e he))
      obtain ⟨b, o, rfl, hin⟩ := HC.out k x hx
      obtain ⟨vs0, d00, d10, he⟩ := hin
      have d0 := (br.cell (p := ⟨b, o + k * 2, none⟩) (World.block_lt_of_cell? _ _ d00)).trans d00
      have d1 := (br.cell (p := ⟨b, o + k * 2 + 1, none⟩) (World.block_lt_of_cell? _ _ d10)).trans d10
      have hw0 : (Evt.wrongB ⟨x.cmd, x.evs⟩).1 = 0 := HA.out x (List.mem_of_getElem? hx)
      have bA : Below wr.heap.size wr (wr.alloc (.cells #[.int .i64 x.cmd, vs0] 47)) := (Below.refl _ _).alloc (Nat.le_refl _) _
      have HW := appB_any w x.cmd vs0 x.evs he u5 _ _ (br.trans (bA.mono hNr)) (BR.below bA) (by rw [List.length_append]; simp only [List.length_cons, List.length_nil]; omega) hw0
      have HQ : Hid ((⟨x.cmd, x.evs⟩ : Evt.Bat) = x) := rfl
      rw [HQ.out] at HW
      obtain ⟨As, Cs, rfl⟩ := he.shape
      clear hx BR HZ hw0 he d00 d10
      go_wp2_with fail
      refine HW.mono ?_
      rintro e w3 ⟨v3, rfl, B3, O3⟩
      have O3 := (OffB.of_below bA (N := w.heap.size)).trans O3
      have HB : Hid (BufL w3 w.heap.size v3 ([l.length] ++ (l.take (k + 1)).flatMap Evt.encB)) := by
        have := B3
        rw [List.append_assoc, ← HT.out] at this
        exact this
      clear HW B3 bA
      go_wp2_with fail
      exact ⟨⟨k + 1, by omega, by go_num, HB.out, OR.trans O3⟩, by simp [intOf]; omega⟩
    · obtain rfl : k = l.length := by omega
      have HB : BufL wr w.heap.size u5 (Evt.encL l) := by
        have := BR
        rw [List.take_length] at this
        exact this
      have VZ := V2.off OR
      have c0 := VZ.cell 0 _ rfl
      have c1 := VZ.cell 1 _ rfl
      have f0 := VZ.frozen 0
      have f1 := VZ.frozen 1
      clear BR OR
      go_wp2_with fail
      refine bodyPost_ret (v := .tuple #[u5, .agg #[.int .i64 0, .int .i64 0]]) (by simp [results, Tryz.results78, go_sem, c0, c1]) rfl ⟨_, rfl, ?_, ?_⟩
      · refine BufL.off (S := fun k => k = w.heap.size) HB (((Off.refl (fun k => k = w.heap.size) _).set (p := ⟨w.heap.size, 0, none⟩) rfl _).set (p := ⟨w.heap.size, 1, none⟩) rfl _) (fun g hg e => ?_)
        obtain ⟨c, hc⟩ := owns_heap HB hg
        rw [e, VZ.hp] at hc
        cases hc
      · exact (br.setCell (Nat.le_refl _) _).setCell (Nat.le_refl _) _

/-- Bytes of whatever batches. -/
theorem bytesL_any (v : Value) (l : List Evt.Bat) (w : World) (h : Bats w v l) :
    Calls Tryz.prog 78 #[v] w fun e w' => ∃ v', e = .returned (.tuple #[v', .agg #[.int .i64 ((Evt.wrongL l).1 : Nat), .int .i64 ((Evt.wrongL l).2 : Nat)]]) ∧ BufL w' w.heap.size v' (outL l) ∧ Below w.heap.size w w' := by
  by_cases hE : (Evt.wrongL l).1 = 0
  · exact bytesL_ok v l w h hE
  · exact bytesL_bad v l w h hE

end Go.Proofs.YtmcaejooaaahdaaGreat
