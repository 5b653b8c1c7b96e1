/-
  What event.appendNumber, event.appendEvent, event.appendBatch and event.Bytes do, call by call.
-/
import Derived.Test.YtniaffofeeieeadEThree
import Derived.Test.YtniaffofeeieeadXBatch
import Derived.Lib.AppendStr
namespace Go.Proofs.Ytniaffofeeieead
open Go.RowKit

theorem owns_nil (w : World) (N : Nat) : BufL w N (.slice none 0 0) [] := World.ownsRow_nil w N _ 1

theorem one_cell (w : World) (x : Value) : ∀ j u, [x][j]? = some u → (w.alloc (.cells #[x] 5)).cell? ((⟨w.heap.size, 0, none⟩ : Addr).add j) = some u := cells_new w #[x] 5
theorem one_u8 (a : Int) : ∀ u ∈ [Value.int .u8 a], u.oneCell' = true := by
  intro u hu
  simp at hu
  rw [hu]
  rfl
theorem BufL.one {w : World} {N : Nat} {v : Value} {bs : List Nat} {a : Int} {x : Nat} (h : w.ownsRow N 5 1 v (bs.length + 1) (clB bs ++ [.int .u8 a])) (e : a = (x : Int)) : BufL w N v (bs ++ [x]) :=
  BufL.more h (by rw [e]; rfl) rfl

/-- Of the blocks that were there none has turned but some of bytes, from block N on. -/
def OffB (N : Nat) (w w' : World) : Prop := Off (fun k => N ≤ k ∧ ∃ c z, w.heap[k]? = some (.cells c 5 z)) w w'
theorem OffB.refl (N : Nat) (w : World) : OffB N w w := Off.refl _ _
theorem OffB.trans {N : Nat} {a b c : World} (h : OffB N a b) (k : OffB N b c) : OffB N a c := Off.past h k (fun y hy hl => by
  refine Classical.byContradiction fun hn => hn ⟨hy.1, ?_⟩
  obtain ⟨_, c, z, e⟩ := hy
  exact ⟨c, z, by rw [← h.block y hl hn]; exact e⟩)
theorem OffB.of_below {N : Nat} {a b : World} (h : Below a.heap.size a b) : OffB N a b := Off.of_below h
theorem OffB.grown {N : Nat} {w w' : World} {v : Value} {n : Nat} {xs : List Value} (h : w.ownsRow N 5 1 v n xs) (hg : w.grownBy w' v.ownBlock) : OffB N w w' :=
  (off_of_grown hg).wider (fun k hk => ⟨(h.lt k hk).1, by
    obtain ⟨c, e⟩ := owns_heap h hk
    exact ⟨c, _, e⟩⟩)
theorem OffB.below {N : Nat} {w w' : World} (h : OffB N w w') (hN : N ≤ w.heap.size) : Below N w w' := Off.below h hN (fun _ hk => hk.1)
/-- A variable's block that is none of bytes. -/
structure Box (w : World) (p : Nat) (cs : Array Value) (t : TypeId) : Prop where
  hp : w.heap[p]? = some (.cells cs t (0, 0))
  ht : t ≠ 5
theorem Box.lt {w : World} {p : Nat} {cs : Array Value} {t : TypeId} (h : Box w p cs t) : p < w.heap.size := (Array.getElem?_eq_some_iff.1 h.hp).1
theorem Box.off {w w' : World} {N p : Nat} {cs : Array Value} {t : TypeId} (h : Box w p cs t) (ho : OffB N w w') : Box w' p cs t :=
  ⟨by
    rw [ho.block p h.lt (fun q => by
      obtain ⟨_, c, z, e⟩ := q
      rw [h.hp] at e
      cases e
      exact h.ht rfl)]
    exact h.hp, h.ht⟩
theorem box_new (w : World) (cs : Array Value) (t : TypeId) (ht : t ≠ 5) : Box (w.alloc (.cells cs t)) w.heap.size cs t := ⟨Deep.blk_alloc_new _ _, ht⟩
theorem Box.cell {w : World} {p : Nat} {cs : Array Value} {t : TypeId} (h : Box w p cs t) (i : Nat) (u : Value) (hu : cs[i]? = some u) : w.cell? ⟨p, i, none⟩ = some u := by
  obtain ⟨hi, rfl⟩ := Array.getElem?_eq_some_iff.1 hu
  have hr : w.rowIs p t cs.size (fun j => cs.getD j (.slice none 0 0)) := ⟨cs, h.hp, rfl, fun i hi => by simp [hi]⟩
  rw [hr.cell hi]
  simp [Array.getD, hi]
theorem Box.frozen {w : World} {p : Nat} {cs : Array Value} {t : TypeId} (h : Box w p cs t) (i : Nat) : w.frozen? ⟨p, i, none⟩ = false := by
  have hr : w.rowIs p t cs.size (fun j => cs.getD j (.slice none 0 0)) := ⟨cs, h.hp, rfl, fun i hi => by simp [hi]⟩
  exact hr.frozen i

set_option maxHeartbeats 400000 in
theorem app1_any (N n : Nat) (v : Value) (bs : List Nat) (w : World) (h : BufL w N v bs) (hN : N ≤ w.heap.size) (hb : bs.length ≤ 1000000) (hn : n < 256) :
    Calls Try.prog 21 #[v, .int .i64 (n : Int), .int .i64 1] w fun e w' => ∃ v', e = .returned v' ∧ BufL w' N v' (bs ++ [n]) ∧ OffB N w w' := by
  obtain ⟨i1, hi1, hh1⟩ := Option.map_eq_some_iff.1 Try.infoByte
  simp only [Prod.mk.injEq] at hh1
  obtain ⟨hy0, hy1, hy2⟩ := hh1
  have X1 : Below w.heap.size w (w.alloc (.cells #[.int .u8 (n : Int)] 5)) := (Below.refl _ _).alloc (Nat.le_refl _) _
  have HO : (w.alloc (.cells #[.int .u8 (n : Int)] 5)).ownsRow N 5 1 v bs.length (clB bs) := h.below X1
  have sX := Nat.le_trans hN X1.size
  go_enter Try.func21, Try.ntmps21
  go_wp2_with fail
  refine wp_loop_rounds 2 ?_
  rw [rounds_succ]
  go_wp2_with (at_builtin; go_loud (refine wpList_append_own _ rfl (.tmp 14) (.tmp 20) 25 rfl N 5 i1 (.int .u8 0) 1 1 Try.underlying25 hi1 hy0 hy1 hy2 rfl (by decide) _ _ _ rfl HO ⟨w.heap.size, 0, none⟩ 1 1 [.int .u8 (n : Int)] rfl rfl (one_cell w _) (one_u8 _) (by unfold maxLen; omega) (by omega) sX ?_; intro v1 w1 hown1 hgrow1 _))
  have HB : Hid (BufL w1 N v1 (bs ++ [n])) := BufL.one hown1 rfl
  have HW : Hid (OffB N w w1) := (OffB.of_below X1).trans (OffB.grown HO hgrow1)
  clear hown1 hgrow1 HO
  rw [rounds_succ]
  go_wp2_with fail
  go_ret
  exact ⟨_, rfl, HB.out, HW.out⟩

set_option maxHeartbeats 400000 in
theorem app3_any (N n : Nat) (v : Value) (bs : List Nat) (w : World) (h : BufL w N v bs) (hN : N ≤ w.heap.size) (hb : bs.length ≤ 1000000) (hn : n < 16777216) :
    Calls Try.prog 21 #[v, .int .i64 (n : Int), .int .i64 3] w fun e w' => ∃ v', e = .returned v' ∧ BufL w' N v' (bs ++ Evt.three n) ∧ OffB N w w' := by
  obtain ⟨i1, hi1, hh1⟩ := Option.map_eq_some_iff.1 Try.infoByte
  simp only [Prod.mk.injEq] at hh1
  obtain ⟨hy0, hy1, hy2⟩ := hh1
  have X1 : Below w.heap.size w (w.alloc (.cells #[.int .u8 ((n : Int) / 65536)] 5)) := (Below.refl _ _).alloc (Nat.le_refl _) _
  have HO : (w.alloc (.cells #[.int .u8 ((n : Int) / 65536)] 5)).ownsRow N 5 1 v bs.length (clB bs) := h.below X1
  have sX := Nat.le_trans hN X1.size
  go_enter Try.func21, Try.ntmps21
  go_wp2_with fail
  refine wp_loop_rounds 4 ?_
  rw [rounds_succ]
  go_wp2_with (at_builtin; go_loud (refine wpList_append_own _ rfl (.tmp 14) (.tmp 20) 25 rfl N 5 i1 (.int .u8 0) 1 1 Try.underlying25 hi1 hy0 hy1 hy2 rfl (by decide) _ _ _ rfl HO ⟨w.heap.size, 0, none⟩ 1 1 [.int .u8 ((n : Int) / 65536)] rfl rfl (one_cell w _) (one_u8 _) (by unfold maxLen; omega) (by omega) sX ?_; intro v1 w1 hown1 hgrow1 _))
  have B1 : BufL w1 N v1 (bs ++ [n / 65536]) := BufL.one hown1 (by omega)
  have W1 : OffB N w w1 := (OffB.of_below X1).trans (OffB.grown HO hgrow1)
  have L1 : (bs ++ [n / 65536]).length = bs.length + 1 := by simp
  have hN1 := Nat.le_trans sX hgrow1.size
  clear hown1 hgrow1 HO X1 sX h
  have X2 : Below w1.heap.size w1 (w1.alloc (.cells #[.int .u8 ((n : Int) / 256 % 256)] 5)) := (Below.refl _ _).alloc (Nat.le_refl _) _
  have HO : (w1.alloc (.cells #[.int .u8 ((n : Int) / 256 % 256)] 5)).ownsRow N 5 1 v1 (bs ++ [n / 65536]).length (clB (bs ++ [n / 65536])) := B1.below X2
  have sX := Nat.le_trans hN1 X2.size
  rw [rounds_succ]
  go_wp2_with (at_builtin; go_loud (refine wpList_append_own _ rfl (.tmp 14) (.tmp 20) 25 rfl N 5 i1 (.int .u8 0) 1 1 Try.underlying25 hi1 hy0 hy1 hy2 rfl (by decide) _ _ _ rfl HO ⟨w1.heap.size, 0, none⟩ 1 1 [.int .u8 ((n : Int) / 256 % 256)] rfl rfl (one_cell w1 _) (one_u8 _) (by unfold maxLen; omega) (by omega) sX ?_; intro v2 w2 hown2 hgrow2 _))
  have B2 : BufL w2 N v2 (bs ++ [n / 65536] ++ [n / 256 % 256]) := BufL.one hown2 (by omega)
  have W2 : OffB N w w2 := W1.trans ((OffB.of_below X2).trans (OffB.grown HO hgrow2))
  have L2 : (bs ++ [n / 65536] ++ [n / 256 % 256]).length = bs.length + 2 := by simp
  have hN2 := Nat.le_trans sX hgrow2.size
  clear hown2 hgrow2 HO X2 sX B1 L1 W1
  have X3 : Below w2.heap.size w2 (w2.alloc (.cells #[.int .u8 ((n : Int) % 256)] 5)) := (Below.refl _ _).alloc (Nat.le_refl _) _
  have HO : (w2.alloc (.cells #[.int .u8 ((n : Int) % 256)] 5)).ownsRow N 5 1 v2 (bs ++ [n / 65536] ++ [n / 256 % 256]).length (clB (bs ++ [n / 65536] ++ [n / 256 % 256])) := B2.below X3
  have sX := Nat.le_trans hN2 X3.size
  rw [rounds_succ]
  go_wp2_with (at_builtin; go_loud (refine wpList_append_own _ rfl (.tmp 14) (.tmp 20) 25 rfl N 5 i1 (.int .u8 0) 1 1 Try.underlying25 hi1 hy0 hy1 hy2 rfl (by decide) _ _ _ rfl HO ⟨w2.heap.size, 0, none⟩ 1 1 [.int .u8 ((n : Int) % 256)] rfl rfl (one_cell w2 _) (one_u8 _) (by unfold maxLen; omega) (by omega) sX ?_; intro v3 w3 hown3 hgrow3 _))
  have B3 : Hid (BufL w3 N v3 (bs ++ Evt.three n)) := by
    have := BufL.one (x := n % 256) hown3 (by omega)
    rw [List.append_assoc, List.append_assoc] at this
    exact this
  have W3 : Hid (OffB N w w3) := W2.trans ((OffB.of_below X3).trans (OffB.grown HO hgrow3))
  clear hown3 hgrow3 HO X3 sX B2 L2 W2
  rw [rounds_succ]
  go_wp2_with fail
  go_ret
  exact ⟨_, rfl, B3.out, W3.out⟩

theorem strCells_nb (s : ByteArray) : Lib.strCells s = clB (nb s) := by
  unfold Lib.strCells clB nb
  rw [List.map_map]
  rfl

set_option maxHeartbeats 400000 in
theorem appE_any (N : Nat) (s : ByteArray) (k m : Int) (v : Value) (bs : List Nat) (w : World) (h : BufL w N v bs) (hN : N ≤ w.heap.size) (hb : bs.length ≤ 900000) (hE : Evt.wrongE ⟨nb s, k, m⟩ = 0) :
    Calls Try.prog 27 #[v, .agg #[.string s, .int .i64 k, .int .i64 m]] w fun e w' => ∃ v', e = .returned v' ∧ BufL w' N v' (bs ++ Evt.encE ⟨nb s, k, m⟩) ∧ OffB N w w' := by
  obtain ⟨⟨_, _, hn⟩, k1, k2, m1, m2⟩ := Evt.wrongE_inv hE
  rw [show (⟨nb s, k, m⟩ : Evt.Ev).name = nb s from rfl, nb_len] at hn
  have k1 : 1 ≤ k := k1
  have k2 : k ≤ 4 := k2
  have m1 : 0 ≤ m := m1
  have m2 : m ≤ 1000000 := m2
  obtain ⟨k', rfl⟩ : ∃ k' : Nat, k = k' := ⟨k.toNat, by omega⟩
  obtain ⟨m', rfl⟩ : ∃ m' : Nat, m = m' := ⟨m.toNat, by omega⟩
  obtain ⟨i1, hi1, hh1⟩ := Option.map_eq_some_iff.1 Try.infoByte
  simp only [Prod.mk.injEq] at hh1
  obtain ⟨hy0, hy1, hy2⟩ := hh1
  have X0 : Below w.heap.size w (w.alloc (.cells #[.string s, .int .i64 (k' : Int), .int .i64 (m' : Int)] 24)) := (Below.refl _ _).alloc (Nat.le_refl _) _
  have V0 := box_new w #[.string s, .int .i64 (k' : Int), .int .i64 (m' : Int)] 24 (by decide)
  have c0 := V0.cell 0 _ rfl
  have c1 := V0.cell 1 _ rfl
  have c2 := V0.cell 2 _ rfl
  have H1 := app1_any N s.size v bs _ (h.below X0) (Nat.le_trans hN X0.size) (by omega) (by omega)
  clear hE h
  go_enter Try.func27, Try.ntmps27
  go_wp2_with fail
  refine H1.mono ?_
  rintro e w1 ⟨v1, rfl, B1, O1⟩
  have V1 := V0.off O1
  have c0 := V1.cell 0 _ rfl
  have O1 := (OffB.of_below X0 (N := N)).trans O1
  have hN1 := Nat.le_trans hN O1.size
  have L1 : (bs ++ [s.size]).length = bs.length + 1 := by simp
  have HO : w1.ownsRow N 5 1 v1 (bs ++ [s.size]).length (clB (bs ++ [s.size])) := B1
  clear H1 V0 X0 c1 c2 B1
  go_wp2_with (at_builtin; go_loud (refine Lib.wpList_append_own_string _ rfl (.tmp 10) (.tmp 12) 25 9 rfl N 5 i1 Try.underlying25 Try.underlying9 hi1 hy0 hy1 hy2 _ _ _ rfl HO s rfl (by unfold maxLen; omega) (by omega) hN1 ?_; intro v2 w2 hown2 hgrow2 _; have V2 := V1.off (OffB.grown HO hgrow2); have c1 := V2.cell 1 _ rfl))
  have B2 : BufL w2 N v2 (bs ++ [s.size] ++ nb s) := BufL.more hown2 (strCells_nb s) (nb_len s)
  have L2 : (bs ++ [s.size] ++ nb s).length = bs.length + 1 + s.size := by simp [nb_len]; omega
  have O2 := O1.trans (OffB.grown HO hgrow2)
  have hN2 := Nat.le_trans hN O2.size
  have H3 := app1_any N k' v2 _ _ B2 hN2 (by omega) (by omega)
  clear hown2 hgrow2 HO B2 V1 c0 O1 L1 hN1
  refine H3.mono ?_
  rintro e w3 ⟨v3, rfl, B3, O3⟩
  have V3 := V2.off O3
  have c2 := V3.cell 2 _ rfl
  have O3 := O2.trans O3
  have hN3 := Nat.le_trans hN O3.size
  have H4 := app3_any N m' v3 _ _ B3 hN3 (by rw [List.length_append, L2]; simp; omega) (by omega)
  clear H3 V2 O2 B3 hN2
  go_wp2_with fail
  refine H4.mono ?_
  rintro e w4 ⟨v4, rfl, B4, O4⟩
  have HB : Hid (BufL w4 N v4 (bs ++ Evt.encE ⟨nb s, k', m'⟩)) := by
    have e : bs ++ [s.size] ++ nb s ++ [k'] ++ Evt.three m' = bs ++ Evt.encE ⟨nb s, k', m'⟩ := by
      unfold Evt.encE
      rw [nb_len]
      simp
    rw [e] at B4
    exact B4
  have HW : Hid (OffB N w w4) := O3.trans O4
  clear H4 B4 O4 V3
  go_wp2_with fail
  go_ret
  exact ⟨_, rfl, HB.out, HW.out⟩

end Go.Proofs.Ytniaffofeeieead
