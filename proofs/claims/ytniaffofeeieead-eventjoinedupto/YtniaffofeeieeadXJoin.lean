/-
  Two lists of batches, one behind the other, as a call makes them; faults that are alike; strings one behind the other.
-/
import Derived.Test.YtniaffofeeieeadXAlive
import Derived.Laws.StructEq
import Derived.Deep.AppendSrc
import Derived.Lib.AppendZeros
namespace Go.Proofs.Ytniaffofeeieead
open Go.RowKit

theorem fault_eql (a b c d : Int) (w : World) : (binOp .eql 33 (.agg #[.int .i64 a, .int .i64 b]) (.agg #[.int .i64 c, .int .i64 d])).run Try.prog w = .ok (.bool (a == c && b == d)) w := by
  have u3 := Try.underlying3
  have u9 := Try.underlying27
  have a3 := Try.isAgg3
  have z3 := Try.sizeOf3
  have a9 := Try.isAgg27
  have z9 := Try.sizeOf27
  have hS : Try.prog.underlying 33 = some (.struct (Try.prog.fieldsOf 33)) := by kernel_rfl
  have hp : Try.prog.stoodInHeld 33 = false := by kernel_rfl
  rw [run_eql_struct, show (10000 : Nat) = 9999 + 1 from rfl, run_equalIn_agg w 9999 33 _ _ hS hp]
  simp only [Program.fieldsOf, Try.underlying33]
  go_simp
  by_cases h1 : a = c <;> by_cases h2 : b = d <;> simp [h1, h2]

theorem strL_list (t : List Nat) : (strL t).toList = t.map UInt8.ofNat := by
  unfold strL strB
  rw [str_list]
  apply List.ext_getElem?
  intro i
  by_cases hi : i < t.length
  · simp [hi, List.getD]
  · rw [List.getElem?_eq_none (by simpa using hi), List.getElem?_eq_none (by simpa using hi)]
theorem strL_size (t : List Nat) : (strL t).size = t.length := by
  have h := congrArg List.length (strL_list t)
  rw [List.length_map, ByteArray.toList_eq, Array.length_toList] at h
  exact h
theorem strL_app (a b : List Nat) : (strL a ++ strL b).toList = (strL (a ++ b)).toList := by
  rw [strL_list, List.map_append, ← strL_list, ← strL_list]
  simp only [ByteArray.toList_eq, ByteArray.data_append, Array.toList_append]

/-- The cells of batches that came in. -/
theorem bats_cells {w : World} {v : Value} {l : List Evt.Bat} (h : Bats w v l) :
    ∃ L : List (Int × Value), L.length = l.length ∧ (∀ (i : Nat) (x : Int × Value) (b : Evt.Bat), L[i]? = some x → l[i]? = some b → b.cmd = x.1 ∧ Evs w x.2 b.evs) ∧
      (l.length = 0 ∨ ∃ b o C, v = .slice (some ⟨b, o, none⟩) l.length C ∧ ∀ j u, (L.flatMap batCells)[j]? = some u → w.cell? ((⟨b, o, none⟩ : Addr).add j) = some u) := by
  by_cases h0 : 1 ≤ l.length
  · obtain ⟨b, o, C, rfl, _, _, hc⟩ := h.some h0
    have each : ∀ i, i < l.length → ∃ q : Int × Value, ∀ x, l[i]? = some x → x.cmd = q.1 ∧ Evs w q.2 x.evs ∧ w.cell? ⟨b, o + i * 2, none⟩ = some (.int .i64 q.1) ∧ w.cell? ⟨b, o + i * 2 + 1, none⟩ = some q.2 := by
      intro i hi
      obtain ⟨vs, c0, c1, he⟩ := hc i l[i] (List.getElem?_eq_getElem hi)
      refine ⟨(l[i].cmd, vs), fun x hx => ?_⟩
      rw [List.getElem?_eq_getElem hi, Option.some.injEq] at hx
      subst hx
      exact ⟨rfl, he, c0, c1⟩
    obtain ⟨q, hq⟩ := Deep.choose_lt (α := Int × Value) each
    have hL : ∀ i, i < l.length → ((List.range l.length).map q)[i]? = some (q i) := fun i hi => by simp [hi]
    refine ⟨(List.range l.length).map q, by simp, fun i x b' hx hb => ?_, Or.inr ⟨b, o, C, rfl, fun j u hj => ?_⟩⟩
    · have hi : i < l.length := (List.getElem?_eq_some_iff.1 hb).1
      rw [hL i hi, Option.some.injEq] at hx
      subst hx
      exact ⟨(hq i hi b' hb).1, (hq i hi b' hb).2.1⟩
    · have hlen : (((List.range l.length).map q).flatMap batCells).length = l.length * 2 := by
        rw [flat_len batCells 2 _ (fun _ _ => rfl)]
        simp
      have hj2 : j < l.length * 2 := by
        have := (List.getElem?_eq_some_iff.1 hj).1
        omega
      have hi : j / 2 < l.length := by omega
      have hf := flat_get batCells 2 ((List.range l.length).map q) (fun _ _ => rfl) (j / 2) (j % 2) (by omega) (q (j / 2)) (hL _ hi)
      rw [show j / 2 * 2 + j % 2 = j by omega, hj] at hf
      obtain ⟨_, _, c0, c1⟩ := hq (j / 2) hi l[j / 2] (List.getElem?_eq_getElem hi)
      rw [WideShapes.add_plain]
      rcases Nat.mod_two_eq_zero_or_one j with e | e
      · rw [e] at hf
        cases hf
        rw [show o + j = o + j / 2 * 2 by omega]
        exact c0
      · rw [e] at hf
        cases hf
        rw [show o + j = o + j / 2 * 2 + 1 by omega]
        exact c1
  · exact ⟨[], (by simp; omega), (fun i x b hx => by cases hx), Or.inl (by omega)⟩

/-- Batches appended to those that the call has made. -/
theorem app_bats (W w : World) (hW : Below W.heap.size W w) (N : Nat) (v : Value) (L0 : List (Int × Value)) (h0 : BBuf w N v L0) (hne : v ≠ .slice none 0 0) (hN : N ≤ w.heap.size) (src : Value) (l : List Evt.Bat) (h : Bats W src l) (hsz : L0.length + l.length ≤ 4000000) :
    ∃ L v' w', (Builtin.append_ #[22, 22] 22 #[v, src]).run Try.prog w = .ok v' w' ∧ BBuf w' N v' (L0 ++ L) ∧ v' ≠ .slice none 0 0 ∧ Below N w w' ∧ L.length = l.length ∧ (∀ (i : Nat) (x : Int × Value) (b : Evt.Bat), L[i]? = some x → l[i]? = some b → b.cmd = x.1 ∧ Evs W x.2 b.evs) := by
  obtain ⟨i2, hi2, hh2⟩ := Option.map_eq_some_iff.1 Try.infoBatch
  simp only [Prod.mk.injEq] at hh2
  obtain ⟨hy0, hy1, hy2⟩ := hh2
  obtain ⟨L, hLl, hLs, hLc⟩ := bats_cells h
  have hone : ∀ u ∈ L.flatMap batCells, u.oneCell' = true := fun u hu => by
    obtain ⟨x, hx, hux⟩ := List.mem_flatMap.1 hu
    obtain ⟨i, hi, rfl⟩ := List.mem_iff_getElem.1 hx
    have hb : l[i]? = some (l[i]'(by omega)) := List.getElem?_eq_getElem (by omega)
    obtain ⟨_, A, C, hv, _⟩ := hLs i _ _ (List.getElem?_eq_getElem hi) hb
    simp only [batCells, List.mem_cons, List.not_mem_nil, or_false] at hux
    rcases hux with rfl | rfl
    · rfl
    · rw [hv]
      rfl
  have hfl : (L.flatMap batCells).length = l.length * 2 := by
    rw [flat_len batCells 2 _ (fun _ _ => rfl), hLl]
  have main : ∀ (a : Addr) (C : Nat), src = .slice (some a) l.length C → (∀ j u, (L.flatMap batCells)[j]? = some u → w.cell? (a.add j) = some u) →
      ∃ v' w', (Builtin.append_ #[22, 22] 22 #[v, src]).run Try.prog w = .ok v' w' ∧ BBuf w' N v' (L0 ++ L) ∧ v' ≠ .slice none 0 0 ∧ Below N w w' := by
    rintro a C rfl hc
    obtain ⟨v', w', hrun, ho, hg, hnil⟩ := run_append_own (P := Try.prog) w N 22 22 31 i2 _ 2 32 Try.underlying22 hi2 hy0 hy1 hy2 rfl (by decide) v L0.length _ h0 a l.length C (L.flatMap batCells) hfl hc hone (by unfold maxLen; omega) (by omega) hN
    refine ⟨v', w', hrun, ?_, fun e => hne (hnil.1 e).1, (Below.refl N w).grown hg hN (fun x hx => (h0.lt x hx).1)⟩
    unfold BBuf
    rw [List.length_append, hLl, List.flatMap_append]
    exact ho
  rcases hLc with hz | ⟨b, o, C, hv, hc⟩
  · obtain ⟨A, C, hv, _⟩ := h
    have hLn : L = [] := List.eq_nil_of_length_eq_zero (by omega)
    subst hLn
    cases A with
    | some a =>
      obtain ⟨v', w', q1, q2, q3, q4⟩ := main a C hv (fun j u hj => by cases hj)
      exact ⟨[], v', w', q1, q2, q3, q4, hLl, hLs⟩
    | none =>
      rw [hz] at hv
      subst hv
      rcases h0.2 with ⟨e, _⟩ | ⟨g, cap, cur, rfl, _, _, hcc, _⟩
      · exact absurd e hne
      · refine ⟨[], _, _, run_append_room_src (P := Try.prog) w 22 22 22 31 i2 Try.underlying22 hi2 g 0 L0.length cap _ 0 [] (Src.ofNil _ Try.underlying22 C) (by omega) (fun j hj => by cases hj) (fun j hj => by cases hj), ?_, (fun e => by cases e), Below.refl _ _, hLl, hLs⟩
        rw [List.append_nil]
        exact h0
  · obtain ⟨v', w', q1, q2, q3, q4⟩ := main _ C hv (fun j u hj => by
      have := hc j u hj
      rw [WideShapes.add_plain] at this ⊢
      exact (hW.cell (p := ⟨b, o + j, none⟩) (World.block_lt_of_cell? _ _ this)).trans this)
    exact ⟨L, v', w', q1, q2, q3, q4, hLl, hLs⟩

/-- Both lists, one behind the other, in new memory. -/
theorem join_bats (w : World) (va vb : Value) (la lb : List Evt.Bat) (ha : Bats w va la) (hb : Bats w vb lb) (hsz : la.length + lb.length ≤ 4000000) :
    ∃ v1 w1 v2 w2, (Builtin.append_ #[22, 22] 22 #[.slice (some ⟨w.heap.size, 0, none⟩) 0 0, va]).run Try.prog (w.alloc (.cells #[] 31)) = .ok v1 w1 ∧ (Builtin.append_ #[22, 22] 22 #[v1, vb]).run Try.prog w1 = .ok v2 w2 ∧ Bats w2 v2 (la ++ lb) ∧ Below w.heap.size w w2 := by
  have X0 : Below w.heap.size w (w.alloc (.cells #[] 31)) := (Below.refl _ _).alloc (Nat.le_refl _) _
  have h0 : BBuf (w.alloc (.cells #[] 31)) w.heap.size (.slice (some ⟨w.heap.size, 0, none⟩) 0 0) [] := World.ownsRow_made w #[] 0 (Nat.le_refl _) (by unfold maxLen; omega) rfl
  obtain ⟨La, v1, w1, r1, B1, n1, b1, l1, s1⟩ := app_bats w _ X0 w.heap.size _ [] h0 (fun e => by cases e) X0.size va la ha (by simp; omega)
  have c1 := X0.trans b1
  obtain ⟨Lb, v2, w2, r2, B2, n2, b2, l2, s2⟩ := app_bats w w1 c1 w.heap.size v1 ([] ++ La) B1 n1 c1.size vb lb hb (by simp; omega)
  refine ⟨v1, w1, v2, w2, r1, r2, ?_, c1.trans b2⟩
  have c2 := c1.trans b2
  refine BBuf.bats B2 (by simp; omega) (fun i x b hx hb' => ?_)
  rw [List.nil_append] at hx
  by_cases hi : i < La.length
  · rw [List.getElem?_append_left hi] at hx
    rw [List.getElem?_append_left (by omega)] at hb'
    obtain ⟨e1, e2⟩ := s1 i x b hx hb'
    exact ⟨e1, e2.below c2⟩
  · rw [List.getElem?_append_right (by omega)] at hx hb'
    rw [l1] at hx
    obtain ⟨e1, e2⟩ := s2 _ x b hx hb'
    exact ⟨e1, e2.below c2⟩

/-- All bytes but the first, as they are cut off. -/
theorem cutL {w : World} {A : Option Addr} {n C : Nat} {r : List Nat} (h : BytL w (.slice A n C) r) (hn : r.length = n) (h1 : 1 ≤ n) :
    ∃ b o, A = some ⟨b, o, none⟩ ∧ n ≤ C ∧ C ≤ 9223372036854775807 ∧ w.cell? ⟨b, o, none⟩ = some (.int .u8 ((r.getD 0 0 : Nat) : Int)) ∧
      ((C = 1 ∧ n = 1 ∧ BytL w (.slice (some ⟨b, o, none⟩) 0 0) (r.drop 1)) ∨ (C ≠ 1 ∧ BytL w (.slice (some ⟨b, o + 1, none⟩) (n - 1) (C - 1)) (r.drop 1))) := by
  subst hn
  have h' := h
  obtain ⟨hb, A', C', hv, q1, q2, hc⟩ := h'
  cases hv
  have e0 : r[0]? = some (r.getD 0 0) := by simp [List.getD, show 0 < r.length from h1]
  obtain ⟨b, o, rfl, e1⟩ := hc 0 _ e0
  refine ⟨b, o, rfl, q1, by unfold maxLen at q2; exact q2, e1, ?_⟩
  by_cases e : C = 1
  · refine Or.inl ⟨e, by omega, ?_⟩
    rw [List.drop_eq_nil_of_le (by omega)]
    exact none_bytL w _ (Nat.zero_le _)
  · exact Or.inr ⟨e, drop_bytL h h1⟩

theorem conv_drew {w : World} {v : Value} {t : List Nat} (h : BytL w v t) (m : Nat) : (convert 25 9 v).run Try.prog (w.drewN m) = .ok (.string (strL t)) (w.drewN m) := by
  have h' : BytL (w.drewN m) v t := h
  exact convL h'

end Go.Proofs.Ytniaffofeeieead
