/-
  What the document's own Get and May do, call by call.
-/
import Derived.Test.YtabolanakcmgfaeVGet
namespace Go.Proofs.Ytabolanakcmgfae
open Go.RowKit

theorem VarA.set4 {w : World} {p : Nat} {a b c d : Value} (h : VarA w p a b c d) (x y z u : Value) : VarA ((((w.setCell ⟨p, 0, none⟩ x).setCell ⟨p, 1, none⟩ y).setCell ⟨p, 2, none⟩ z).setCell ⟨p, 3, none⟩ u) p x y z u := by
  have c0 := h.c0
  have c1 := h.c1
  have c2 := h.c2
  have c3 := h.c3
  exact ⟨by go_simp, by go_simp, by go_simp, by go_simp, fun i => by have := h.fr i; go_simp⟩
theorem off_four (w : World) (p : Nat) (x y z u : Value) : Off (fun j => j = p) w ((((w.setCell ⟨p, 0, none⟩ x).setCell ⟨p, 1, none⟩ y).setCell ⟨p, 2, none⟩ z).setCell ⟨p, 3, none⟩ u) :=
  ((((Off.refl (fun j => j = p) w).set (p := ⟨p, 0, none⟩) rfl x).set (p := ⟨p, 1, none⟩) rfl y).set (p := ⟨p, 2, none⟩) rfl z).set (p := ⟨p, 3, none⟩) rfl u
theorem VarA.off {S : Nat → Prop} {w w' : World} {p : Nat} {a b c d : Value} (h : VarA w p a b c d) (ho : Off S w w') (hS : ¬ S p) : VarA w' p a b c d := by
  have hp : p < w.heap.size := World.block_lt_of_cell? _ _ h.c0
  have hb := ho.block p hp hS
  exact ⟨(World.cell?_of_block (w := w) (a := ⟨p, 0, none⟩) hb).trans h.c0, (World.cell?_of_block (w := w) (a := ⟨p, 1, none⟩) hb).trans h.c1, (World.cell?_of_block (w := w) (a := ⟨p, 2, none⟩) hb).trans h.c2, (World.cell?_of_block (w := w) (a := ⟨p, 3, none⟩) hb).trans h.c3, fun i => (World.frozen?_of_block (w := w) (a := ⟨p, i, none⟩) hb).trans (h.fr i)⟩

/-- A search under way: what was found so far. -/
structure GS (w wr : World) (N : Nat) (v : Value) (u : Int) (g : Vw.Acc) : Prop where
  vv : VarF wr N (.int .i64 u) v
  va : VarA wr (N + 1) (.string (ByteArray.mk #[])) (.int .i64 0) (.int .i64 0) (.bool false)
  vo : ∃ s : ByteArray, s.size ≤ 9223372036854775807 ∧ nb s = g.name ∧ VarA wr (N + 1 + 1) (.string s) (.int .i64 g.sum) (.int .i64 g.cnt) (.bool g.opn)
  bel : Below N w wr
theorem GS.put {w wr : World} {N : Nat} {v : Value} {u : Int} {g : Vw.Acc} (h : GS w wr N v u g) (s : ByteArray) (a : Vw.Acc) (hs : s.size ≤ 9223372036854775807) (hn : nb s = a.name) : GS w ((((wr.setCell ⟨N + 1 + 1, 0, none⟩ (.string s)).setCell ⟨N + 1 + 1, 1, none⟩ (.int .i64 a.sum)).setCell ⟨N + 1 + 1, 2, none⟩ (.int .i64 a.cnt)).setCell ⟨N + 1 + 1, 3, none⟩ (.bool a.opn)) N v u a := by
  have ho := off_four wr (N + 1 + 1) (.string s) (.int .i64 a.sum) (.int .i64 a.cnt) (.bool a.opn)
  obtain ⟨s0, _, _, h3⟩ := h.vo
  have hN : N ≤ N + 1 + 1 := by omega
  exact ⟨h.vv.off ho (by omega), h.va.off ho (by omega), ⟨s, hs, hn, h3.set4 _ _ _ _⟩, (((h.bel.setCell hN _).setCell hN _).setCell hN _).setCell hN _⟩

set_option maxHeartbeats 2000000 in
set_option maxRecDepth 100000 in
theorem refGet_any (u : Int) (t : ByteArray) (vs : Value) (l : List Vw.Acc) (w : World) (h : Accs w vs l) (ht : t.size ≤ 9223372036854775807) :
    Calls Try.prog 14 #[.agg #[.int .i64 u, vs], .string t] w fun e w' => GetO e (Vw.get l (nb t)) ∧ Below w.heap.size w w' := by
  have hln := h.len
  obtain ⟨A, C, rfl, _, _, hc⟩ := h
  have h1 : Below w.heap.size w (w.alloc (.cells #[.int .i64 u, .slice A l.length C] 33)) := (Below.refl _ _).alloc (Nat.le_refl _) _
  have h2 := h1.alloc h1.size (.cells #[.string (ByteArray.mk #[]), .int .i64 0, .int .i64 0, .bool false] 39)
  have h3 := h2.alloc h2.size (.cells #[.string t, .int .i64 0, .int .i64 0, .bool false] 39)
  have S0 : GS w (((w.alloc (.cells #[.int .i64 u, .slice A l.length C] 33)).alloc (.cells #[.string (ByteArray.mk #[]), .int .i64 0, .int .i64 0, .bool false] 39)).alloc (.cells #[.string t, .int .i64 0, .int .i64 0, .bool false] 39)) w.heap.size (.slice A l.length C) u (Vw.fresh (nb t)) := by
    have b2 : Below (w.alloc (.cells #[.int .i64 u, .slice A l.length C] 33)).heap.size (w.alloc (.cells #[.int .i64 u, .slice A l.length C] 33)) ((w.alloc (.cells #[.int .i64 u, .slice A l.length C] 33)).alloc (.cells #[.string (ByteArray.mk #[]), .int .i64 0, .int .i64 0, .bool false] 39)) := (Below.refl _ _).alloc (Nat.le_refl _) _
    have b3 : Below ((w.alloc (.cells #[.int .i64 u, .slice A l.length C] 33)).alloc (.cells #[.string (ByteArray.mk #[]), .int .i64 0, .int .i64 0, .bool false] 39)).heap.size ((w.alloc (.cells #[.int .i64 u, .slice A l.length C] 33)).alloc (.cells #[.string (ByteArray.mk #[]), .int .i64 0, .int .i64 0, .bool false] 39)) (((w.alloc (.cells #[.int .i64 u, .slice A l.length C] 33)).alloc (.cells #[.string (ByteArray.mk #[]), .int .i64 0, .int .i64 0, .bool false] 39)).alloc (.cells #[.string t, .int .i64 0, .int .i64 0, .bool false] 39)) := (Below.refl _ _).alloc (Nat.le_refl _) _
    have V2 := (varA_new (w.alloc (.cells #[.int .i64 u, .slice A l.length C] 33)) 39 (.string (ByteArray.mk #[])) (.int .i64 0) (.int .i64 0) (.bool false)).below b3
    have V3 := varA_new ((w.alloc (.cells #[.int .i64 u, .slice A l.length C] 33)).alloc (.cells #[.string (ByteArray.mk #[]), .int .i64 0, .int .i64 0, .bool false] 39)) 39 (.string t) (.int .i64 0) (.int .i64 0) (.bool false)
    rw [show (w.alloc (.cells #[.int .i64 u, .slice A l.length C] 33)).heap.size = w.heap.size + 1 by simp] at V2
    rw [show ((w.alloc (.cells #[.int .i64 u, .slice A l.length C] 33)).alloc (.cells #[.string (ByteArray.mk #[]), .int .i64 0, .int .i64 0, .bool false] 39)).heap.size = w.heap.size + 1 + 1 by simp] at V3
    exact ⟨((varF_new w 33 (.int .i64 u) (.slice A l.length C)).below b2).below b3, V2, ⟨t, ht, rfl, V3⟩, h3⟩
  clear h1 h2 h3
  go_enter Try.func14, Try.ntmps14
  have v1 := S0.vv.c1
  go_wp2_with fail
  generalize ((w.alloc (.cells #[.int .i64 u, .slice A l.length C] 33)).alloc (.cells #[.string (ByteArray.mk #[]), .int .i64 0, .int .i64 0, .bool false] 39)).alloc (.cells #[.string t, .int .i64 0, .int .i64 0, .bool false] 39) = W0 at S0 v1 ⊢
  clear v1
  go_loopw [6] (fun x wr => ∃ j : Nat, j ≤ l.length ∧ x = .int .i64 ((j : Int) - 1) ∧ GS w wr w.heap.size (.slice A l.length C) u (Vw.get (l.drop j) (nb t))) (fun x _ => (intOf x + 1).toNat)
  case atStart => exact ⟨l.length, Nat.le_refl _, val_int (by omega), by rw [List.drop_length]; exact S0⟩
  case round =>
    obtain ⟨j, hj, rfl, SJ⟩ := hrel
    clear S0
    have v1 := SJ.vv.c1
    rcases Nat.eq_zero_or_pos j with hj0 | hj0
    · have hneg : ¬ (0 : Int) ≤ (j : Int) - 1 := by omega
      have HG : Hid (GS w wr w.heap.size (.slice A l.length C) u (Vw.get l (nb t))) := by
        have h := SJ
        rw [hj0, List.drop_zero] at h
        exact h
      obtain ⟨g, hg⟩ : ∃ g, Vw.get l (nb t) = g := ⟨_, rfl⟩
      have HE : Hid (Vw.get l (nb t) = g) := hg
      rw [hg] at HG
      clear hg
      obtain ⟨s, hs1, hs2, c0, c1, c2, c3, _⟩ := HG.out.vo
      obtain ⟨r0, r1, r2, r3, fr⟩ := HG.out.va
      have f0 := fr 0
      have f1 := fr 1
      have f2 := fr 2
      have f3 := fr 3
      have bb := HG.out.bel
      have hN : w.heap.size ≤ w.heap.size + 1 := by omega
      clear SJ hc HG
      go_wp2_with fail
      refine bodyPost_ret (v := .agg #[.string s, .int .i64 g.sum, .int .i64 g.cnt, .bool g.opn]) (by simp [results, Try.results14, go_sem, r0, r1, r2, r3]) rfl ⟨by rw [HE.out]; exact ⟨_, rfl, s, hs1, hs2, rfl⟩, ?_⟩
      exact (((bb.setCell hN _).setCell hN _).setCell hN _).setCell hN _
    · obtain ⟨i, rfl⟩ : ∃ i, j = i + 1 := ⟨j - 1, by omega⟩
      obtain ⟨a, ha⟩ : ∃ a, l[i]? = some a := ⟨l[i], List.getElem?_eq_getElem (by omega)⟩
      obtain ⟨b, o, rfl, hin⟩ := hc i a ha
      obtain ⟨s, hs1, hs2, d0, d1, d2, d3⟩ := hin.below SJ.bel
      have HD : Hid (l.drop i = a :: l.drop (i + 1)) := Vw.drop_at ha
      have hse0 := same_nb s t
      have hi1 : ((i + 1 : Nat) : Int) - 1 = (i : Int) := by omega
      have hi2 : (i : Int) < (l.length : Int) := by omega
      rw [hs2] at hse0
      rw [hi1]
      obtain ⟨s', _, _, e0, e1, e2, e3, fr⟩ := SJ.vo
      have f0 := fr 0
      have f1 := fr 1
      have f2 := fr 2
      have f3 := fr 3
      by_cases hq : a.name = nb t
      · have hse : (s.toList == t.toList) = true := by
          rw [hse0]
          simpa using hq
        have HS : Hid (GS w ((((wr.setCell ⟨w.heap.size + 1 + 1, 0, none⟩ (.string s)).setCell ⟨w.heap.size + 1 + 1, 1, none⟩ (.int .i64 a.sum)).setCell ⟨w.heap.size + 1 + 1, 2, none⟩ (.int .i64 a.cnt)).setCell ⟨w.heap.size + 1 + 1, 3, none⟩ (.bool a.opn)) w.heap.size (.slice (some ⟨b, o, none⟩) l.length C) u (Vw.get (l.drop i) (nb t))) := by
          show GS w _ w.heap.size _ u (Vw.get (l.drop i) (nb t))
          rw [HD.out, Vw.get, if_pos hq]
          exact SJ.put s a hs1 hs2
        clear hse0 hq hc ha hin SJ hs2
        go_wp2_with fail
        exact ⟨⟨i, by omega, val_int (by omega), HS.out⟩, by simp [intOf]⟩
      · have hse : (s.toList == t.toList) = false := by
          rw [hse0]
          simpa using hq
        have HS : Hid (GS w wr w.heap.size (.slice (some ⟨b, o, none⟩) l.length C) u (Vw.get (l.drop i) (nb t))) := by
          show GS w _ w.heap.size _ u (Vw.get (l.drop i) (nb t))
          rw [HD.out, Vw.get, if_neg hq]
          exact SJ
        clear hse0 hq hc ha hin SJ hs2
        go_wp2_with fail
        exact ⟨⟨i, by omega, val_int (by omega), HS.out⟩, by simp [intOf]⟩

set_option maxHeartbeats 1000000 in
set_option maxRecDepth 100000 in
theorem refMay_any (s s' : ByteArray) (S c k m : Int) (b : Bool) (w : World) :
    Calls Try.prog 17 #[.agg #[.string s, .int .i64 S, .int .i64 c, .bool b], .agg #[.string s', .int .i64 k, .int .i64 m]] w fun e w' => e = .returned (.bool (Vw.may ⟨nb s, S, c, b⟩ ⟨nb s', k, m⟩)) ∧ Below w.heap.size w w' := by
  have h1 : Below w.heap.size w (w.alloc (.cells #[.string s, .int .i64 S, .int .i64 c, .bool b] 39)) := (Below.refl _ _).alloc (Nat.le_refl _) _
  have h2 := h1.alloc h1.size (.cells #[.string s', .int .i64 k, .int .i64 m] 42)
  by_cases q1 : k = 1
  · have H : Hid (Vw.may ⟨nb s, S, c, b⟩ ⟨nb s', k, m⟩ = !b) := may_1 q1
    subst q1
    cases b with
    | false =>
      go_enter Try.func17, Try.ntmps17
      go_wp2_with fail
      go_ret
      exact ⟨by rw [H.out]; rfl, h2⟩
    | true =>
      go_enter Try.func17, Try.ntmps17
      go_wp2_with fail
      go_ret
      exact ⟨by rw [H.out]; rfl, h2⟩
  have e1 : (k == 1) = false := by rw [beq_eq_false_iff_ne]; exact q1
  by_cases q2 : k = 2
  · have H : Hid (Vw.may ⟨nb s, S, c, b⟩ ⟨nb s', k, m⟩ = b) := may_24 (Or.inl q2)
    subst q2
    clear q1 e1
    cases b with
    | false =>
      go_enter Try.func17, Try.ntmps17
      go_wp2_with fail
      go_ret
      exact ⟨by rw [H.out]; rfl, h2⟩
    | true =>
      go_enter Try.func17, Try.ntmps17
      go_wp2_with fail
      go_ret
      exact ⟨by rw [H.out]; rfl, h2⟩
  have e2 : (k == 2) = false := by rw [beq_eq_false_iff_ne]; exact q2
  by_cases q4 : k = 4
  · have H : Hid (Vw.may ⟨nb s, S, c, b⟩ ⟨nb s', k, m⟩ = b) := may_24 (Or.inr q4)
    subst q4
    clear q1 e1 q2 e2
    cases b with
    | false =>
      go_enter Try.func17, Try.ntmps17
      go_wp2_with fail
      go_ret
      exact ⟨by rw [H.out]; rfl, h2⟩
    | true =>
      go_enter Try.func17, Try.ntmps17
      go_wp2_with fail
      go_ret
      exact ⟨by rw [H.out]; rfl, h2⟩
  have e4 : (k == 4) = false := by rw [beq_eq_false_iff_ne]; exact q4
  by_cases q3 : k = 3
  · have H : Hid (Vw.may ⟨nb s, S, c, b⟩ ⟨nb s', k, m⟩ = (b && decide (m ≤ S))) := may_3 q3
    subst q3
    clear q1 e1 q2 e2 q4 e4
    cases b with
    | false =>
      go_enter Try.func17, Try.ntmps17
      go_wp2_with fail
      go_ret
      exact ⟨by rw [H.out]; rfl, h2⟩
    | true =>
      go_enter Try.func17, Try.ntmps17
      go_wp2_with fail
      go_ret
      exact ⟨by rw [H.out]; rfl, h2⟩
  have e3 : (k == 3) = false := by rw [beq_eq_false_iff_ne]; exact q3
  have H : Hid (Vw.may ⟨nb s, S, c, b⟩ ⟨nb s', k, m⟩ = false) := may_no q1 q2 q3 q4
  clear q1 q2 q3 q4
  go_enter Try.func17, Try.ntmps17
  go_wp2_with fail
  go_ret
  exact ⟨by rw [H.out]; rfl, h2⟩

end Go.Proofs.Ytabolanakcmgfae
