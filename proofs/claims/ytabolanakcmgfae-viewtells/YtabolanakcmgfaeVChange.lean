/-
  What view.changed and what it is handed do, call by call.
-/
import Derived.Test.YtabolanakcmgfaeVInsert
namespace Go.Proofs.Ytabolanakcmgfae
open Go.RowKit

theorem flat_set {α β : Type} (f : α → List β) (m : Nat) : ∀ (l : List α) (i t : Nat) (a a' : α) (u : β), (∀ a, a ∈ l → (f a).length = m) → t < m → l[i]? = some a → f a' = (f a).set t u → (l.flatMap f).set (i * m + t) u = (l.set i a').flatMap f
  | [], i, t, a, a', u, _, _, h, _ => by cases h
  | x :: l, 0, t, a, a', u, hm, ht, h, hf => by
    cases h
    rw [List.flatMap_cons, List.set_cons_zero, List.flatMap_cons, Nat.zero_mul, Nat.zero_add, List.set_append_left _ _ (by rw [hm x List.mem_cons_self]; exact ht), hf]
  | x :: l, i + 1, t, a, a', u, hm, ht, h, hf => by
    have hx := hm x List.mem_cons_self
    rw [List.flatMap_cons, List.set_cons_succ, List.flatMap_cons, List.set_append_right _ _ (by rw [hx, Nat.succ_mul]; omega), hx, show (i + 1) * m + t - m = i * m + t by rw [Nat.succ_mul]; omega, flat_set f m l i t a a' u (fun a ha => hm a (List.mem_cons_of_mem _ ha)) ht (by simpa using h) hf]
/-- A cell of one account is another one. -/
theorem ABuf.store {w : World} {B g n cap : Nat} {es : List AcC} (h : ABuf w B (.slice (some ⟨g, 0, none⟩) n cap) es) (hn : n = es.length) {i : Nat} {q : AcC} (hi : es[i]? = some q) (t : Nat) (ht : t < 4) (u : Value) (q' : AcC) (hq : acCells q' = (acCells q).set t u) (hs : q'.1.size ≤ 9223372036854775807) :
    ABuf (w.setCell ⟨g, i * 4 + t, none⟩ u) B (.slice (some ⟨g, 0, none⟩) n cap) (es.set i q') ∧ Below B w (w.setCell ⟨g, i * 4 + t, none⟩ u) := by
  subst hn
  have hB := (h.1.lt g rfl).1
  obtain ⟨h1, _⟩ := h.1.stored (i * 4 + t) u
  refine ⟨⟨?_, fun e he => ?_⟩, (Below.refl B w).setCell hB u⟩
  · rw [List.length_set, ← flat_set acCells 4 es i t q q' u (fun _ _ => rfl) ht hi hq]
    exact h1
  · rcases List.mem_or_eq_of_mem_set he with k | rfl
    · exact h.2 e k
    · exact hs
theorem ABuf.at {w : World} {B g n cap : Nat} {es : List AcC} (h : ABuf w B (.slice (some ⟨g, 0, none⟩) n cap) es) {i : Nat} {q : AcC} (hi : es[i]? = some q) :
    w.cell? ⟨g, i * 4, none⟩ = some (.string q.1) ∧ w.cell? ⟨g, i * 4 + 1, none⟩ = some (.int .i64 q.2.1) ∧ w.cell? ⟨g, i * 4 + 2, none⟩ = some (.int .i64 q.2.2.1) ∧ w.cell? ⟨g, i * 4 + 3, none⟩ = some (.bool q.2.2.2) ∧ ∀ j, w.frozen? ⟨g, j, none⟩ = false := by
  have hc : ∀ j u, (es.flatMap acCells)[j]? = some u → w.cell? ⟨g, j, none⟩ = some u := fun j u hj => by
    have := h.1.cells (g := g) rfl j u hj
    rw [WideShapes.add_plain, Nat.zero_add] at this
    exact this
  have hf := fun t ht => flat_get acCells 4 es (fun _ _ => rfl) i t ht q hi
  exact ⟨hc _ _ (hf 0 (by decide)), hc _ _ (hf 1 (by decide)), hc _ _ (hf 2 (by decide)), hc _ _ (hf 3 (by decide)), owns_frozen h.1 rfl⟩

/-- The account that e makes of another one, with its cells. -/
def chgC (q : AcC) (k m : Int) : AcC := (q.1, if k = 2 then q.2.1 + m else if k = 3 then q.2.1 - m else q.2.1, q.2.2.1 + 1, if k = 1 then true else if k = 4 then false else q.2.2.2)
theorem chgC_of (q : AcC) (n : List Nat) (k m : Int) : acOf (chgC q k m) = Vw.chg (acOf q) ⟨n, k, m⟩ := rfl

/-- What the change leaves. -/
def ChgO (e : Ending) (w w' : World) (B : Nat) (v : Value) (es : List AcC) : Prop := e = .returned (.tuple #[]) ∧ ABuf w' B v es ∧ Below B w w'

theorem Try.enters_chg : ∀ args w, (callFunc 56 args).run Try.prog w = .ok (.enter 56 args) w := enters_of Try.func56 (by kernel_rfl) rfl
set_option maxHeartbeats 1000000 in
set_option maxRecDepth 100000 in
theorem chg_any (B g n cap i p : Nat) (es : List AcC) (q : AcC) (k m : Int) (w : World) (h : ABuf w B (.slice (some ⟨g, 0, none⟩) n cap) es) (hn : n = es.length) (hi : es[i]? = some q) (hpB : p < B)
    (e1 : w.cell? ⟨p, 1, none⟩ = some (.int .i64 k)) (e2 : w.cell? ⟨p, 2, none⟩ = some (.int .i64 m)) (hk1 : 1 ≤ k) (hk4 : k ≤ 4) (hm0 : 0 ≤ m) (hm1 : m ≤ 1000000)
    (hc0 : 0 ≤ q.2.2.1) (hc1 : q.2.2.1 ≤ 150) (hs0 : -150000000 ≤ q.2.1) (hs1 : q.2.1 ≤ 150000000) :
    Calls Try.prog 56 #[.pointer (some ⟨g, i * 4, none⟩), .pointer (some ⟨p, 0, none⟩)] w fun e w' => ChgO e w w' B (.slice (some ⟨g, 0, none⟩) n cap) (es.set i (chgC q k m)) := by
  obtain ⟨s0, S, c, b⟩ := q
  have hsz : s0.size ≤ 9223372036854775807 := h.2 _ (List.mem_of_getElem? hi)
  have hB := (h.1.lt g rfl).1
  have hpg : p ≠ g := by omega
  obtain ⟨d0, d1, d2, d3, fr⟩ := h.at hi
  have f1 := fr (i * 4 + 1)
  have f2 := fr (i * 4 + 2)
  have f3 := fr (i * 4 + 3)
  obtain ⟨A1, b1⟩ := h.store hn hi 2 (by decide) (.int .i64 (c + 1)) (s0, S, c + 1, b) rfl hsz
  have hil : i < es.length := (List.getElem?_eq_some_iff.1 hi).1
  have hi1 : (es.set i (s0, S, c + 1, b))[i]? = some (s0, S, c + 1, b) := by simp [hil]
  have hc0 : 0 ≤ c := hc0
  have hc1 : c ≤ 150 := hc1
  have hs0 : -150000000 ≤ S := hs0
  have hs1 : S ≤ 150000000 := hs1
  have hw : wrap64 (c + 1) = c + 1 := by
    unfold wrap64
    omega
  have hwa : wrap64 (S + m) = S + m := by
    unfold wrap64
    omega
  have hwb : wrap64 (S - m) = S - m := by
    unfold wrap64
    omega
  rcases (show k = 1 ∨ k = 2 ∨ k = 3 ∨ k = 4 by omega) with rfl | rfl | rfl | rfl
  · obtain ⟨A2, b2⟩ := ABuf.store A1 (by rw [List.length_set]; exact hn) hi1 3 (by decide) (.bool true) (s0, S, c + 1, true) rfl hsz
    rw [List.set_set] at A2
    have HA : Hid (ABuf ((w.setCell ⟨g, i * 4 + 2, none⟩ (.int .i64 (c + 1))).setCell ⟨g, i * 4 + 3, none⟩ (.bool true)) B (.slice (some ⟨g, 0, none⟩) n cap) (es.set i (chgC (s0, S, c, b) 1 m)) ∧ Below B w ((w.setCell ⟨g, i * 4 + 2, none⟩ (.int .i64 (c + 1))).setCell ⟨g, i * 4 + 3, none⟩ (.bool true))) := ⟨A2, b1.trans b2⟩
    clear h hi A1 A2 b1 b2 hi1 hn fr
    go_enter Try.func56, Try.ntmps56
    go_wp2_with fail
    go_end0
    exact ⟨rfl, HA.out.1, HA.out.2⟩
  · obtain ⟨A2, b2⟩ := ABuf.store (show ABuf (w.setCell ⟨g, i * 4 + 2, none⟩ (.int .i64 (c + 1))).drew B (.slice (some ⟨g, 0, none⟩) n cap) _ from A1) (by rw [List.length_set]; exact hn) hi1 1 (by decide) (.int .i64 (S + m)) (s0, S + m, c + 1, b) rfl hsz
    rw [List.set_set] at A2
    have HA : Hid (ABuf ((w.setCell ⟨g, i * 4 + 2, none⟩ (.int .i64 (c + 1))).drew.setCell ⟨g, i * 4 + 1, none⟩ (.int .i64 (S + m))) B (.slice (some ⟨g, 0, none⟩) n cap) (es.set i (chgC (s0, S, c, b) 2 m)) ∧ Below B w ((w.setCell ⟨g, i * 4 + 2, none⟩ (.int .i64 (c + 1))).drew.setCell ⟨g, i * 4 + 1, none⟩ (.int .i64 (S + m)))) := ⟨A2, (show Below B w (w.setCell ⟨g, i * 4 + 2, none⟩ (.int .i64 (c + 1))).drew from ⟨b1.os, b1.tape, b1.output, b1.size, b1.block⟩).trans b2⟩
    clear h hi A1 A2 b1 b2 hi1 hn fr
    go_enter Try.func56, Try.ntmps56
    go_wp2_with fail
    go_region
    go_wp2_with fail
    go_end0
    exact ⟨rfl, HA.out.1, HA.out.2⟩
  · obtain ⟨A2, b2⟩ := ABuf.store (show ABuf (w.setCell ⟨g, i * 4 + 2, none⟩ (.int .i64 (c + 1))).drew B (.slice (some ⟨g, 0, none⟩) n cap) _ from A1) (by rw [List.length_set]; exact hn) hi1 1 (by decide) (.int .i64 (S - m)) (s0, S - m, c + 1, b) rfl hsz
    rw [List.set_set] at A2
    have HA : Hid (ABuf ((w.setCell ⟨g, i * 4 + 2, none⟩ (.int .i64 (c + 1))).drew.setCell ⟨g, i * 4 + 1, none⟩ (.int .i64 (S - m))) B (.slice (some ⟨g, 0, none⟩) n cap) (es.set i (chgC (s0, S, c, b) 3 m)) ∧ Below B w ((w.setCell ⟨g, i * 4 + 2, none⟩ (.int .i64 (c + 1))).drew.setCell ⟨g, i * 4 + 1, none⟩ (.int .i64 (S - m)))) := ⟨A2, (show Below B w (w.setCell ⟨g, i * 4 + 2, none⟩ (.int .i64 (c + 1))).drew from ⟨b1.os, b1.tape, b1.output, b1.size, b1.block⟩).trans b2⟩
    clear h hi A1 A2 b1 b2 hi1 hn fr
    go_enter Try.func56, Try.ntmps56
    go_wp2_with fail
    go_region
    go_wp2_with fail
    go_end0
    exact ⟨rfl, HA.out.1, HA.out.2⟩
  · obtain ⟨A2, b2⟩ := ABuf.store A1 (by rw [List.length_set]; exact hn) hi1 3 (by decide) (.bool false) (s0, S, c + 1, false) rfl hsz
    rw [List.set_set] at A2
    have HA : Hid (ABuf ((w.setCell ⟨g, i * 4 + 2, none⟩ (.int .i64 (c + 1))).setCell ⟨g, i * 4 + 3, none⟩ (.bool false)) B (.slice (some ⟨g, 0, none⟩) n cap) (es.set i (chgC (s0, S, c, b) 4 m)) ∧ Below B w ((w.setCell ⟨g, i * 4 + 2, none⟩ (.int .i64 (c + 1))).setCell ⟨g, i * 4 + 3, none⟩ (.bool false))) := ⟨A2, b1.trans b2⟩
    clear h hi A1 A2 b1 b2 hi1 hn fr
    go_enter Try.func56, Try.ntmps56
    go_wp2_with fail
    go_end0
    exact ⟨rfl, HA.out.1, HA.out.2⟩

/-- What is told of changed accounts. -/
def PutO (e : Ending) (w' : World) (N : Nat) (l : List Vw.Acc) : Prop := ∃ v es, e = .returned v ∧ es.map acOf = l ∧ ABuf w' N v es

set_option maxHeartbeats 1000000 in
set_option maxRecDepth 100000 in
theorem changed_any (u : Int) (t s : ByteArray) (k m : Int) (p : Nat) (vs : Value) (l : List Vw.Acc) (w : World) (h : Accs w vs l) (hr : Vw.Right u l) (ht : t.size ≤ 9223372036854775807)
    (e0 : w.cell? ⟨p, 0, none⟩ = some (.string s)) (e1 : w.cell? ⟨p, 1, none⟩ = some (.int .i64 k)) (e2 : w.cell? ⟨p, 2, none⟩ = some (.int .i64 m)) (hk1 : 1 ≤ k) (hk4 : k ≤ 4) (hm0 : 0 ≤ m) (hm1 : m ≤ 1000000) :
    Calls Try.prog 37 #[vs, .string t, .func (.func 56) #[] #[.pointer (some ⟨p, 0, none⟩)]] w fun e w' => PutO e w' w.heap.size (Vw.put l ⟨nb t, k, m⟩) ∧ Below w.heap.size w w' := by
  have eg := Try.enters_chg
  have hln := hr.len
  have hpl : p < w.heap.size := World.block_lt_of_cell? _ _ e0
  have H1 := search_any t vs l w h hr.srt hr.len
  have HR : Hid (Vw.Right u l) := hr
  clear hr
  go_enter Try.func37, Try.ntmps37
  go_wp2_with fail
  refine H1.mono ?_
  rintro e w1 ⟨⟨i, y, rfl, HC0, HY0⟩, b1⟩
  have hil : i ≤ l.length := HC0.1
  have HC : Hid (Vw.Cut l (nb t) i) := HC0
  have HY : Hid (y = true ↔ ∃ a, l[i]? = some a ∧ a.name = nb t) := HY0
  clear HC0 HY0
  have H2 := cloneA_any vs l w1 (h.below b1) (by omega)
  clear H1
  go_wp2_with fail
  refine H2.mono ?_
  rintro e w2 ⟨⟨v2, es, rfl, hes, hB0⟩, b2⟩
  have b12 := bt b1 b2
  have hB2 : ABuf w2 w.heap.size v2 es := ⟨⟨hB0.1.1, hB0.1.2.imp id (fun ⟨g, cap, cur, q1, q2, q3⟩ => ⟨g, cap, cur, q1, Nat.le_trans b1.size q2, q3⟩)⟩, hB0.2⟩
  have hel : es.length = l.length := by rw [← hes, List.length_map]
  have HE : Hid (es.map acOf = l) := hes
  have HEL : Hid (es.length = l.length) := hel
  clear H2 hes hel hB0
  cases y with
  | true =>
    have hel := HEL.out
    obtain ⟨a, ha1, ha2⟩ := HY.out.1 rfl
    have hil2 : i < es.length := by
      rw [hel]
      exact (List.getElem?_eq_some_iff.1 ha1).1
    obtain ⟨q, hq⟩ : ∃ q, es[i]? = some q := ⟨es[i], List.getElem?_eq_getElem hil2⟩
    have hqa : acOf q = a := by
      have := HE.out
      rw [← this, List.getElem?_map, hq] at ha1
      exact Option.some.inj ha1
    obtain ⟨r1, r2, r3, r4⟩ : 0 ≤ q.2.2.1 ∧ q.2.2.1 ≤ 150 ∧ -150000000 ≤ q.2.1 ∧ q.2.1 ≤ 150000000 := by
      obtain ⟨_, r1, r2, r3, r4⟩ := Vw.wrongA_inv (HR.out.acc a (List.mem_of_getElem? ha1))
      have ru := HR.out.hi
      rw [← hqa] at r1 r2 r3 r4
      have r1 : 1 ≤ q.2.2.1 := r1
      have r2 : q.2.2.1 ≤ u := r2
      have r3 : q.2.1 ≤ 1000000 * q.2.2.1 := r3
      have r4 : -(1000000 * q.2.2.1) ≤ q.2.1 := r4
      omega
    have HP : Hid ((es.set i (chgC q k m)).map acOf = Vw.put l ⟨nb t, k, m⟩) := by
      show _ = _
      rw [Vw.put_there (e := ⟨nb t, k, m⟩) HC.out ha1 ha2, List.map_set, HE.out, chgC_of q (nb t) k m, hqa]
    obtain ⟨g, cap, hve, hBg, hc1, hc2, hgl, hdr⟩ := owns_cells hB2.1 (by omega)
    subst hve
    unfold maxLen at hc2
    clear hdr
    have H3 := chg_any w.heap.size g es.length cap i p es q k m w2 hB2 rfl hq hpl ((b12.cell (p := ⟨p, 1, none⟩) hpl).trans e1) ((b12.cell (p := ⟨p, 2, none⟩) hpl).trans e2) hk1 hk4 hm0 hm1 r1 r2 r3 r4
    have hil3 : (i : Int) < (es.length : Int) := by omega
    clear hel hil2 hB2 hq hqa ha1 ha2 r1 r2 r3 r4
    go_wp2_with fail
    refine H3.mono ?_
    rintro e w3 ⟨rfl, hB3, b3⟩
    clear H3
    go_wp2_with fail
    go_ret
    exact ⟨⟨_, _, rfl, HP.out, hB3⟩, b12.trans b3⟩
  | false =>
    have HN : Hid (∀ a, l[i]? = some a → a.name ≠ nb t) := fun a ha e => absurd (HY.out.2 ⟨a, ha, e⟩) (by decide)
    have hNA : NewA (w2.alloc (.cells #[.string t, .int .i64 0, .int .i64 0, .bool false] 39)) w2.heap.size (t, 0, 0, false) := heap_alloc_new w2 _
    have b23 : Below w2.heap.size w2 (w2.alloc (.cells #[.string t, .int .i64 0, .int .i64 0, .bool false] 39)) := (Below.refl _ _).alloc (Nat.le_refl _) _
    have hel := HEL.out
    have H3 := insert_any w.heap.size i w2.heap.size v2 es (t, 0, 0, false) _ (hB2.below b23) (Nat.le_trans b12.size b23.size) (by omega) (by omega) hNA (fun e => by
      have := (hB2.1.lt _ e).2
      omega) ht
    have b13 := bt b12 b23
    obtain ⟨es3, hes3⟩ : ∃ es3, es3 = es.take i ++ ((t, 0, 0, false) : AcC) :: es.drop i := ⟨_, rfl⟩
    rw [← hes3] at H3
    have hil3 : i < es3.length := by
      rw [hes3]
      simp
      omega
    have hq : es3[i]? = some (t, 0, 0, false) := by
      rw [hes3, List.getElem?_append_right (by rw [List.length_take]; omega), List.length_take, show i - min i es.length = 0 by omega]
      rfl
    have HP : Hid ((es3.set i (chgC (t, 0, 0, false) k m)).map acOf = Vw.put l ⟨nb t, k, m⟩) := by
      show _ = _
      rw [Vw.put_new (e := ⟨nb t, k, m⟩) HC.out HN.out, hes3, List.set_append_right _ _ (by rw [List.length_take]; omega), List.length_take, show i - min i es.length = 0 by omega, List.set_cons_zero, List.map_append, List.map_cons, List.map_take, List.map_drop, HE.out, chgC_of _ (nb t) k m]
      rfl
    clear hNA hB2 hel hes3
    go_wp2_with fail
    refine H3.mono ?_
    rintro e w3 ⟨⟨v3, rfl, hB3⟩, b3⟩
    have b3 := b13.trans b3
    obtain ⟨g, cap, rfl, hBg, hc1, hc2, hgl, _⟩ := owns_cells hB3.1 (by omega)
    unfold maxLen at hc2
    have H4 := chg_any w.heap.size g es3.length cap i p es3 (t, 0, 0, false) k m w3 hB3 rfl hq hpl ((b3.cell (p := ⟨p, 1, none⟩) hpl).trans e1) ((b3.cell (p := ⟨p, 2, none⟩) hpl).trans e2) hk1 hk4 hm0 hm1 (Int.le_refl 0) (by show (0 : Int) ≤ 150; omega) (by show -150000000 ≤ (0 : Int); omega) (by show (0 : Int) ≤ 150000000; omega)
    have hil4 : (i : Int) < (es3.length : Int) := by omega
    clear H3 hB3 hq
    go_wp2_with fail
    refine H4.mono ?_
    rintro e w4 ⟨rfl, hB4, b4⟩
    clear H4
    go_wp2_with fail
    go_ret
    exact ⟨⟨_, _, rfl, HP.out, hB4⟩, b3.trans b4⟩

end Go.Proofs.Ytabolanakcmgfae
