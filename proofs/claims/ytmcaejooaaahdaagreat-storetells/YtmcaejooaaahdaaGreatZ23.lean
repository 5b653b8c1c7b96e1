/-
  Texts of the proof, joined: VChange, HHold.
-/
import Derived.Test.YtmcaejooaaahdaaGreatZ21
import Derived.Test.YtmcaejooaaahdaaGreatZ20
import Derived.Test.YtmcaejooaaahdaaGreatZ22
namespace Go.Proofs.YtmcaejooaaahdaaGreat
open Go.RowKit

theorem flat_set {α β : Type} (f : α → List β) (m : Nat) : ∀ (l : List α) (i t : Nat) (a a' : α) (u : β), (∀ a, a ∈ l → (f a).length = m) → t < m → l[i]? = some a → f a' = (f a).set t u → (l.flatMap f).set (i * m + t) u = (l.set i a').flatMap f
  | [], i, t, a, a', u, _, _, h, _ => by cases h
  | x :: l, 0, t, a, a', u, hm, ht, h, hf => by
    cases h
    rw [List.flatMap_cons, List.set_cons_zero, List.flatMap_cons, Nat.zero_mul, Nat.zero_add, List.set_append_left _ _ (by rw [hm x List.mem_cons_self]; exact ht), hf]
  | x :: l, i + 1, t, a, a', u, hm, ht, h, hf => by
    have hx := hm x List.mem_cons_self
    rw [List.flatMap_cons, List.set_cons_succ, List.flatMap_cons, List.set_append_right _ _ (by rw [hx, Nat.succ_mul]; omega), hx, show (i + 1) * m + t - m = i * m + t by rw [Nat.succ_mul]; omega, flat_set f m l i t a a' u (fun a ha => hm a (List.mem_cons_of_mem _ ha)) ht (by simpa using h) hf]
/-- A cell of one account is another one. -/
theorem ABuf.store {w : World} {B g n cap : Nat} {es : List AcC} (h : ABuf w B (.slice (some ⟨g, 0, none⟩) n cap) es) (hn : n = es.length) {i : Nat} {q : AcC} (hi : es[i]? = some q) (t : Nat) (ht : t < 4) (u : Value) (q' : AcC) (hq : acCells q' = (acCells q).set t u) (hs : q'.1.size ≤ 9223372036854775807) :
    ABuf (w.setCell ⟨g, i * 4 + t, none⟩ u) B (.slice (some ⟨g, 0, none⟩) n cap) (es.set i q') ∧ Below B w (w.setCell ⟨g, i * 4 + t, none⟩ u) := by
  subst hn
  have hB := (h.1.lt g rfl).1
  obtain ⟨h1, _⟩ := h.1.stored (i * 4 + t) u
  refine ⟨⟨?_, fun e he => ?_⟩, (Below.refl B w).setCell hB u⟩
  · rw [List.length_set, ← flat_set acCells 4 es i t q q' u (fun _ _ => rfl) ht hi hq]
    exact h1
  · rcases List.mem_or_eq_of_mem_set he with k | rfl
    · exact h.2 e k
    · exact hs
theorem ABuf.at {w : World} {B g n cap : Nat} {es : List AcC} (h : ABuf w B (.slice (some ⟨g, 0, none⟩) n cap) es) {i : Nat} {q : AcC} (hi : es[i]? = some q) :
    w.cell? ⟨g, i * 4, none⟩ = some (.string q.1) ∧ w.cell? ⟨g, i * 4 + 1, none⟩ = some (.int .i64 q.2.1) ∧ w.cell? ⟨g, i * 4 + 2, none⟩ = some (.int .i64 q.2.2.1) ∧ w.cell? ⟨g, i * 4 + 3, none⟩ = some (.bool q.2.2.2) ∧ ∀ j, w.frozen? ⟨g, j, none⟩ = false := by
  have hc : ∀ j u, (es.flatMap acCells)[j]? = some u → w.cell? ⟨g, j, none⟩ = some u := fun j u hj => by
    have := h.1.cells (g := g) rfl j u hj
    rw [WideShapes.add_plain, Nat.zero_add] at this
    exact this
  have hf := fun t ht => flat_get acCells 4 es (fun _ _ => rfl) i t ht q hi
  exact ⟨hc _ _ (hf 0 (by decide)), hc _ _ (hf 1 (by decide)), hc _ _ (hf 2 (by decide)), hc _ _ (hf 3 (by decide)), owns_frozen h.1 rfl⟩

/-- The account that e makes of another one, with its cells. -/
def chgC (q : AcC) (k m : Int) : AcC := (q.1, if k = 2 then q.2.1 + m else if k = 3 then q.2.1 - m else q.2.1, q.2.2.1 + 1, if k = 1 then true else if k = 4 then false else q.2.2.2)
theorem chgC_of (q : AcC) (n : List Nat) (k m : Int) : acOf (chgC q k m) = Vw.chg (acOf q) ⟨n, k, m⟩ := rfl

/-- What the change leaves. -/
def ChgO (e : Ending) (w w' : World) (B : Nat) (v : Value) (es : List AcC) : Prop := e = .returned (.tuple #[]) ∧ ABuf w' B v es ∧ Below B w w'

theorem Tryz.enters_chg : ∀ args w, (callFunc 133 args).run Tryz.prog w = .ok (.enter 133 args) w := enters_of Tryz.func133 (by kernel_rfl) rfl
set_option maxHeartbeats 1000000 in
set_option maxRecDepth 100000 in
theorem chg_any (B g n cap i p : Nat) (es : List AcC) (q : AcC) (k m : Int) (w : World) (h : ABuf w B (.slice (some ⟨g, 0, none⟩) n cap) es) (hn : n = es.length) (hi : es[i]? = some q) (hpB : p < B)
    (e1 : w.cell? ⟨p, 1, none⟩ = some (.int .i64 k)) (e2 : w.cell? ⟨p, 2, none⟩ = some (.int .i64 m)) (hk1 : 1 ≤ k) (hk4 : k ≤ 4) (hm0 : 0 ≤ m) (hm1 : m ≤ 1000000)
    (hc0 : 0 ≤ q.2.2.1) (hc1 : q.2.2.1 ≤ 150) (hs0 : -150000000 ≤ q.2.1) (hs1 : q.2.1 ≤ 150000000) :
    Calls Tryz.prog 133 #[.pointer (some ⟨g, i * 4, none⟩), .pointer (some ⟨p, 0, none⟩)] w fun e w' => ChgO e w w' B (.slice (some ⟨g, 0, none⟩) n cap) (es.set i (chgC q k m)) := by
  obtain ⟨s0, S, c, b⟩ := q
  have hsz : s0.size ≤ 9223372036854775807 := h.2 _ (List.mem_of_getElem? hi)
  have hB := (h.1.lt g rfl).1
  have hpg : p ≠ g := by omega
  obtain ⟨d0, d1, d2, d3, fr⟩ := h.at hi
  have f1 := fr (i * 4 + 1)
  have f2 := fr (i * 4 + 2)
  have f3 := fr (i * 4 + 3)
  obtain ⟨A1, b1⟩ := h.store hn hi 2 (by decide) (.int .i64 (c + 1)) (s0, S, c + 1, b) rfl hsz
  have hil : i < es.length := (List.getElem?_eq_some_iff.1 hi).1
  have hi1 : (es.set i (s0, S, c + 1, b))[i]? = some (s0, S, c + 1, b) := by simp [hil]
  have hc0 : 0 ≤ c := hc0
  have hc1 : c ≤ 150 := hc1
  have hs0 : -150000000 ≤ S := hs0
  have hs1 : S ≤ 150000000 := hs1
  have hw : wrap64 (c + 1) = c + 1 := by
    unfold wrap64
    omega
  have hwa : wrap64 (S + m) = S + m := by
    unfold wrap64
    omega
  have hwb : wrap64 (S - m) = S - m := by
    unfold wrap64
    omega
  rcases (show k = 1 ∨ k = 2 ∨ k = 3 ∨ k = 4 by omega) with rfl | rfl | rfl | rfl
  · obtain ⟨A2, b2⟩ := ABuf.store A1 (by rw [List.length_set]; exact hn) hi1 3 (by decide) (.bool true) (s0, S, c + 1, true) rfl hsz
    rw [List.set_set] at A2
    have HA : Hid (ABuf ((w.setCell ⟨g, i * 4 + 2, none⟩ (.int .i64 (c + 1))).setCell ⟨g, i * 4 + 3, none⟩ (.bool true)) B (.slice (some ⟨g, 0, none⟩) n cap) (es.set i (chgC (s0, S, c, b) 1 m)) ∧ Below B w ((w.setCell ⟨g, i * 4 + 2, none⟩ (.int .i64 (c + 1))).setCell ⟨g, i * 4 + 3, none⟩ (.bool true))) := ⟨A2, b1.trans b2⟩
    clear h hi A1 A2 b1 b2 hi1 hn fr
    go_enter Tryz.func133, Tryz.ntmps133
    go_wp2_with fail
    go_end0
    exact ⟨rfl, HA.out.1, HA.out.2⟩
  · obtain ⟨A2, b2⟩ := ABuf.store (show ABuf (w.setCell ⟨g, i * 4 + 2, none⟩ (.int .i64 (c + 1))).drew B (.slice (some ⟨g, 0, none⟩) n cap) _ from A1) (by rw [List.length_set]; exact hn) hi1 1 (by decide) (.int .i64 (S + m)) (s0, S + m, c + 1, b) rfl hsz
    rw [List.set_set] at A2
    have HA : Hid (ABuf ((w.setCell ⟨g, i * 4 + 2, none⟩ (.int .i64 (c + 1))).drew.setCell ⟨g, i * 4 + 1, none⟩ (.int .i64 (S + m))) B (.slice (some ⟨g, 0, none⟩) n cap) (es.set i (chgC (s0, S, c, b) 2 m)) ∧ Below B w ((w.setCell ⟨g, i * 4 + 2, none⟩ (.int .i64 (c + 1))).drew.setCell ⟨g, i * 4 + 1, none⟩ (.int .i64 (S + m)))) := ⟨A2, (show Below B w (w.setCell ⟨g, i * 4 + 2, none⟩ (.int .i64 (c + 1))).drew from ⟨b1.os, b1.tape, b1.output, b1.size, b1.block⟩).trans b2⟩
    clear h hi A1 A2 b1 b2 hi1 hn fr
    go_enter Tryz.func133, Tryz.ntmps133
    go_wp2_with fail
    go_region
    go_wp2_with fail
    go_end0
    exact ⟨rfl, HA.out.1, HA.out.2⟩
  · obtain ⟨A2, b2⟩ := ABuf.store (show ABuf (w.setCell ⟨g, i * 4 + 2, none⟩ (.int .i64 (c + 1))).drew B (.slice (some ⟨g, 0, none⟩) n cap) _ from A1) (by rw [List.length_set]; exact hn) hi1 1 (by decide) (.int .i64 (S - m)) (s0, S - m, c + 1, b) rfl hsz
    rw [List.set_set] at A2
    have HA : Hid (ABuf ((w.setCell ⟨g, i * 4 + 2, none⟩ (.int .i64 (c + 1))).drew.setCell ⟨g, i * 4 + 1, none⟩ (.int .i64 (S - m))) B (.slice (some ⟨g, 0, none⟩) n cap) (es.set i (chgC (s0, S, c, b) 3 m)) ∧ Below B w ((w.setCell ⟨g, i * 4 + 2, none⟩ (.int .i64 (c + 1))).drew.setCell ⟨g, i * 4 + 1, none⟩ (.int .i64 (S - m)))) := ⟨A2, (show Below B w (w.setCell ⟨g, i * 4 + 2, none⟩ (.int .i64 (c + 1))).drew from ⟨b1.os, b1.tape, b1.output, b1.size, b1.block⟩).trans b2⟩
    clear h hi A1 A2 b1 b2 hi1 hn fr
    go_enter Tryz.func133, Tryz.ntmps133
    go_wp2_with fail
    go_region
    go_wp2_with fail
    go_end0
    exact ⟨rfl, HA.out.1, HA.out.2⟩
  · obtain ⟨A2, b2⟩ := ABuf.store A1 (by rw [List.length_set]; exact hn) hi1 3 (by decide) (.bool false) (s0, S, c + 1, false) rfl hsz
    rw [List.set_set] at A2
    have HA : Hid (ABuf ((w.setCell ⟨g, i * 4 + 2, none⟩ (.int .i64 (c + 1))).setCell ⟨g, i * 4 + 3, none⟩ (.bool false)) B (.slice (some ⟨g, 0, none⟩) n cap) (es.set i (chgC (s0, S, c, b) 4 m)) ∧ Below B w ((w.setCell ⟨g, i * 4 + 2, none⟩ (.int .i64 (c + 1))).setCell ⟨g, i * 4 + 3, none⟩ (.bool false))) := ⟨A2, b1.trans b2⟩
    clear h hi A1 A2 b1 b2 hi1 hn fr
    go_enter Tryz.func133, Tryz.ntmps133
    go_wp2_with fail
    go_end0
    exact ⟨rfl, HA.out.1, HA.out.2⟩

/-- What is told of changed accounts. -/
def PutO (e : Ending) (w' : World) (N : Nat) (l : List Vw.Acc) : Prop := ∃ v es, e = .returned v ∧ es.map acOf = l ∧ ABuf w' N v es

set_option maxHeartbeats 1000000 in
set_option maxRecDepth 100000 in
theorem changed_any (u : Int) (t s : ByteArray) (k m : Int) (p : Nat) (vs : Value) (l : List Vw.Acc) (w : World) (h : Accs w vs l) (hr : Vw.Right u l) (ht : t.size ≤ 9223372036854775807)
    (e0 : w.cell? ⟨p, 0, none⟩ = some (.string s)) (e1 : w.cell? ⟨p, 1, none⟩ = some (.int .i64 k)) (e2 : w.cell? ⟨p, 2, none⟩ = some (.int .i64 m)) (hk1 : 1 ≤ k) (hk4 : k ≤ 4) (hm0 : 0 ≤ m) (hm1 : m ≤ 1000000) :
    Calls Tryz.prog 105 #[vs, .string t, .func (.func 133) #[] #[.pointer (some ⟨p, 0, none⟩)]] w fun e w' => PutO e w' w.heap.size (Vw.put l ⟨nb t, k, m⟩) ∧ Below w.heap.size w w' := by
  have eg := Tryz.enters_chg
  have hln := hr.len
  have hpl : p < w.heap.size := World.block_lt_of_cell? _ _ e0
  have H1 := search_any t vs l w h hr.srt hr.len
  have HR : Hid (Vw.Right u l) := hr
  clear hr
  go_enter Tryz.func105, Tryz.ntmps105
  go_wp2_with fail
  refine H1.mono ?_
  rintro e w1 ⟨⟨i, y, rfl, HC0, HY0⟩, b1⟩
  have hil : i ≤ l.length := HC0.1
  have HC : Hid (Vw.Cut l (nb t) i) := HC0
  have HY : Hid (y = true ↔ ∃ a, l[i]? = some a ∧ a.name = nb t) := HY0
  clear HC0 HY0
  have H2 := cloneA_any vs l w1 (h.below b1) (by omega)
  clear H1
  go_wp2_with fail
  refine H2.mono ?_
  rintro e w2 ⟨⟨v2, es, rfl, hes, hB0⟩, b2⟩
  have b12 := bt b1 b2
  have hB2 : ABuf w2 w.heap.size v2 es := ⟨⟨hB0.1.1, hB0.1.2.imp id (fun ⟨g, cap, cur, q1, q2, q3⟩ => ⟨g, cap, cur, q1, Nat.le_trans b1.size q2, q3⟩)⟩, hB0.2⟩
  have hel : es.length = l.length := by rw [← hes, List.length_map]
  have HE : Hid (es.map acOf = l) := hes
  have HEL : Hid (es.length = l.length) := hel
  clear H2 hes hel hB0
  cases y with
  | true =>
    have hel := HEL.out
    obtain ⟨a, ha1, ha2⟩ := HY.out.1 rfl
    have hil2 : i < es.length := by
      rw [hel]
      exact (List.getElem?_eq_some_iff.1 ha1).1
    obtain ⟨q, hq⟩ : ∃ q, es[i]? = some q := ⟨es[i], List.getElem?_eq_getElem hil2⟩
    have hqa : acOf q = a := by
      have := HE.out
      rw [← this, List.getElem?_map, hq] at ha1
      exact Option.some.inj ha1
    obtain ⟨r1, r2, r3, r4⟩ : 0 ≤ q.2.2.1 ∧ q.2.2.1 ≤ 150 ∧ -150000000 ≤ q.2.1 ∧ q.2.1 ≤ 150000000 := by
      obtain ⟨_, r1, r2, r3, r4⟩ := Vw.wrongA_inv (HR.out.acc a (List.mem_of_getElem? ha1))
      have ru := HR.out.hi
      rw [← hqa] at r1 r2 r3 r4
      have r1 : 1 ≤ q.2.2.1 := r1
      have r2 : q.2.2.1 ≤ u := r2
      have r3 : q.2.1 ≤ 1000000 * q.2.2.1 := r3
      have r4 : -(1000000 * q.2.2.1) ≤ q.2.1 := r4
      omega
    have HP : Hid ((es.set i (chgC q k m)).map acOf = Vw.put l ⟨nb t, k, m⟩) := by
      show _ = _
      rw [Vw.put_there (e := ⟨nb t, k, m⟩) HC.out ha1 ha2, List.map_set, HE.out, chgC_of q (nb t) k m, hqa]
    obtain ⟨g, cap, hve, hBg, hc1, hc2, hgl, hdr⟩ := owns_cells hB2.1 (by omega)
    subst hve
    unfold maxLen at hc2
    clear hdr
    have H3 := chg_any w.heap.size g es.length cap i p es q k m w2 hB2 rfl hq hpl ((b12.cell (p := ⟨p, 1, none⟩) hpl).trans e1) ((b12.cell (p := ⟨p, 2, none⟩) hpl).trans e2) hk1 hk4 hm0 hm1 r1 r2 r3 r4
    have hil3 : (i : Int) < (es.length : Int) := by omega
    clear hel hil2 hB2 hq hqa ha1 ha2 r1 r2 r3 r4
    go_wp2_with fail
    refine H3.mono ?_
    rintro e w3 ⟨rfl, hB3, b3⟩
    clear H3
    go_wp2_with fail
    go_ret
    exact ⟨⟨_, _, rfl, HP.out, hB3⟩, b12.trans b3⟩
  | false =>
    have HN : Hid (∀ a, l[i]? = some a → a.name ≠ nb t) := fun a ha e => absurd (HY.out.2 ⟨a, ha, e⟩) (by decide)
    have hNA : NewA (w2.alloc (.cells #[.string t, .int .i64 0, .int .i64 0, .bool false] 93)) w2.heap.size (t, 0, 0, false) := heap_alloc_new w2 _
    have b23 : Below w2.heap.size w2 (w2.alloc (.cells #[.string t, .int .i64 0, .int .i64 0, .bool false] 93)) := (Below.refl _ _).alloc (Nat.le_refl _) _
    have hel := HEL.out
    have H3 := insert_any w.heap.size i w2.heap.size v2 es (t, 0, 0, false) _ (hB2.below b23) (Nat.le_trans b12.size b23.size) (by omega) (by omega) hNA (fun e => by
      have := (hB2.1.lt _ e).2
      omega) ht
    have b13 := bt b12 b23
    obtain ⟨es3, hes3⟩ : ∃ es3, es3 = es.take i ++ ((t, 0, 0, false) : AcC) :: es.drop i := ⟨_, rfl⟩
    rw [← hes3] at H3
    have hil3 : i < es3.length := by
      rw [hes3]
      simp
      omega
    have hq : es3[i]? = some (t, 0, 0, false) := by
      rw [hes3, List.getElem?_append_right (by rw [List.length_take]; omega), List.length_take, show i - min i es.length = 0 by omega]
      rfl
    have HP : Hid ((es3.set i (chgC (t, 0, 0, false) k m)).map acOf = Vw.put l ⟨nb t, k, m⟩) := by
      show _ = _
      rw [Vw.put_new (e := ⟨nb t, k, m⟩) HC.out HN.out, hes3, List.set_append_right _ _ (by rw [List.length_take]; omega), List.length_take, show i - min i es.length = 0 by omega, List.set_cons_zero, List.map_append, List.map_cons, List.map_take, List.map_drop, HE.out, chgC_of _ (nb t) k m]
      rfl
    clear hNA hB2 hel hes3
    go_wp2_with fail
    refine H3.mono ?_
    rintro e w3 ⟨⟨v3, rfl, hB3⟩, b3⟩
    have b3 := b13.trans b3
    obtain ⟨g, cap, rfl, hBg, hc1, hc2, hgl, _⟩ := owns_cells hB3.1 (by omega)
    unfold maxLen at hc2
    have H4 := chg_any w.heap.size g es3.length cap i p es3 (t, 0, 0, false) k m w3 hB3 rfl hq hpl ((b3.cell (p := ⟨p, 1, none⟩) hpl).trans e1) ((b3.cell (p := ⟨p, 2, none⟩) hpl).trans e2) hk1 hk4 hm0 hm1 (Int.le_refl 0) (by show (0 : Int) ≤ 150; omega) (by show -150000000 ≤ (0 : Int); omega) (by show (0 : Int) ≤ 150000000; omega)
    have hil4 : (i : Int) < (es3.length : Int) := by omega
    clear H3 hB3 hq
    go_wp2_with fail
    refine H4.mono ?_
    rintro e w4 ⟨rfl, hB4, b4⟩
    clear H4
    go_wp2_with fail
    go_ret
    exact ⟨⟨_, _, rfl, HP.out, hB4⟩, b3.trans b4⟩

end Go.Proofs.YtmcaejooaaahdaaGreat

namespace Go.Proofs.YtmcaejooaaahdaaGreat
open Go.RowKit

theorem ins_get {α : Type} (l : List α) (x : α) {i : Nat} (hi : i ≤ l.length) (a : Nat) : (l.take i ++ x :: l.drop i)[a]? = if a < i then l[a]? else if a = i then some x else l[a - 1]? := by
  by_cases h : a < i
  · rw [if_pos h, List.getElem?_append_left (by rw [List.length_take]; omega), List.getElem?_take, if_pos h]
  · rw [if_neg h, List.getElem?_append_right (by rw [List.length_take]; omega), List.length_take, show min i l.length = i by omega]
    by_cases e : a = i
    · subst e
      rw [if_pos rfl, Nat.sub_self]
      rfl
    · rw [if_neg e, show a - i = (a - i - 1) + 1 by omega, List.getElem?_cons_succ, List.getElem?_drop, show i + (a - i - 1) = a - 1 by omega]
theorem upd_self {α : Type} (Q : Nat → α) (k : Nat) : upd Q k (Q k) = Q := funext fun i => by
  unfold upd
  split
  · rename_i h
    rw [h]
  · rfl
theorem dkF_set {V : Nat → Value} {ds : List Sto.Disk} {q : Nat} {d d' : Sto.Disk} (hq : ds[q]? = some d) (v' : Value) (j : Nat) : dkF (upd V q v') (ds.set q d') j = if j = q * 2 then .bool d'.gone else if j = q * 2 + 1 then v' else dkF V ds j := by
  have hl := (List.getElem?_eq_some_iff.1 hq).1
  unfold dkF
  by_cases e : j % 2 = 0
  · rw [if_pos e, if_pos e, if_neg (show ¬ j = q * 2 + 1 by omega), List.getD_eq_getElem?_getD, List.getD_eq_getElem?_getD]
    by_cases g : j = q * 2
    · rw [if_pos g, show j / 2 = q by omega, List.getElem?_set_self hl]
      rfl
    · rw [if_neg g, List.getElem?_set_ne (show q ≠ j / 2 by omega)]
  · rw [if_neg e, if_neg e, if_neg (show ¬ j = q * 2 by omega)]
    by_cases g : j = q * 2 + 1
    · rw [if_pos g, show j / 2 = q by omega, upd_at]
    · rw [if_neg g, upd_ne _ _ (show j / 2 ≠ q by omega)]

theorem flat_setH : ∀ (l : List HeC) (i t : Nat) (a a' : HeC) (u : Value), t < 2 → l[i]? = some a → heCells a' = (heCells a).set t u → (l.flatMap heCells).set (i * 2 + t) u = (l.set i a').flatMap heCells :=
  fun l i t a a' u ht h hf => flat_set heCells 2 l i t a a' u (fun _ _ => rfl) ht h hf

section
variable {w : World} {N D : Nat} {V : Nat → Value} {U : Nat → List HeC} {ds : List Sto.Disk}
theorem DkAt.Vlt (h : DkAt w N D V U ds) {i g : Nat} (hi : i < ds.length) (hg : (V i).ownBlock = some g) : g < w.heap.size := ((h.own i hi).lt g hg).2
/-- In the place of one that is there. -/
theorem DkAt.there (h : DkAt w N D V U ds) {q i g n cap : Nat} {d : Sto.Disk} {x : HeC} (hq : ds[q]? = some d) (hV : V q = .slice (some ⟨g, 0, none⟩) n cap) (hx : (U q)[i]? = some x) (y : Sl) (r : List Nat) (hY : OwnB w N (slV y) r)
    (hsep : ∀ (j : Nat) (z : HeC) (b : Nat), j < ds.length → z ∈ U j → (slV y).ownBlock = some b → (slV z.2.1).ownBlock ≠ some b) :
    DkAt (w.setCell ⟨g, i * 2 + 1, none⟩ (slV y)) N D V (upd U q ((U q).set i (x.1, y, r))) (ds.set q ⟨d.gone, d.bl.set i (x.1, r)⟩) := by
  have hl := (List.getElem?_eq_some_iff.1 hq).1
  have ho := off_set w ⟨g, i * 2 + 1, none⟩ (slV y)
  have hown := h.own q hl
  have hgV : (V q).ownBlock = some g := by rw [hV]; rfl
  have hty := owns_ty hown hgV
  have hn : n = (U q).length := by
    rcases hown.2 with ⟨e, _⟩ | ⟨_, _, _, e, _⟩
    · rw [hV] at e
      cases e
    · rw [hV] at e
      cases e
      rfl
  have hY' : OwnB (w.setCell ⟨g, i * 2 + 1, none⟩ (slV y)) N (slV y) r := hY.off ho fun b hb s => (hY.ty hb).ne hty (by decide) s
  have H := h.put (w' := w.setCell ⟨g, i * 2 + 1, none⟩ (slV y)) hl ⟨d.gone, d.bl.set i (x.1, r)⟩ (V q) ((U q).set i (x.1, y, r)) ?_ (ho.wider fun k s => Or.inr (Or.inl (by rw [hgV, s]))) ?_ ?_ (fun z hz => ?_) (fun b hb => Or.inl hb) (fun a z b ha hb => ?_) (fun a b z z' c ha hb h1 h2 => ?_)
  · rw [upd_self] at H
    exact H
  · refine (h.row.of_block (ho.block D h.row.lt fun s => h.row.ty.ne hty (by decide) s)).congr fun j hj => ?_
    rw [dkF_set hq (V q) j]
    by_cases e : j = q * 2
    · rw [if_pos e, e]
      unfold dkF
      rw [if_pos (by omega), show q * 2 / 2 = q by omega, List.getD_eq_getElem?_getD, hq]
      rfl
    · rw [if_neg e]
      by_cases e2 : j = q * 2 + 1
      · rw [if_pos e2, e2]
        unfold dkF
        rw [if_neg (by omega), show (q * 2 + 1) / 2 = q by omega]
      · rw [if_neg e2]
  · rw [hV] at hown ⊢
    subst hn
    rw [List.length_set, ← flat_setH (U q) i 1 x (x.1, y, r) (slV y) (by decide) hx rfl]
    exact (hown.stored (i * 2 + 1) (slV y)).1
  · show d.bl.set i (x.1, r) = ((U q).set i (x.1, y, r)).map heOf
    rw [List.map_set, h.bl q d hq]
    rfl
  · rcases List.mem_or_eq_of_mem_set hz with k | rfl
    · exact (h.byt q z hl k).off ho fun b hb s => ((h.byt q z hl k).ty hb).ne hty (by decide) s
    · exact hY'
  · by_cases e : a = i
    · subst e
      rw [List.getElem?_set_self (List.getElem?_eq_some_iff.1 hx).1] at ha
      cases ha
      exact Or.inr fun j z1 hj hz1 => hsep j z1 b hj hz1 hb
    · rw [List.getElem?_set_ne (fun z => e z.symm)] at ha
      exact Or.inl ⟨z, List.mem_of_getElem? ha, hb⟩
  · have hil := (List.getElem?_eq_some_iff.1 hx).1
    by_cases e : a = i
    · by_cases e2 : b = i
      · rw [e, e2]
      · subst e
        rw [List.getElem?_set_self hil] at ha
        rw [List.getElem?_set_ne (fun z => e2 z.symm)] at hb
        cases ha
        exact absurd h2 (hsep q z' c hl (List.mem_of_getElem? hb) h1)
    · rw [List.getElem?_set_ne (fun z => e z.symm)] at ha
      by_cases e2 : b = i
      · subst e2
        rw [List.getElem?_set_self hil] at hb
        cases hb
        exact absurd h1 (hsep q z c hl (List.mem_of_getElem? ha) h2)
      · rw [List.getElem?_set_ne (fun z => e2 z.symm)] at hb
        exact (h.sepU q q a b z z' c hl hl ha hb h1 h2).2
/-- In a new place. -/
theorem DkAt.fresh (h : DkAt w N D V U ds) {w1 : World} {q i g n cap : Nat} {d : Sto.Disk} (hq : ds[q]? = some d) (k : Int) (hi : i ≤ (U q).length) (y : Sl) (r : List Nat) (hY : OwnB w N (slV y) r)
    (hown : w1.ownsRow N 61 2 (.slice (some ⟨g, 0, none⟩) n cap) ((U q).length + 1) (((U q).take i ++ (k, ((none, 0, 0) : Sl), ([] : List Nat)) :: (U q).drop i).flatMap heCells)) (ho : Off (fun k => (V q).ownBlock = some k) w w1) (hat : (V q).ownBlock = some g ∨ w.heap.size ≤ g)
    (hsep : ∀ (j : Nat) (z : HeC) (b : Nat), j < ds.length → z ∈ U j → (slV y).ownBlock = some b → (slV z.2.1).ownBlock ≠ some b) :
    DkAt ((w1.setCell ⟨D, q * 2 + 1, none⟩ (.slice (some ⟨g, 0, none⟩) n cap)).setCell ⟨g, i * 2 + 1, none⟩ (slV y)) N D (upd V q (.slice (some ⟨g, 0, none⟩) n cap)) (upd U q ((U q).take i ++ (k, y, r) :: (U q).drop i)) (ds.set q ⟨d.gone, d.bl.take i ++ (k, r) :: d.bl.drop i⟩) := by
  have hl := (List.getElem?_eq_some_iff.1 hq).1
  have hownV := h.own q hl
  have hn : n = (U q).length + 1 := by
    rcases hown.2 with ⟨e, _⟩ | ⟨_, _, _, e, _⟩
    · cases e
    · cases e
      rfl
  subst hn
  have hgty : TyB w1 g 61 := owns_ty hown rfl
  have hDty : TyB w1 D 58 := h.row.ty.of_block (ho.block D h.row.lt fun s => h.row.ty.ne (owns_ty hownV s) (by decide) rfl)
  have hDg : D ≠ g := hDty.ne hgty (by decide)
  have hrow1 : RowC w1 D 58 (ds.length * 2) (dkF V ds) := h.row.of_block (ho.block D h.row.lt fun s => h.row.ty.ne (owns_ty hownV s) (by decide) rfl)
  have oA := off_set w1 ⟨D, q * 2 + 1, none⟩ (.slice (some ⟨g, 0, none⟩) ((U q).length + 1) cap)
  have oB := off_set (w1.setCell ⟨D, q * 2 + 1, none⟩ (.slice (some ⟨g, 0, none⟩) ((U q).length + 1) cap)) ⟨g, i * 2 + 1, none⟩ (slV y)
  have hoW : Off (fun k => k = D ∨ (V q).ownBlock = some k ∨ ∃ x, x ∈ U q ∧ (slV x.2.1).ownBlock = some k) w ((w1.setCell ⟨D, q * 2 + 1, none⟩ (.slice (some ⟨g, 0, none⟩) ((U q).length + 1) cap)).setCell ⟨g, i * 2 + 1, none⟩ (slV y)) := by
    refine ((ho.wider fun k s => Or.inr (Or.inl s)).past oA fun k s _ => Or.inl s).past oB fun k s hk => ?_
    have s : k = g := s
    rcases hat with z | z
    · exact Or.inr (Or.inl (by rw [s]; exact z))
    · omega
  have hYo : ∀ {u : Value} {t : List Nat}, OwnB w N u t → OwnB ((w1.setCell ⟨D, q * 2 + 1, none⟩ (.slice (some ⟨g, 0, none⟩) ((U q).length + 1) cap)).setCell ⟨g, i * 2 + 1, none⟩ (slV y)) N u t := fun {u t} hu => by
    refine hu.of_block fun b hb => ?_
    have hlt := (hu.ty hb).lt
    have h1 : w1.heap[b]? = w.heap[b]? := ho.block b hlt fun s => (hu.ty hb).ne (owns_ty hownV s) (by decide) rfl
    have hb1 : TyB w1 b 5 := (hu.ty hb).of_block h1
    rw [oB.block b (by simpa using hb1.lt) (fun s => hb1.ne hgty (by decide) s), oA.block b hb1.lt (fun s => hb1.ne hDty (by decide) s)]
    exact h1
  refine h.put hl ⟨d.gone, d.bl.take i ++ (k, r) :: d.bl.drop i⟩ _ ((U q).take i ++ (k, y, r) :: (U q).drop i) ?_ hoW ?_ ?_ (fun z hz => ?_) (fun b hb => ?_) (fun a z b ha hb => ?_) (fun a b z z' c ha hb h1 h2 => ?_)
  · refine ((hrow1.set (q * 2 + 1) (.slice (some ⟨g, 0, none⟩) ((U q).length + 1) cap)).setOther hDg (slV y)).congr fun j hj => ?_
    rw [dkF_set hq _ j]
    by_cases e : j = q * 2
    · rw [if_pos e, if_neg (by omega), e]
      unfold dkF
      rw [if_pos (by omega), show q * 2 / 2 = q by omega, List.getD_eq_getElem?_getD, hq]
      rfl
    · rw [if_neg e]
  · have hx : ((U q).take i ++ (k, ((none, 0, 0) : Sl), ([] : List Nat)) :: (U q).drop i)[i]? = some (k, (none, 0, 0), []) := by
      rw [ins_get _ _ hi, if_neg (Nat.lt_irrefl i), if_pos rfl]
    have hown2 : (w1.setCell ⟨D, q * 2 + 1, none⟩ (.slice (some ⟨g, 0, none⟩) ((U q).length + 1) cap)).ownsRow N 61 2 (.slice (some ⟨g, 0, none⟩) ((U q).length + 1) cap) ((U q).length + 1) (((U q).take i ++ (k, ((none, 0, 0) : Sl), ([] : List Nat)) :: (U q).drop i).flatMap heCells) := owns_off hown oA fun b hb s => by
      cases hb
      exact hDg s.symm
    have := (hown2.stored (i * 2 + 1) (slV y)).1
    rw [flat_setH _ i 1 _ (k, y, r) (slV y) (by decide) hx rfl] at this
    have e : ((U q).take i ++ (k, ((none, 0, 0) : Sl), ([] : List Nat)) :: (U q).drop i).set i (k, y, r) = (U q).take i ++ (k, y, r) :: (U q).drop i := by
      rw [List.set_append_right _ _ (by rw [List.length_take]; omega), List.length_take, show i - min i (U q).length = 0 by omega, List.set_cons_zero]
    rw [e] at this
    have hlen : ((U q).take i ++ (k, y, r) :: (U q).drop i).length = (U q).length + 1 := by
      simp
      omega
    rw [hlen]
    exact this
  · show d.bl.take i ++ (k, r) :: d.bl.drop i = ((U q).take i ++ (k, y, r) :: (U q).drop i).map heOf
    rw [List.map_append, List.map_cons, List.map_take, List.map_drop, h.bl q d hq]
    rfl
  · rcases List.mem_append.1 hz with z1 | z1
    · exact hYo (h.byt q z hl (List.mem_of_mem_take z1))
    · rcases List.mem_cons.1 z1 with rfl | z1
      · exact hYo hY
      · exact hYo (h.byt q z hl (List.mem_of_mem_drop z1))
  · cases hb
    rcases hat with z | z
    · exact Or.inl z
    · exact Or.inr fun j hj e => by
        have : g < w.heap.size := h.Vlt hj e
        omega
  · rw [ins_get _ _ hi] at ha
    by_cases e : a < i
    · rw [if_pos e] at ha
      exact Or.inl ⟨z, List.mem_of_getElem? ha, hb⟩
    · rw [if_neg e] at ha
      by_cases e2 : a = i
      · rw [if_pos e2] at ha
        cases ha
        exact Or.inr fun j z1 hj hz1 => hsep j z1 b hj hz1 hb
      · rw [if_neg e2] at ha
        exact Or.inl ⟨z, List.mem_of_getElem? ha, hb⟩
  · rw [ins_get _ _ hi] at ha hb
    have old : ∀ (a : Nat) (z : HeC), a ≠ i → (if a < i then (U q)[a]? else if a = i then some (k, y, r) else (U q)[a - 1]?) = some z → (U q)[if a < i then a else a - 1]? = some z := fun a z hne h => by
      by_cases e : a < i
      · rw [if_pos e] at h ⊢
        exact h
      · rw [if_neg e, if_neg hne] at h
        rw [if_neg e]
        exact h
    by_cases e : a = i
    · by_cases e2 : b = i
      · rw [e, e2]
      · rw [if_neg (by omega), if_pos e] at ha
        cases ha
        exact absurd h2 (hsep q z' c hl (List.mem_of_getElem? (old b z' e2 hb)) h1)
    · by_cases e2 : b = i
      · rw [if_neg (by omega), if_pos e2] at hb
        cases hb
        exact absurd h1 (hsep q z c hl (List.mem_of_getElem? (old a z e ha)) h2)
      · have := (h.sepU q q _ _ z z' c hl hl (old a z e ha) (old b z' e2 hb) h1 h2).2
        split at this <;> split at this <;> omega
end

end Go.Proofs.YtmcaejooaaahdaaGreat
