/-
  Texts of the proof, joined: MulM, Clear, Undo.
-/
import Derived.Test.YtmcaejooaaahdaaGreatZ06
import Derived.Deep.RegionHeld3
namespace Go.Proofs.YtmcaejooaaahdaaGreat
open Go.RowKit

theorem Tryz.enters_mulCell : ∀ args w, (callFunc 163 args).run Tryz.prog w = .ok (.enter 163 args) w := enters_of Tryz.func163 (by kernel_rfl) rfl

/-- A world with the variables of a call of Mul laid behind it. -/
def boxed3 (w : World) (x y : Value) : World := ((w.alloc (.cells #[x] 169)).alloc (.cells #[y] 169)).alloc (.cells #[x, y] 169)
theorem boxed3_below (w : World) (x y : Value) : Below w.heap.size w (boxed3 w x y) :=
  (((Below.refl _ _).alloc (Nat.le_refl _) _).alloc (by simp) _).alloc (by simp; omega) _
theorem boxed3_size (w : World) (x y : Value) : (boxed3 w x y).heap.size = w.heap.size + 3 := by
  unfold boxed3
  simp
theorem boxed3_cells (w : World) (x y : Value) : (boxed3 w x y).cell? ⟨w.heap.size, 0, none⟩ = some x ∧ (boxed3 w x y).cell? ⟨w.heap.size + 1, 0, none⟩ = some y ∧ (boxed3 w x y).cell? ⟨w.heap.size + 2, 0, none⟩ = some x ∧ (boxed3 w x y).cell? ⟨w.heap.size + 2, 1, none⟩ = some y := by
  unfold boxed3
  go_simp

set_option maxHeartbeats 1000000 in
theorem mulM_own (va vb : Value) (na ca nb cb : Nat) (fa fb : Nat → Nat → Nat) (w : World) (ha : Mx w va na ca fa) (hb : Mx w vb nb cb fb) (hab : ca = nb) :
    Calls Tryz.prog 137 #[va, vb] w fun e w' => ∃ b G, e = .returned (.tuple #[.slice (some ⟨b, 0, none⟩) na na, .int .i64 0]) ∧ Own w' w.heap.size b na cb G (Gf.mm ca fa fb) ∧ Below w.heap.size w w' := by
  have oka := ha.ok
  have okb := hb.ok
  have H1 := fun w' hb' => wrong_any va na _ fa w' (ha.below (w' := w') hb').arg
  have H2 := fun w' hb' => wrong_any vb nb _ fb w' (hb.below (w' := w') hb').arg
  rw [oka] at H1
  rw [okb] at H2
  obtain ⟨d1, d2, d3, d4⟩ := ha.dim
  obtain ⟨f1, f2, f3, f4⟩ := hb.dim
  obtain ⟨ba, oa, pa, Ga, Oa, Ka, rfl, hma⟩ := ha.lies
  obtain ⟨bb, ob, pb, Gb, Ob, Kb, rfl, hmb⟩ := hb.lies
  have hbda := ha.bd
  have hbdb := hb.bd
  subst hab
  have hbx := boxed3_below w (.slice (some ⟨ba, oa, none⟩) na pa) (.slice (some ⟨bb, ob, none⟩) ca pb)
  have hbc := boxed3_cells w (.slice (some ⟨ba, oa, none⟩) na pa) (.slice (some ⟨bb, ob, none⟩) ca pb)
  have h0a : (0 : Int) < (na : Int) := by omega
  have h0b : (0 : Int) < (ca : Int) := by omega
  have h0n : 0 < ca := by omega
  have h0m : ¬ ca = 0 := by omega
  clear oka okb ha hb
  go_enter Tryz.func137, Tryz.ntmps137
  go_wp2_with fail
  refine wp_loop_rounds 3 ?_
  rw [rounds_succ]
  go_wp2_with fail
  refine (H1 _ hbx).mono ?_
  rintro e w1 ⟨rfl, hb1⟩
  rw [boxed3_size] at hb1
  have k1 := (hb1.cell (p := ⟨w.heap.size, 0, none⟩) (by show w.heap.size < w.heap.size + 3; omega)).trans hbc.1
  have k2 := (hb1.cell (p := ⟨w.heap.size + 1, 0, none⟩) (by show w.heap.size + 1 < w.heap.size + 3; omega)).trans hbc.2.1
  have k3 := (hb1.cell (p := ⟨w.heap.size + 2, 1, none⟩) (by show w.heap.size + 2 < w.heap.size + 3; omega)).trans hbc.2.2.2
  have hbw1 : Below w.heap.size w w1 := hbx.trans (hb1.mono (by omega))
  have z1 : w.heap.size + 3 ≤ w1.heap.size := by have := hb1.size; rw [boxed3_size] at this; omega
  clear hbx hbc hb1
  go_wp2_with fail
  rw [rounds_succ]
  go_wp2_with fail
  refine (H2 _ hbw1).mono ?_
  rintro e w2 ⟨rfl, hb2⟩
  have k1 := (hb2.cell (p := ⟨w.heap.size, 0, none⟩) (by show w.heap.size < w1.heap.size; omega)).trans k1
  have k2 := (hb2.cell (p := ⟨w.heap.size + 1, 0, none⟩) (by show w.heap.size + 1 < w1.heap.size; omega)).trans k2
  have hbw2 : Below w.heap.size w w2 := hbw1.trans (hb2.mono hbw1.size)
  have z2 : w.heap.size + 3 ≤ w2.heap.size := Nat.le_trans z1 hb2.size
  clear hb2 k3 z1 hbw1 H1 H2
  go_wp2_with fail
  rw [rounds_succ]
  go_wp2_with fail
  have hma2 := hma.below hbw2
  have hmb2 := hmb.below hbw2
  have hta : w2.cell? ⟨ba, oa, none⟩ = some (.slice (some ⟨Ga 0, Oa 0, none⟩) ca (Ka 0)) := by simpa using hma2.top 0 (by omega)
  have htb : w2.cell? ⟨bb, ob, none⟩ = some (.slice (some ⟨Gb 0, Ob 0, none⟩) cb (Kb 0)) := by simpa using hmb2.top 0 (by omega)
  have hco : ∀ W0, Below w2.heap.size w2 W0 → CellOn 163 #[.pointer (some ⟨w.heap.size, 0, none⟩), .pointer (some ⟨w.heap.size + 1, 0, none⟩)] na cb (Gf.mm ca fa fb) W0 := by
    intro W0 hW0 i hi j hj W hW
    have hWW := hW0.trans (hW.mono hW0.size)
    exact mulCell_any i j w.heap.size (w.heap.size + 1) ba oa na pa ca bb ob ca pb cb Ga Oa Ka Gb Ob Kb fa fb W ((hWW.cell (p := ⟨w.heap.size, 0, none⟩) (by show w.heap.size < w2.heap.size; omega)).trans k1)
      ((hWW.cell (p := ⟨w.heap.size + 1, 0, none⟩) (by show w.heap.size + 1 < w2.heap.size; omega)).trans k2) (hma2.below hWW) (hmb2.below hWW) hbda hbdb rfl hi hj (by omega)
  have hfl := fun W0 hW0 => filled_any 163 na cb #[.pointer (some ⟨w.heap.size, 0, none⟩), .pointer (some ⟨w.heap.size + 1, 0, none⟩)] (Gf.mm ca fa fb) W0 Tryz.enters_mulCell (hco W0 hW0) (by omega) (by omega)
  clear hma hmb hma2 hmb2 hco
  go_region
  all_goals go_wp2_with fail
  go_region_held3 (fun w' => w'.cell? ⟨w.heap.size, 0, none⟩ = some (.slice (some ⟨ba, oa, none⟩) na pa) ∧ w'.cell? ⟨w.heap.size + 1, 0, none⟩ = some (.slice (some ⟨bb, ob, none⟩) ca pb) ∧ w'.cell? ⟨bb, ob, none⟩ = some (.slice (some ⟨Gb 0, Ob 0, none⟩) cb (Kb 0))) (first | exact ⟨k1, k2, htb⟩ | exact ⟨(hb3.cell (p := ⟨w.heap.size, 0, none⟩) (Nat.lt_of_lt_of_le (by omega : w.heap.size < w.heap.size + 3) z2)).trans k1, (hb3.cell (p := ⟨w.heap.size + 1, 0, none⟩) (Nat.lt_of_lt_of_le (by omega : w.heap.size + 1 < w.heap.size + 3) z2)).trans k2, (hb3.cell (p := ⟨bb, ob, none⟩) (World.block_lt_of_cell? _ _ htb)).trans htb⟩)
    (first | (go_at_call 162; refine (hfl _ ?_).mono ?_; exact ((Below.refl _ _).drew).drew; rintro e w3 ⟨rfl, ⟨G3, ho3⟩, hb3⟩))
  all_goals go_wp2_with fail
  all_goals go_ret2
  all_goals exact ⟨_, G3, rfl, ho3.lower hbw2.size, hbw2.trans (Below.mono (w := w2) ⟨hb3.os, hb3.tape, hb3.output, hb3.size, hb3.block⟩ hbw2.size)⟩
end Go.Proofs.YtmcaejooaaahdaaGreat

namespace Go.Proofs.YtmcaejooaaahdaaGreat
open Go.RowKit

theorem Tryz.enters_notZero : ∀ args w, (callFunc 181 args).run Tryz.prog w = .ok (.enter 181 args) w := enters_of Tryz.func181 (by kernel_rfl) rfl

set_option maxHeartbeats 400000 in
theorem notZero_any (g c a B : Nat) (f : Nat → Nat) (w : World) (hr : w.rowIs g 5 c (fun k => .int .u8 (f k : Nat))) (hB : w.cell? ⟨B, 0, none⟩ = some (.int .i64 (a : Int))) (ha : a < c) :
    Calls Tryz.prog 181 #[.slice (some ⟨g, 0, none⟩) c c, .pointer (some ⟨B, 0, none⟩)] w fun e w' => e = .returned (.bool (decide (f a ≠ 0))) ∧ Below w.heap.size w w' := by
  have hc := hr.cell ha
  have ha' : (a : Int) < (c : Int) := by omega
  by_cases h : f a = 0
  · have H : Hid (decide (f a ≠ 0) = false) := by show decide (f a ≠ 0) = false; simpa using h
    rw [h] at hc
    clear h hr
    go_enter Tryz.func181, Tryz.ntmps181
    go_wp2_with fail
    go_ret
    exact ⟨ret_bool (by rw [H.out]), Below.refl _ _⟩
  · have H : Hid (decide (f a ≠ 0) = true) := by show decide (f a ≠ 0) = true; simpa using h
    have h' : ((f a : Int) == 0) = false := by rw [beq_eq_false_iff_ne]; omega
    clear h hr
    go_enter Tryz.func181, Tryz.ntmps181
    go_wp2_with fail
    go_ret
    exact ⟨ret_bool (by rw [H.out]; simp [bne, h']), Below.refl _ _⟩

/-- Blocks exchanged. -/
def swpG (a p : Nat) (G : Nat → Nat) (i : Nat) : Nat := if i = a then G p else if i = p then G a else G i

theorem Own.swap {w : World} {N b n c a p : Nat} {G : Nat → Nat} {f : Nat → Nat → Nat} (h : Own w N b n c G f) (ha : a < n) (hp : p < n) :
    Own ((w.setCell ⟨b, a, none⟩ (.slice (some ⟨G p, 0, none⟩) c c)).setCell ⟨b, p, none⟩ (.slice (some ⟨G a, 0, none⟩) c c)) N b n c (swpG a p G) (Gf.swp a p f) := by
  have es : ∀ i, i < n → ∃ s, s < n ∧ swpG a p G i = G s ∧ Gf.swp a p f i = f s ∧ s = (if i = a then p else if i = p then a else i) := fun i hi => by
    unfold swpG Gf.swp
    by_cases h1 : i = a
    · exact ⟨p, hp, by rw [if_pos h1], by rw [if_pos h1], by rw [if_pos h1]⟩
    · by_cases h2 : i = p
      · exact ⟨a, ha, by rw [if_neg h1, if_pos h2], by rw [if_neg h1, if_pos h2], by rw [if_neg h1, if_pos h2]⟩
      · exact ⟨i, hi, by rw [if_neg h1, if_neg h2], by rw [if_neg h1, if_neg h2], by rw [if_neg h1, if_neg h2]⟩
  refine ⟨((h.top.set a _).set p _).congr (fun i _ => ?_), fun i hi => ?_, h.lob, fun i hi => ?_, fun i hi => ?_, fun i j hi hj hne => ?_⟩
  · unfold swpG
    by_cases h2 : i = p
    · rw [if_pos h2]
      by_cases h1 : i = a
      · rw [if_pos h1, ← h1, ← h2]
      · rw [if_neg h1, if_pos h2]
    · rw [if_neg h2]
      by_cases h1 : i = a
      · rw [if_pos h1, if_pos h1]
      · rw [if_neg h1, if_neg h1, if_neg h2]
  · obtain ⟨s, hs, e1, e2, _⟩ := es i hi
    rw [e1, e2]
    exact ((h.row s hs).setOther (h.apart s hs) _).setOther (h.apart s hs) _
  · obtain ⟨s, hs, e1, _, _⟩ := es i hi
    rw [e1]
    exact h.low s hs
  · obtain ⟨s, hs, e1, _, _⟩ := es i hi
    rw [e1]
    exact h.apart s hs
  · obtain ⟨s, hs, e1, _, e3⟩ := es i hi
    obtain ⟨t, ht, d1, _, d3⟩ := es j hj
    rw [e1, d1]
    refine h.inj s t hs ht ?_
    rw [e3, d3]
    (repeat' split) <;> omega

/-- One row of it rewritten. -/
theorem Own.put {w w' : World} {N b n c k : Nat} {G : Nat → Nat} {f f' : Nat → Nat → Nat} (h : Own w N b n c G f) (hk : k < n) (hr : w'.rowIs (G k) 5 c (fun j => .int .u8 (f' k j : Nat))) (ho : Off (fun x => x = G k) w w') (he : ∀ i, i ≠ k → f' i = f i) : Own w' N b n c G f' :=
  ⟨rowIs_off h.top ho (fun e => h.apart k hk e.symm), fun i hi => by
    by_cases e : i = k
    · rw [e]
      exact hr
    · rw [he i e]
      exact rowIs_off (h.row i hi) ho (h.inj i k hi hk e), h.lob, h.low, h.apart, h.inj⟩
theorem Own.congr {w : World} {N b n c : Nat} {G : Nat → Nat} {f f' : Nat → Nat → Nat} (h : Own w N b n c G f) (he : ∀ i, i < n → ∀ j, j < c → f i j = f' i j) : Own w N b n c G f' :=
  ⟨h.top, fun i hi => (h.row i hi).congr (fun j hj => by rw [he i hi j hj]), h.lob, h.low, h.apart, h.inj⟩
theorem Own.drew {w : World} {N b n c : Nat} {G : Nat → Nat} {f : Nat → Nat → Nat} (h : Own w N b n c G f) : Own w.drew N b n c G f := ⟨h.top, h.row, h.lob, h.low, h.apart, h.inj⟩

/-- The pivot added to the first k rows. -/
def addTo (a k : Nat) (W : Nat → Nat → Nat) (i : Nat) : Nat → Nat := if i < k then Gf.add a W i else W i

set_option maxHeartbeats 2000000 in
theorem clear_no (N b n c a : Nat) (G : Nat → Nat) (f : Nat → Nat → Nat) (w : World) (h : Own w N b n c G f) (ha : a < n) (hac : a < c) (hn : n ≤ 100) (hz : ∀ r, a ≤ r → r < n → f r a = 0) :
    Calls Tryz.prog 171 #[.slice (some ⟨b, 0, none⟩) n n, .int .i64 (a : Int)] w fun e w' => e = .returned (.bool false) ∧ Below w.heap.size w w' := by
  have ha' : (a : Int) ≤ (n : Int) := by omega
  go_enter Tryz.func171, Tryz.ntmps171
  go_wp2_with fail
  refine (indexF_any 181 b a (n - a) (n - a) _ (fun r => .slice (some ⟨G (a + r), 0, none⟩) c c) (fun r => decide (f (a + r) a ≠ 0)) _ Tryz.enters_notZero ?_ ?_ (by omega)).mono ?_
  · intro r hr
    rw [((Below.refl w.heap.size w).alloc (Nat.le_refl _) _).cell (p := ⟨b, a + r, none⟩) h.top.lt]
    exact h.top.cell (by omega)
  · intro r hr W hW
    have hb0 : Below w.heap.size w W := ((Below.refl w.heap.size w).alloc (Nat.le_refl _) _).trans (hW.mono (by simp))
    refine notZero_any (G (a + r)) c a w.heap.size (f (a + r)) W (rowIs_below (h.row (a + r) (by omega)) hb0) ?_ hac
    rw [hW.cell (p := ⟨w.heap.size, 0, none⟩) (by simp)]
    simp
  rintro e w1 ⟨i, rfl, hi, hb1⟩
  have hbz : Below w.heap.size w w1 := ((Below.refl w.heap.size w).alloc (Nat.le_refl _) _).trans (hb1.mono (by simp))
  rcases hi with ⟨rfl, hi⟩ | ⟨r, hr, rfl, hy, _⟩
  · clear hi h hz
    go_wp2_with fail
    go_ret
    exact ⟨rfl, hbz⟩
  · exact absurd (hz (a + r) (by omega) (by omega)) (of_decide_eq_true hy)

set_option maxHeartbeats 2000000 in
theorem clear_yes (N b n c a : Nat) (G : Nat → Nat) (f : Nat → Nat → Nat) (w : World) (h : Own w N b n c G f) (hf : Gf.Bd2 f) (ha : a < n) (hac : a < c) (hn : n ≤ 100) (hcc : c ≤ 1000) (hz : ¬ ∀ r, a ≤ r → r < n → f r a = 0) :
    Calls Tryz.prog 171 #[.slice (some ⟨b, 0, none⟩) n n, .int .i64 (a : Int)] w fun e w' => e = .returned (.bool true) ∧ (∃ p G', a ≤ p ∧ p < n ∧ f p a ≠ 0 ∧ Own w' N b n c G' (Gf.clr a p f) ∧ ∀ r, r < n → inOwn b n G (G' r)) ∧ Off (inOwn b n G) w w' := by
  have ha' : (a : Int) ≤ (n : Int) := by omega
  have HZ : Hid (¬ ∀ r, a ≤ r → r < n → f r a = 0) := hz
  clear hz
  go_enter Tryz.func171, Tryz.ntmps171
  go_wp2_with fail
  refine (indexF_any 181 b a (n - a) (n - a) _ (fun r => .slice (some ⟨G (a + r), 0, none⟩) c c) (fun r => decide (f (a + r) a ≠ 0)) _ Tryz.enters_notZero ?_ ?_ (by omega)).mono ?_
  · intro r hr
    rw [((Below.refl w.heap.size w).alloc (Nat.le_refl _) _).cell (p := ⟨b, a + r, none⟩) h.top.lt]
    exact h.top.cell (by omega)
  · intro r hr W hW
    have hb0 : Below w.heap.size w W := ((Below.refl w.heap.size w).alloc (Nat.le_refl _) _).trans (hW.mono (by simp))
    refine notZero_any (G (a + r)) c a w.heap.size (f (a + r)) W (rowIs_below (h.row (a + r) (by omega)) hb0) ?_ hac
    rw [hW.cell (p := ⟨w.heap.size, 0, none⟩) (by simp)]
    simp
  rintro e w1 ⟨i, rfl, hi, hb1⟩
  have hbz : Below w.heap.size w w1 := ((Below.refl w.heap.size w).alloc (Nat.le_refl _) _).trans (hb1.mono (by simp))
  have hB : w1.cell? ⟨w.heap.size, 0, none⟩ = some (.int .i64 (a : Int)) := by
    rw [hb1.cell (p := ⟨w.heap.size, 0, none⟩) (by simp)]
    simp
  rcases hi with ⟨_, hi⟩ | ⟨q, hq, rfl, hy, _⟩
  · exact absurd (fun r h1 h2 => by have := of_decide_eq_false (hi (r - a) (by omega)); rw [Nat.add_sub_cancel' h1] at this; omega) HZ.out
  clear HZ
  have hne : f (a + q) a ≠ 0 := of_decide_eq_true hy
  have HY : Hid (f (a + q) a ≠ 0) := hne
  have HYY : Hid (f (a + q) a ≠ 0) := hne
  have h1 := h.below hbz
  have hlt : b < w.heap.size ∧ ∀ r, r < n → G r < w.heap.size := ⟨h.top.lt, fun r hr => (h.row r hr).lt⟩
  have hsz : w.heap.size < w1.heap.size := World.block_lt_of_cell? _ _ hB
  have HO := h1.swap ha (show a + q < n by omega)
  obtain ⟨wS, hS⟩ : ∃ wS, wS = (w1.setCell ⟨b, a, none⟩ (.slice (some ⟨G (a + q), 0, none⟩) c c)).setCell ⟨b, a + q, none⟩ (.slice (some ⟨G a, 0, none⟩) c c) := ⟨_, rfl⟩
  rw [← hS] at HO
  have HBS : wS.cell? ⟨w.heap.size, 0, none⟩ = some (.int .i64 (a : Int)) := by
    have hOf : Off (fun k => k = b) w1 wS := by rw [hS]; exact Off.set (S := fun k => k = b) (p := ⟨b, a + q, none⟩) (Off.set (S := fun k => k = b) (p := ⟨b, a, none⟩) (Off.refl (fun k => k = b) w1) rfl _) rfl _
    rw [World.cell?_of_block (w := w1) (hOf.block w.heap.size hsz (fun e => by have := hlt.1; omega))]
    exact hB
  have hbS : Off (inOwn b n G) w wS := by rw [hS]; exact Off.set (p := ⟨b, a + q, none⟩) (Off.set (p := ⟨b, a, none⟩) (Off.of_below hbz) (Or.inl rfl) _) (Or.inl rfl) _
  have hsS : w.heap.size < wS.heap.size := World.block_lt_of_cell? _ _ HBS
  have HS : Hid (wS = (w1.setCell ⟨b, a, none⟩ (.slice (some ⟨G (a + q), 0, none⟩) c c)).setCell ⟨b, a + q, none⟩ (.slice (some ⟨G a, 0, none⟩) c c)) := hS
  clear hS
  have t1 := h1.top.cell ha
  have t2 := h1.top.cell (show a + q < n by omega)
  have z1 := h1.top.frozen a
  have z2 := h1.top.frozen (a + q)
  obtain ⟨v3, t3⟩ : ∃ v3, (w1.setCell ⟨b, a, none⟩ (.slice (some ⟨G (a + q), 0, none⟩) c c)).cell? ⟨b, a + q, none⟩ = some v3 := ⟨_, (h1.top.set a _).cell (by omega)⟩
  have z3 := (h1.top.set a (.slice (some ⟨G (a + q), 0, none⟩) c c)).frozen (a + q)
  have hw1 : IntKind.i64.wrap ((a : Int) + (q : Int)) = (a : Int) + (q : Int) := by rw [IntKind.wrap_i64]; omega
  have hap : (a : Int) + (q : Int) < (n : Int) := by omega
  have hal : (a : Int) < (n : Int) := by omega
  clear h h1 hy hne hb1
  go_wp2_with fail
  go_region
  rw [← HS.out]
  clear HS t1 t2 z1 z2 t3 z3 hB hbz hap hsz
  have hGB : ∀ r, r < n → swpG a (a + q) G r < w.heap.size := fun r hr => by
    unfold swpG
    split
    · exact hlt.2 _ (by omega)
    · split
      · exact hlt.2 _ ha
      · exact hlt.2 _ hr
  have hGin : ∀ r, r < n → inOwn b n G (swpG a (a + q) G r) := fun r hr => by
    unfold swpG
    split
    · exact Or.inr ⟨_, by omega, rfl⟩
    · split
      · exact Or.inr ⟨_, ha, rfl⟩
      · exact Or.inr ⟨_, hr, rfl⟩
  have e0 : Gf.swp a (a + q) f a a = f (a + q) a := by
    unfold Gf.swp
    rw [if_pos rfl]
  have hW0 : Gf.Bd2 (Gf.swp a (a + q) f) := Gf.swp_bd hf
  have HD : Hid (Gf.add a (Gf.scl a (Gf.inv (f (a + q) a)) (Gf.swp a (a + q) f)) = Gf.clr a (a + q) f) := rfl
  have hbnd := hf (a + q) a
  generalize swpG a (a + q) G = G' at HO hGB hGin
  generalize Gf.swp a (a + q) f = W0 at HO e0 hW0 HD
  generalize f (a + q) a = x at e0 HD HY hbnd
  have u1 := HO.top.cell ha
  have u2 := (HO.row a ha).cell hac
  rw [e0] at u2
  have hac' : (a : Int) < (c : Int) := by omega
  go_wp2_with fail
  refine (inv_nat _ _ hbnd).mono ?_
  rintro e w2 ⟨rfl, hb2⟩
  have HO2 := HO.drew.below hb2
  have HB2 := (hb2.cell (p := ⟨w.heap.size, 0, none⟩) hsS).trans HBS
  have hbw2 : Off (inOwn b n G) w w2 := hbS.drew.trans (Off.of_below hb2)
  have hs2 : w.heap.size < w2.heap.size := World.block_lt_of_cell? _ _ HB2
  clear hb2 HBS hbS hsS u1 u2 HO
  go_wp2_with fail
  refine (scale_any (G' a) c (Gf.inv x) (W0 a) _ (HO2.row a ha) (hW0 a) (Gf.inv_lt x) (by omega)).mono ?_
  rintro e w3 ⟨rfl, hr3, ho3⟩
  have HO3 : Own w3 N b n c G' (Gf.scl a (Gf.inv x) W0) := HO2.put ha (hr3.congr (fun j _ => by rw [show Gf.scl a (Gf.inv x) W0 a j = Gf.mul (W0 a j) (Gf.inv x) from if_pos rfl])) ho3 (fun i hi => by funext j; exact if_neg hi)
  have HB3 : w3.cell? ⟨w.heap.size, 0, none⟩ = some (.int .i64 (a : Int)) := (World.cell?_of_block (w := w2) (ho3.block w.heap.size hs2 (fun e => by have := hGB a ha; omega))).trans HB2
  have hbw3 : Off (inOwn b n G) w w3 := hbw2.trans (ho3.wider (fun k e => by rw [e]; exact hGin a ha))
  have hW1 : Gf.Bd2 (Gf.scl a (Gf.inv x) W0) := Gf.scl_bd hW0
  clear hr3 ho3 HO2 HB2 hbw2 hs2 e0 hW0
  generalize Gf.scl a (Gf.inv x) W0 = W1 at HO3 hW1 HD
  go_wp2_with fail
  go_loopw [47] (fun i wr => ∃ k : Nat, k ≤ n ∧ i = .int .i64 k ∧ Own wr N b n c G' (addTo a k W1) ∧ wr.cell? ⟨w.heap.size, 0, none⟩ = some (.int .i64 (a : Int)) ∧ Off (inOwn b n G) w wr) (fun i _ => n - (intOf i).toNat)
  case atStart => exact ⟨0, Nat.zero_le _, rfl, HO3.congr (fun i _ j _ => by unfold addTo; rw [if_neg (Nat.not_lt_zero _)]), HB3, hbw3⟩
  case round =>
    clear HO3 HB3 hbw3
    obtain ⟨k, hk, rfl, HOr, HBr, hbr⟩ := hrel
    have hsr : w.heap.size < wr.heap.size := World.block_lt_of_cell? _ _ HBr
    by_cases hlt : k < n
    · have hlt' : (k : Int) < (n : Int) := by omega
      have u1 := HOr.top.cell hlt
      by_cases hka : k = a
      · subst hka
        go_wp2_with fail
        refine ⟨⟨k + 1, by omega, by go_num, HOr.congr (fun i _ j _ => ?_), HBr, hbr⟩, by simp [intOf]; omega⟩
        unfold addTo
        by_cases hi : i < k
        · rw [if_pos hi, if_pos (by omega)]
        · rw [if_neg hi]
          by_cases hi2 : i = k
          · rw [if_pos (by omega), hi2]
            exact (if_pos rfl).symm
          · rw [if_neg (by omega)]
      · have hka' : ((k : Int) == (a : Int)) = false := by rw [beq_eq_false_iff_ne]; omega
        have ek : addTo a k W1 k = W1 k := if_neg (Nat.lt_irrefl _)
        have ea : ∀ j, addTo a k W1 a j = W1 a j := fun j => by
          unfold addTo
          split
          · exact if_pos rfl
          · rfl
        have r1 := HOr.row k hlt
        rw [ek] at r1
        have r2 := (HOr.row a ha).congr (g := fun j => .int .u8 (W1 a j : Nat)) (fun j _ => by rw [ea])
        have u2 := r1.cell hac
        have HE : Hid (k ≠ a) := hka
        clear hka ek ea
        go_wp2_with fail
        refine (addTimes_any (G' k) (G' a) c (W1 k a) (W1 k) (W1 a) _ r1 r2 (HOr.inj k a hlt ha HE.out) (hW1 k) (hW1 a) (hW1 k a) (by omega)).mono ?_
        rintro e w4 ⟨rfl, hr4, ho4⟩
        have HO4 : Own w4 N b n c G' (addTo a (k + 1) W1) := HOr.put hlt (hr4.congr (fun j _ => by
          rw [show addTo a (k + 1) W1 k = Gf.add a W1 k from if_pos (Nat.lt_succ_self _), show Gf.add a W1 k j = W1 k j ^^^ Gf.mul (W1 a j) (W1 k a) from if_neg HE.out])) ho4 (fun i hi => by
          unfold addTo
          by_cases h1 : i < k
          · rw [if_pos h1, if_pos (by omega)]
          · rw [if_neg h1, if_neg (by omega)])
        have HB4 : w4.cell? ⟨w.heap.size, 0, none⟩ = some (.int .i64 (a : Int)) := (World.cell?_of_block (w := wr) (ho4.block w.heap.size hsr (fun e => by have := hGB k hlt; omega))).trans HBr
        have hb4 : Off (inOwn b n G) w w4 := hbr.trans (ho4.wider (fun x e => by rw [e]; exact hGin k hlt))
        clear hr4 ho4 r1 r2 u1 u2 HOr
        go_wp2_with fail
        exact ⟨⟨k + 1, by omega, by go_num, HO4, HB4, hb4⟩, by simp [intOf]; omega⟩
    · have e8 : k = n := by omega
      subst e8
      go_wp2_with fail
      go_ret
      exact ⟨rfl, ⟨a + q, G', by omega, by omega, HYY.out, HOr.congr (fun i hi j _ => by rw [← HD.out]; unfold addTo; rw [if_pos hi]), hGin⟩, hbr⟩

end Go.Proofs.YtmcaejooaaahdaaGreat

namespace Go.Proofs.YtmcaejooaaahdaaGreat
open Go.RowKit

theorem Tryz.enters_inv1 : ∀ args w, (callFunc 169 args).run Tryz.prog w = .ok (.enter 169 args) w := enters_of Tryz.func169 (by kernel_rfl) rfl
theorem Tryz.enters_inv2 : ∀ args w, (callFunc 172 args).run Tryz.prog w = .ok (.enter 172 args) w := enters_of Tryz.func172 (by kernel_rfl) rfl

set_option maxHeartbeats 1000000 in
theorem inv1_any (i j n B1 B2 b o p : Nat) (G O K : Nat → Nat) (f : Nat → Nat → Nat) (w : World) (h1 : w.cell? ⟨B1, 0, none⟩ = some (.int .i64 (n : Int))) (h2 : w.cell? ⟨B2, 0, none⟩ = some (.slice (some ⟨b, o, none⟩) n p))
    (hm : MatAt w b o n n G O K f) (hi : i < n) (hj : j < n + n) (hn : n ≤ 100) :
    Calls Tryz.prog 169 #[.int .i64 (i : Int), .int .i64 (j : Int), .pointer (some ⟨B1, 0, none⟩), .pointer (some ⟨B2, 0, none⟩)] w fun e w' => e = .returned (.int .u8 (Gf.wide0 n f i j : Nat)) ∧ Below w.heap.size w w' := by
  have hi' : (i : Int) < (n : Int) := by omega
  by_cases h : j < n
  · have h' : (j : Int) < (n : Int) := by omega
    have H : Hid (Gf.wide0 n f i j = f i j) := if_pos h
    have t1 := hm.top i hi
    have t2 := hm.row i hi j h
    clear hm
    go_enter Tryz.func169, Tryz.ntmps169
    go_wp2_with fail
    go_ret
    exact ⟨ret_int (by rw [H.out]), Below.refl _ _⟩
  · have h' : ¬ (j : Int) < (n : Int) := by omega
    have H : Hid (Gf.wide0 n f i j = Gf.one i (j - n)) := if_neg h
    have hs : (j : Int) - (n : Int) = ((j - n : Nat) : Int) := by omega
    clear hm
    go_enter Tryz.func169, Tryz.ntmps169
    go_wp2_with fail
    refine (cellOne_any i (j - n) _).mono ?_
    rintro e w1 ⟨rfl, hb⟩
    go_wp2_with fail
    go_ret
    exact ⟨ret_int (by rw [H.out]), hb⟩

set_option maxHeartbeats 1000000 in
theorem inv2_any (i j n c B1 B2 b : Nat) (G : Nat → Nat) (N : Nat) (f : Nat → Nat → Nat) (w : World) (h1 : w.cell? ⟨B1, 0, none⟩ = some (.slice (some ⟨b, 0, none⟩) n n)) (h2 : w.cell? ⟨B2, 0, none⟩ = some (.int .i64 (n : Int)))
    (hm : Own w N b n c G f) (hi : i < n) (hj : n + j < c) (hn : c ≤ 1000) :
    Calls Tryz.prog 172 #[.int .i64 (i : Int), .int .i64 (j : Int), .pointer (some ⟨B1, 0, none⟩), .pointer (some ⟨B2, 0, none⟩)] w fun e w' => e = .returned (.int .u8 (f i (n + j) : Nat)) ∧ Below w.heap.size w w' := by
  have hi' : (i : Int) < (n : Int) := by omega
  have hw : IntKind.i64.wrap ((n : Int) + (j : Int)) = (n : Int) + (j : Int) := by rw [IntKind.wrap_i64]; omega
  have hj' : (n : Int) + (j : Int) < (c : Int) := by omega
  have t1 := hm.top.cell hi
  have t2 := (hm.row i hi).cell hj
  clear hm
  go_enter Tryz.func172, Tryz.ntmps172
  go_wp2_with fail
  go_region
  go_wp2_with fail
  go_ret
  exact ⟨rfl, (Below.refl _ _).drew⟩

set_option maxHeartbeats 1000000 in
theorem undo_any (v : Value) (n : Nat) (f : Nat → Nat → Nat) (w : World) (h : Mx w v n n f) :
    Calls Tryz.prog 143 #[v] w fun e w' => ((∃ v' r, e = .returned (.tuple #[v', .int .i64 0]) ∧ Mx w' v' n n r ∧ Gf.Und n f r) ∨ (e = .returned (.tuple #[.slice none 0 0, .int .i64 6]) ∧ Gf.Sing n f)) ∧ Below w.heap.size w w' := by
  have ok := h.ok
  have H1 := fun w' hb' => wrong_any v n _ f w' (h.below (w' := w') hb').arg
  rw [ok] at H1
  have hbd := h.bd
  obtain ⟨d1, d2, d3, d4⟩ := h.dim
  obtain ⟨b, o, p, G, O, K, rfl, hm⟩ := h.lies
  have h0 : (0 : Int) < (n : Int) := by omega
  have h0m : 0 < n := by omega
  clear h ok
  go_enter Tryz.func143, Tryz.ntmps143
  go_wp2_with fail
  refine (H1 _ ((Below.refl _ _).alloc (Nat.le_refl _) _)).mono ?_
  rintro e w1 ⟨rfl, hb1⟩
  have hbw1 : Below w.heap.size w w1 := ((Below.refl w.heap.size w).alloc (Nat.le_refl _) _).trans (hb1.mono (by simp))
  have k1 : w1.cell? ⟨w.heap.size, 0, none⟩ = some (.slice (some ⟨b, o, none⟩) n p) := by
    rw [hb1.cell (p := ⟨w.heap.size, 0, none⟩) (by simp)]
    simp
  have hm1 := hm.below hbw1
  have t1 : w1.cell? ⟨b, o, none⟩ = some (.slice (some ⟨G 0, O 0, none⟩) n (K 0)) := by simpa using hm1.top 0 (by omega)
  have l1 := World.block_lt_of_cell? _ _ k1
  have l2 := World.block_lt_of_cell? _ _ t1
  clear hm H1 hb1
  go_wp2_with fail
  go_region
  obtain ⟨w2, hw2⟩ : ∃ w2, w2 = (w1.alloc (.cells #[.int .i64 (n : Int)] 3)).drew := ⟨_, rfl⟩
  have hb2 : Below w1.heap.size w1 w2 := by rw [hw2]; exact ((Below.refl _ _).alloc (Nat.le_refl _) _).drew
  have z2 : w2.heap.size = w1.heap.size + 1 := by rw [hw2]; simp
  have c1 : w2.cell? ⟨w1.heap.size, 0, none⟩ = some (.int .i64 (n : Int)) := by rw [hw2]; simp
  have c0 := (hb2.cell (p := ⟨w.heap.size, 0, none⟩) l1).trans k1
  have hm2 := hm1.below hb2
  have hbw2 := hbw1.trans (hb2.mono hbw1.size)
  have hfl := filled_any 169 n (n + n) #[.pointer (some ⟨w1.heap.size, 0, none⟩), .pointer (some ⟨w.heap.size, 0, none⟩)] (Gf.wide0 n f) w2 Tryz.enters_inv1
    (fun i hi j hj W hW => inv1_any i j n w1.heap.size w.heap.size b o p G O K f W ((hW.cell (p := ⟨w1.heap.size, 0, none⟩) (World.block_lt_of_cell? _ _ c1)).trans c1) ((hW.cell (p := ⟨w.heap.size, 0, none⟩) (World.block_lt_of_cell? _ _ c0)).trans c0) (hm2.below hW) hi hj (by omega)) (by omega) (by omega)
  rw [show ((n + n : Nat) : Int) = 2 * (n : Int) by omega] at hfl
  have hl1 : w1.heap.size < w2.heap.size := by omega
  rw [← hw2]
  clear hw2 hm1 hm2 k1 t1 l1 l2 hb2 hbw1 c0 z2
  go_wp2_with fail
  refine hfl.mono ?_
  rintro e w3 ⟨rfl, ⟨G3, ho3⟩, hb3⟩
  have c1 := (hb3.cell (p := ⟨w1.heap.size, 0, none⟩) hl1).trans c1
  have hbw3 := hbw2.trans (hb3.mono hbw2.size)
  have lb1 := World.block_lt_of_cell? _ _ c1
  clear hfl hb3
  have c1s : (w3.alloc (.cells #[.slice (some ⟨w2.heap.size, 0, none⟩) n n] 169)).cell? ⟨w1.heap.size, 0, none⟩ = some (.int .i64 (n : Int)) := (((Below.refl w3.heap.size w3).alloc (Nat.le_refl _) _).cell (p := ⟨w1.heap.size, 0, none⟩) lb1).trans c1
  have c2s : (w3.alloc (.cells #[.slice (some ⟨w2.heap.size, 0, none⟩) n n] 169)).cell? ⟨w3.heap.size, 0, none⟩ = some (.slice (some ⟨w2.heap.size, 0, none⟩) n n) := by simp
  have hos : Own (w3.alloc (.cells #[.slice (some ⟨w2.heap.size, 0, none⟩) n n] 169)) w2.heap.size w2.heap.size n (n + n) G3 (Gf.wide0 n f) := ho3.below ((Below.refl _ _).alloc (Nat.le_refl _) _)
  have hG3 : ∀ r, r < n → G3 r < w3.heap.size := fun r hr => (ho3.row r hr).lt
  have hb23 : w2.heap.size < w3.heap.size := ho3.top.lt
  have hbs : Below w.heap.size w (w3.alloc (.cells #[.slice (some ⟨w2.heap.size, 0, none⟩) n n] 169)) := hbw3.alloc hbw3.size _
  have z12 := hbw2.size
  clear ho3 hbw3 hbw2
  go_wp2_with fail
  clear c1 lb1
  go_loopw [28] (fun i wr => ∃ k : Nat, k ≤ n ∧ i = .int .i64 k ∧ (∃ G W, Own wr w2.heap.size w2.heap.size n (n + n) G W ∧ (∀ r, r < n → G r < w3.heap.size) ∧ Gf.Elim n f (fun j => j < k) W) ∧ wr.cell? ⟨w1.heap.size, 0, none⟩ = some (.int .i64 (n : Int)) ∧ wr.cell? ⟨w3.heap.size, 0, none⟩ = some (.slice (some ⟨w2.heap.size, 0, none⟩) n n) ∧ Below w.heap.size w wr) (fun i _ => n - (intOf i).toNat)
  case atStart => exact ⟨0, Nat.zero_le _, rfl, ⟨G3, _, hos, hG3, Gf.Elim.start hbd (fun j => Nat.not_lt_zero j)⟩, c1s, c2s, hbs⟩
  case round =>
    clear c1s c2s hos hG3 hbs
    obtain ⟨k, hk, rfl, ⟨G', W, HO, hG, HE⟩, c1, c2, hbr⟩ := hrel
    have l2 := World.block_lt_of_cell? _ _ c2
    by_cases hlt : k < n
    · have hlt' : (k : Int) < (n : Int) := by omega
      by_cases hz : ∀ r, k ≤ r → r < n → W r k = 0
      · have HS : Hid (Gf.Sing n f) := HE.fails hlt (Nat.lt_irrefl k) (fun i hi hd => hz i (by omega) hi)
        have hcl := clear_no w2.heap.size w2.heap.size n (n + n) k G' W wr HO hlt (by omega) (by omega) hz
        clear hz HE HO
        go_wp2_with fail
        refine hcl.mono ?_
        rintro e w4 ⟨rfl, hb4⟩
        go_wp2_with fail
        go_ret2
        exact ⟨Or.inr ⟨rfl, HS.out⟩, hbr.trans (hb4.mono hbr.size)⟩
      · have hcl := clear_yes w2.heap.size w2.heap.size n (n + n) k G' W wr HO HE.bd hlt (by omega) (by omega) (by omega) hz
        have HEE : Hid (Gf.Elim n f (fun j => j < k) W) := HE
        clear hz HE
        go_wp2_with fail
        refine hcl.mono ?_
        rintro e w4 ⟨rfl, ⟨p', G4, hp1, hp2, hp3, HO4, hG4⟩, ho4⟩
        have c1' : w4.cell? ⟨w1.heap.size, 0, none⟩ = some (.int .i64 (n : Int)) := by
          refine (World.cell?_of_block (w := wr) (ho4.block w1.heap.size (World.block_lt_of_cell? _ _ c1) (fun e => ?_))).trans c1
          rcases e with e | ⟨r, hr, e⟩
          · omega
          · have := HO.low r hr
            omega
        have c2' : w4.cell? ⟨w3.heap.size, 0, none⟩ = some (.slice (some ⟨w2.heap.size, 0, none⟩) n n) := by
          refine (World.cell?_of_block (w := wr) (ho4.block w3.heap.size l2 (fun e => ?_))).trans c2
          rcases e with e | ⟨r, hr, e⟩
          · omega
          · have := hG r hr
            omega
        have hb4 : Below w.heap.size w w4 := hbr.trans (ho4.below hbr.size (fun x e => by
          rcases e with e | ⟨r, hr, e⟩
          · omega
          · have := HO.low r hr
            omega))
        have hG' : ∀ r, r < n → G4 r < w3.heap.size := fun r hr => by
          rcases hG4 r hr with e | ⟨s, hs, e⟩
          · omega
          · have := hG s hs
            omega
        have HE4 : Hid (Gf.Elim n f (fun j => j < k + 1) (Gf.clr k p' W)) := HEE.out.step hlt hp2 (Nat.lt_irrefl k) (show ¬ p' < k by omega) hp3 (fun j hj => by omega)
        clear hcl hp1 hp2 hp3 hG4 ho4 HO hG c1 c2 HEE
        go_wp2_with fail
        exact ⟨⟨k + 1, by omega, by go_num, ⟨G4, _, HO4, hG', HE4.out⟩, c1', c2', hb4⟩, by simp [intOf]; omega⟩
    · have e8 : k = n := by omega
      subst e8
      have HU : Hid (Gf.Und k f (fun i j => W i (k + j))) := HE.done hbd (fun j hj => hj)
      have hfl := filled_any 172 k k #[.pointer (some ⟨w3.heap.size, 0, none⟩), .pointer (some ⟨w1.heap.size, 0, none⟩)] (fun i j => W i (k + j)) wr Tryz.enters_inv2
        (fun i hi j hj X hX => inv2_any i j k (k + k) w3.heap.size w1.heap.size w2.heap.size G' w2.heap.size W X ((hX.cell (p := ⟨w3.heap.size, 0, none⟩) l2).trans c2) ((hX.cell (p := ⟨w1.heap.size, 0, none⟩) (World.block_lt_of_cell? _ _ c1)).trans c1) (HO.below hX) hi (by omega) (by omega)) (by omega) (by omega)
      have hbdW := HE.bd
      clear HE HO
      go_wp2_with fail
      refine hfl.mono ?_
      rintro e w5 ⟨rfl, ⟨G5, ho5⟩, hb5⟩
      go_wp2_with fail
      go_ret2
      exact ⟨Or.inl ⟨_, _, rfl, ho5.mx (fun i j => hbdW i (k + j)) ⟨d1, d2, d3, d4⟩, HU.out⟩, hbr.trans (hb5.mono hbr.size)⟩

end Go.Proofs.YtmcaejooaaahdaaGreat
