/-
  What grid.clearColumn does, call by call.
-/
import Derived.Test.YtmlboaejkmffjadMulM
namespace Go.Proofs.Ytmlboaejkmffjad
open Go.RowKit

theorem Try.enters_notZero : ∀ args w, (callFunc 104 args).run Try.prog w = .ok (.enter 104 args) w := enters_of Try.func104 (by kernel_rfl) rfl

set_option maxHeartbeats 400000 in
theorem notZero_any (g c a B : Nat) (f : Nat → Nat) (w : World) (hr : w.rowIs g 5 c (fun k => .int .u8 (f k : Nat))) (hB : w.cell? ⟨B, 0, none⟩ = some (.int .i64 (a : Int))) (ha : a < c) :
    Calls Try.prog 104 #[.slice (some ⟨g, 0, none⟩) c c, .pointer (some ⟨B, 0, none⟩)] w fun e w' => e = .returned (.bool (decide (f a ≠ 0))) ∧ Below w.heap.size w w' := by
  have hc := hr.cell ha
  have ha' : (a : Int) < (c : Int) := by omega
  by_cases h : f a = 0
  · have H : Hid (decide (f a ≠ 0) = false) := by show decide (f a ≠ 0) = false; simpa using h
    rw [h] at hc
    clear h hr
    go_enter Try.func104, Try.ntmps104
    go_wp2_with fail
    go_ret
    exact ⟨ret_bool (by rw [H.out]), Below.refl _ _⟩
  · have H : Hid (decide (f a ≠ 0) = true) := by show decide (f a ≠ 0) = true; simpa using h
    have h' : ((f a : Int) == 0) = false := by rw [beq_eq_false_iff_ne]; omega
    clear h hr
    go_enter Try.func104, Try.ntmps104
    go_wp2_with fail
    go_ret
    exact ⟨ret_bool (by rw [H.out]; simp [bne, h']), Below.refl _ _⟩

/-- Blocks exchanged. -/
def swpG (a p : Nat) (G : Nat → Nat) (i : Nat) : Nat := if i = a then G p else if i = p then G a else G i

theorem Own.swap {w : World} {N b n c a p : Nat} {G : Nat → Nat} {f : Nat → Nat → Nat} (h : Own w N b n c G f) (ha : a < n) (hp : p < n) :
    Own ((w.setCell ⟨b, a, none⟩ (.slice (some ⟨G p, 0, none⟩) c c)).setCell ⟨b, p, none⟩ (.slice (some ⟨G a, 0, none⟩) c c)) N b n c (swpG a p G) (Gf.swp a p f) := by
  have es : ∀ i, i < n → ∃ s, s < n ∧ swpG a p G i = G s ∧ Gf.swp a p f i = f s ∧ s = (if i = a then p else if i = p then a else i) := fun i hi => by
    unfold swpG Gf.swp
    by_cases h1 : i = a
    · exact ⟨p, hp, by rw [if_pos h1], by rw [if_pos h1], by rw [if_pos h1]⟩
    · by_cases h2 : i = p
      · exact ⟨a, ha, by rw [if_neg h1, if_pos h2], by rw [if_neg h1, if_pos h2], by rw [if_neg h1, if_pos h2]⟩
      · exact ⟨i, hi, by rw [if_neg h1, if_neg h2], by rw [if_neg h1, if_neg h2], by rw [if_neg h1, if_neg h2]⟩
  refine ⟨((h.top.set a _).set p _).congr (fun i _ => ?_), fun i hi => ?_, h.lob, fun i hi => ?_, fun i hi => ?_, fun i j hi hj hne => ?_⟩
  · unfold swpG
    by_cases h2 : i = p
    · rw [if_pos h2]
      by_cases h1 : i = a
      · rw [if_pos h1, ← h1, ← h2]
      · rw [if_neg h1, if_pos h2]
    · rw [if_neg h2]
      by_cases h1 : i = a
      · rw [if_pos h1, if_pos h1]
      · rw [if_neg h1, if_neg h1, if_neg h2]
  · obtain ⟨s, hs, e1, e2, _⟩ := es i hi
    rw [e1, e2]
    exact ((h.row s hs).setOther (h.apart s hs) _).setOther (h.apart s hs) _
  · obtain ⟨s, hs, e1, _, _⟩ := es i hi
    rw [e1]
    exact h.low s hs
  · obtain ⟨s, hs, e1, _, _⟩ := es i hi
    rw [e1]
    exact h.apart s hs
  · obtain ⟨s, hs, e1, _, e3⟩ := es i hi
    obtain ⟨t, ht, d1, _, d3⟩ := es j hj
    rw [e1, d1]
    refine h.inj s t hs ht ?_
    rw [e3, d3]
    (repeat' split) <;> omega

/-- One row of it rewritten. -/
theorem Own.put {w w' : World} {N b n c k : Nat} {G : Nat → Nat} {f f' : Nat → Nat → Nat} (h : Own w N b n c G f) (hk : k < n) (hr : w'.rowIs (G k) 5 c (fun j => .int .u8 (f' k j : Nat))) (ho : Off (fun x => x = G k) w w') (he : ∀ i, i ≠ k → f' i = f i) : Own w' N b n c G f' :=
  ⟨rowIs_off h.top ho (fun e => h.apart k hk e.symm), fun i hi => by
    by_cases e : i = k
    · rw [e]
      exact hr
    · rw [he i e]
      exact rowIs_off (h.row i hi) ho (h.inj i k hi hk e), h.lob, h.low, h.apart, h.inj⟩
theorem Own.congr {w : World} {N b n c : Nat} {G : Nat → Nat} {f f' : Nat → Nat → Nat} (h : Own w N b n c G f) (he : ∀ i, i < n → ∀ j, j < c → f i j = f' i j) : Own w N b n c G f' :=
  ⟨h.top, fun i hi => (h.row i hi).congr (fun j hj => by rw [he i hi j hj]), h.lob, h.low, h.apart, h.inj⟩
theorem Own.drew {w : World} {N b n c : Nat} {G : Nat → Nat} {f : Nat → Nat → Nat} (h : Own w N b n c G f) : Own w.drew N b n c G f := ⟨h.top, h.row, h.lob, h.low, h.apart, h.inj⟩

/-- The pivot added to the first k rows. -/
def addTo (a k : Nat) (W : Nat → Nat → Nat) (i : Nat) : Nat → Nat := if i < k then Gf.add a W i else W i

set_option maxHeartbeats 2000000 in
theorem clear_no (N b n c a : Nat) (G : Nat → Nat) (f : Nat → Nat → Nat) (w : World) (h : Own w N b n c G f) (ha : a < n) (hac : a < c) (hn : n ≤ 100) (hz : ∀ r, a ≤ r → r < n → f r a = 0) :
    Calls Try.prog 97 #[.slice (some ⟨b, 0, none⟩) n n, .int .i64 (a : Int)] w fun e w' => e = .returned (.bool false) ∧ Below w.heap.size w w' := by
  have ha' : (a : Int) ≤ (n : Int) := by omega
  go_enter Try.func97, Try.ntmps97
  go_wp2_with fail
  refine (indexF_any 104 b a (n - a) (n - a) _ (fun r => .slice (some ⟨G (a + r), 0, none⟩) c c) (fun r => decide (f (a + r) a ≠ 0)) _ Try.enters_notZero ?_ ?_ (by omega)).mono ?_
  · intro r hr
    rw [((Below.refl w.heap.size w).alloc (Nat.le_refl _) _).cell (p := ⟨b, a + r, none⟩) h.top.lt]
    exact h.top.cell (by omega)
  · intro r hr W hW
    have hb0 : Below w.heap.size w W := ((Below.refl w.heap.size w).alloc (Nat.le_refl _) _).trans (hW.mono (by simp))
    refine notZero_any (G (a + r)) c a w.heap.size (f (a + r)) W (rowIs_below (h.row (a + r) (by omega)) hb0) ?_ hac
    rw [hW.cell (p := ⟨w.heap.size, 0, none⟩) (by simp)]
    simp
  rintro e w1 ⟨i, rfl, hi, hb1⟩
  have hbz : Below w.heap.size w w1 := ((Below.refl w.heap.size w).alloc (Nat.le_refl _) _).trans (hb1.mono (by simp))
  rcases hi with ⟨rfl, hi⟩ | ⟨r, hr, rfl, hy, _⟩
  · clear hi h hz
    go_wp2_with fail
    go_ret
    exact ⟨rfl, hbz⟩
  · exact absurd (hz (a + r) (by omega) (by omega)) (of_decide_eq_true hy)

set_option maxHeartbeats 2000000 in
theorem clear_yes (N b n c a : Nat) (G : Nat → Nat) (f : Nat → Nat → Nat) (w : World) (h : Own w N b n c G f) (hf : Gf.Bd2 f) (ha : a < n) (hac : a < c) (hn : n ≤ 100) (hcc : c ≤ 1000) (hz : ¬ ∀ r, a ≤ r → r < n → f r a = 0) :
    Calls Try.prog 97 #[.slice (some ⟨b, 0, none⟩) n n, .int .i64 (a : Int)] w fun e w' => e = .returned (.bool true) ∧ (∃ p G', a ≤ p ∧ p < n ∧ f p a ≠ 0 ∧ Own w' N b n c G' (Gf.clr a p f) ∧ ∀ r, r < n → inOwn b n G (G' r)) ∧ Off (inOwn b n G) w w' := by
  have ha' : (a : Int) ≤ (n : Int) := by omega
  have HZ : Hid (¬ ∀ r, a ≤ r → r < n → f r a = 0) := hz
  clear hz
  go_enter Try.func97, Try.ntmps97
  go_wp2_with fail
  refine (indexF_any 104 b a (n - a) (n - a) _ (fun r => .slice (some ⟨G (a + r), 0, none⟩) c c) (fun r => decide (f (a + r) a ≠ 0)) _ Try.enters_notZero ?_ ?_ (by omega)).mono ?_
  · intro r hr
    rw [((Below.refl w.heap.size w).alloc (Nat.le_refl _) _).cell (p := ⟨b, a + r, none⟩) h.top.lt]
    exact h.top.cell (by omega)
  · intro r hr W hW
    have hb0 : Below w.heap.size w W := ((Below.refl w.heap.size w).alloc (Nat.le_refl _) _).trans (hW.mono (by simp))
    refine notZero_any (G (a + r)) c a w.heap.size (f (a + r)) W (rowIs_below (h.row (a + r) (by omega)) hb0) ?_ hac
    rw [hW.cell (p := ⟨w.heap.size, 0, none⟩) (by simp)]
    simp
  rintro e w1 ⟨i, rfl, hi, hb1⟩
  have hbz : Below w.heap.size w w1 := ((Below.refl w.heap.size w).alloc (Nat.le_refl _) _).trans (hb1.mono (by simp))
  have hB : w1.cell? ⟨w.heap.size, 0, none⟩ = some (.int .i64 (a : Int)) := by
    rw [hb1.cell (p := ⟨w.heap.size, 0, none⟩) (by simp)]
    simp
  rcases hi with ⟨_, hi⟩ | ⟨q, hq, rfl, hy, _⟩
  · exact absurd (fun r h1 h2 => by have := of_decide_eq_false (hi (r - a) (by omega)); rw [Nat.add_sub_cancel' h1] at this; omega) HZ.out
  clear HZ
  have hne : f (a + q) a ≠ 0 := of_decide_eq_true hy
  have HY : Hid (f (a + q) a ≠ 0) := hne
  have HYY : Hid (f (a + q) a ≠ 0) := hne
  have h1 := h.below hbz
  have hlt : b < w.heap.size ∧ ∀ r, r < n → G r < w.heap.size := ⟨h.top.lt, fun r hr => (h.row r hr).lt⟩
  have hsz : w.heap.size < w1.heap.size := World.block_lt_of_cell? _ _ hB
  have HO := h1.swap ha (show a + q < n by omega)
  obtain ⟨wS, hS⟩ : ∃ wS, wS = (w1.setCell ⟨b, a, none⟩ (.slice (some ⟨G (a + q), 0, none⟩) c c)).setCell ⟨b, a + q, none⟩ (.slice (some ⟨G a, 0, none⟩) c c) := ⟨_, rfl⟩
  rw [← hS] at HO
  have HBS : wS.cell? ⟨w.heap.size, 0, none⟩ = some (.int .i64 (a : Int)) := by
    have hOf : Off (fun k => k = b) w1 wS := by rw [hS]; exact Off.set (S := fun k => k = b) (p := ⟨b, a + q, none⟩) (Off.set (S := fun k => k = b) (p := ⟨b, a, none⟩) (Off.refl (fun k => k = b) w1) rfl _) rfl _
    rw [World.cell?_of_block (w := w1) (hOf.block w.heap.size hsz (fun e => by have := hlt.1; omega))]
    exact hB
  have hbS : Off (inOwn b n G) w wS := by rw [hS]; exact Off.set (p := ⟨b, a + q, none⟩) (Off.set (p := ⟨b, a, none⟩) (Off.of_below hbz) (Or.inl rfl) _) (Or.inl rfl) _
  have hsS : w.heap.size < wS.heap.size := World.block_lt_of_cell? _ _ HBS
  have HS : Hid (wS = (w1.setCell ⟨b, a, none⟩ (.slice (some ⟨G (a + q), 0, none⟩) c c)).setCell ⟨b, a + q, none⟩ (.slice (some ⟨G a, 0, none⟩) c c)) := hS
  clear hS
  have t1 := h1.top.cell ha
  have t2 := h1.top.cell (show a + q < n by omega)
  have z1 := h1.top.frozen a
  have z2 := h1.top.frozen (a + q)
  obtain ⟨v3, t3⟩ : ∃ v3, (w1.setCell ⟨b, a, none⟩ (.slice (some ⟨G (a + q), 0, none⟩) c c)).cell? ⟨b, a + q, none⟩ = some v3 := ⟨_, (h1.top.set a _).cell (by omega)⟩
  have z3 := (h1.top.set a (.slice (some ⟨G (a + q), 0, none⟩) c c)).frozen (a + q)
  have hw1 : IntKind.i64.wrap ((a : Int) + (q : Int)) = (a : Int) + (q : Int) := by rw [IntKind.wrap_i64]; omega
  have hap : (a : Int) + (q : Int) < (n : Int) := by omega
  have hal : (a : Int) < (n : Int) := by omega
  clear h h1 hy hne hb1
  go_wp2_with fail
  go_region
  rw [← HS.out]
  clear HS t1 t2 z1 z2 t3 z3 hB hbz hap hsz
  have hGB : ∀ r, r < n → swpG a (a + q) G r < w.heap.size := fun r hr => by
    unfold swpG
    split
    · exact hlt.2 _ (by omega)
    · split
      · exact hlt.2 _ ha
      · exact hlt.2 _ hr
  have hGin : ∀ r, r < n → inOwn b n G (swpG a (a + q) G r) := fun r hr => by
    unfold swpG
    split
    · exact Or.inr ⟨_, by omega, rfl⟩
    · split
      · exact Or.inr ⟨_, ha, rfl⟩
      · exact Or.inr ⟨_, hr, rfl⟩
  have e0 : Gf.swp a (a + q) f a a = f (a + q) a := by
    unfold Gf.swp
    rw [if_pos rfl]
  have hW0 : Gf.Bd2 (Gf.swp a (a + q) f) := Gf.swp_bd hf
  have HD : Hid (Gf.add a (Gf.scl a (Gf.inv (f (a + q) a)) (Gf.swp a (a + q) f)) = Gf.clr a (a + q) f) := rfl
  have hbnd := hf (a + q) a
  generalize swpG a (a + q) G = G' at HO hGB hGin
  generalize Gf.swp a (a + q) f = W0 at HO e0 hW0 HD
  generalize f (a + q) a = x at e0 HD HY hbnd
  have u1 := HO.top.cell ha
  have u2 := (HO.row a ha).cell hac
  rw [e0] at u2
  have hac' : (a : Int) < (c : Int) := by omega
  go_wp2_with fail
  refine (inv_nat _ _ hbnd).mono ?_
  rintro e w2 ⟨rfl, hb2⟩
  have HO2 := HO.drew.below hb2
  have HB2 := (hb2.cell (p := ⟨w.heap.size, 0, none⟩) hsS).trans HBS
  have hbw2 : Off (inOwn b n G) w w2 := hbS.drew.trans (Off.of_below hb2)
  have hs2 : w.heap.size < w2.heap.size := World.block_lt_of_cell? _ _ HB2
  clear hb2 HBS hbS hsS u1 u2 HO
  go_wp2_with fail
  refine (scale_any (G' a) c (Gf.inv x) (W0 a) _ (HO2.row a ha) (hW0 a) (Gf.inv_lt x) (by omega)).mono ?_
  rintro e w3 ⟨rfl, hr3, ho3⟩
  have HO3 : Own w3 N b n c G' (Gf.scl a (Gf.inv x) W0) := HO2.put ha (hr3.congr (fun j _ => by rw [show Gf.scl a (Gf.inv x) W0 a j = Gf.mul (W0 a j) (Gf.inv x) from if_pos rfl])) ho3 (fun i hi => by funext j; exact if_neg hi)
  have HB3 : w3.cell? ⟨w.heap.size, 0, none⟩ = some (.int .i64 (a : Int)) := (World.cell?_of_block (w := w2) (ho3.block w.heap.size hs2 (fun e => by have := hGB a ha; omega))).trans HB2
  have hbw3 : Off (inOwn b n G) w w3 := hbw2.trans (ho3.wider (fun k e => by rw [e]; exact hGin a ha))
  have hW1 : Gf.Bd2 (Gf.scl a (Gf.inv x) W0) := Gf.scl_bd hW0
  clear hr3 ho3 HO2 HB2 hbw2 hs2 e0 hW0
  generalize Gf.scl a (Gf.inv x) W0 = W1 at HO3 hW1 HD
  go_wp2_with fail
  go_loopw [47] (fun i wr => ∃ k : Nat, k ≤ n ∧ i = .int .i64 k ∧ Own wr N b n c G' (addTo a k W1) ∧ wr.cell? ⟨w.heap.size, 0, none⟩ = some (.int .i64 (a : Int)) ∧ Off (inOwn b n G) w wr) (fun i _ => n - (intOf i).toNat)
  case atStart => exact ⟨0, Nat.zero_le _, rfl, HO3.congr (fun i _ j _ => by unfold addTo; rw [if_neg (Nat.not_lt_zero _)]), HB3, hbw3⟩
  case round =>
    clear HO3 HB3 hbw3
    obtain ⟨k, hk, rfl, HOr, HBr, hbr⟩ := hrel
    have hsr : w.heap.size < wr.heap.size := World.block_lt_of_cell? _ _ HBr
    by_cases hlt : k < n
    · have hlt' : (k : Int) < (n : Int) := by omega
      have u1 := HOr.top.cell hlt
      by_cases hka : k = a
      · subst hka
        go_wp2_with fail
        refine ⟨⟨k + 1, by omega, by go_num, HOr.congr (fun i _ j _ => ?_), HBr, hbr⟩, by simp [intOf]; omega⟩
        unfold addTo
        by_cases hi : i < k
        · rw [if_pos hi, if_pos (by omega)]
        · rw [if_neg hi]
          by_cases hi2 : i = k
          · rw [if_pos (by omega), hi2]
            exact (if_pos rfl).symm
          · rw [if_neg (by omega)]
      · have hka' : ((k : Int) == (a : Int)) = false := by rw [beq_eq_false_iff_ne]; omega
        have ek : addTo a k W1 k = W1 k := if_neg (Nat.lt_irrefl _)
        have ea : ∀ j, addTo a k W1 a j = W1 a j := fun j => by
          unfold addTo
          split
          · exact if_pos rfl
          · rfl
        have r1 := HOr.row k hlt
        rw [ek] at r1
        have r2 := (HOr.row a ha).congr (g := fun j => .int .u8 (W1 a j : Nat)) (fun j _ => by rw [ea])
        have u2 := r1.cell hac
        have HE : Hid (k ≠ a) := hka
        clear hka ek ea
        go_wp2_with fail
        refine (addTimes_any (G' k) (G' a) c (W1 k a) (W1 k) (W1 a) _ r1 r2 (HOr.inj k a hlt ha HE.out) (hW1 k) (hW1 a) (hW1 k a) (by omega)).mono ?_
        rintro e w4 ⟨rfl, hr4, ho4⟩
        have HO4 : Own w4 N b n c G' (addTo a (k + 1) W1) := HOr.put hlt (hr4.congr (fun j _ => by
          rw [show addTo a (k + 1) W1 k = Gf.add a W1 k from if_pos (Nat.lt_succ_self _), show Gf.add a W1 k j = W1 k j ^^^ Gf.mul (W1 a j) (W1 k a) from if_neg HE.out])) ho4 (fun i hi => by
          unfold addTo
          by_cases h1 : i < k
          · rw [if_pos h1, if_pos (by omega)]
          · rw [if_neg h1, if_neg (by omega)])
        have HB4 : w4.cell? ⟨w.heap.size, 0, none⟩ = some (.int .i64 (a : Int)) := (World.cell?_of_block (w := wr) (ho4.block w.heap.size hsr (fun e => by have := hGB k hlt; omega))).trans HBr
        have hb4 : Off (inOwn b n G) w w4 := hbr.trans (ho4.wider (fun x e => by rw [e]; exact hGin k hlt))
        clear hr4 ho4 r1 r2 u1 u2 HOr
        go_wp2_with fail
        exact ⟨⟨k + 1, by omega, by go_num, HO4, HB4, hb4⟩, by simp [intOf]; omega⟩
    · have e8 : k = n := by omega
      subst e8
      go_wp2_with fail
      go_ret
      exact ⟨rfl, ⟨a + q, G', by omega, by omega, HYY.out, HOr.congr (fun i hi j _ => by rw [← HD.out]; unfold addTo; rw [if_pos hi]), hGin⟩, hbr⟩

end Go.Proofs.Ytmlboaejkmffjad
