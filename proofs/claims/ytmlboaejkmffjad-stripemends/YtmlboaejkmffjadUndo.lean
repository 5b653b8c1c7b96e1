/-
  What grid.Invert does, call by call.
-/
import Derived.Test.YtmlboaejkmffjadClear
namespace Go.Proofs.Ytmlboaejkmffjad
open Go.RowKit

theorem Try.enters_inv1 : ∀ args w, (callFunc 95 args).run Try.prog w = .ok (.enter 95 args) w := enters_of Try.func95 (by kernel_rfl) rfl
theorem Try.enters_inv2 : ∀ args w, (callFunc 98 args).run Try.prog w = .ok (.enter 98 args) w := enters_of Try.func98 (by kernel_rfl) rfl

set_option maxHeartbeats 1000000 in
theorem inv1_any (i j n B1 B2 b o p : Nat) (G O K : Nat → Nat) (f : Nat → Nat → Nat) (w : World) (h1 : w.cell? ⟨B1, 0, none⟩ = some (.int .i64 (n : Int))) (h2 : w.cell? ⟨B2, 0, none⟩ = some (.slice (some ⟨b, o, none⟩) n p))
    (hm : MatAt w b o n n G O K f) (hi : i < n) (hj : j < n + n) (hn : n ≤ 100) :
    Calls Try.prog 95 #[.int .i64 (i : Int), .int .i64 (j : Int), .pointer (some ⟨B1, 0, none⟩), .pointer (some ⟨B2, 0, none⟩)] w fun e w' => e = .returned (.int .u8 (Gf.wide0 n f i j : Nat)) ∧ Below w.heap.size w w' := by
  have hi' : (i : Int) < (n : Int) := by omega
  by_cases h : j < n
  · have h' : (j : Int) < (n : Int) := by omega
    have H : Hid (Gf.wide0 n f i j = f i j) := if_pos h
    have t1 := hm.top i hi
    have t2 := hm.row i hi j h
    clear hm
    go_enter Try.func95, Try.ntmps95
    go_wp2_with fail
    go_ret
    exact ⟨ret_int (by rw [H.out]), Below.refl _ _⟩
  · have h' : ¬ (j : Int) < (n : Int) := by omega
    have H : Hid (Gf.wide0 n f i j = Gf.one i (j - n)) := if_neg h
    have hs : (j : Int) - (n : Int) = ((j - n : Nat) : Int) := by omega
    clear hm
    go_enter Try.func95, Try.ntmps95
    go_wp2_with fail
    refine (cellOne_any i (j - n) _).mono ?_
    rintro e w1 ⟨rfl, hb⟩
    go_wp2_with fail
    go_ret
    exact ⟨ret_int (by rw [H.out]), hb⟩

set_option maxHeartbeats 1000000 in
theorem inv2_any (i j n c B1 B2 b : Nat) (G : Nat → Nat) (N : Nat) (f : Nat → Nat → Nat) (w : World) (h1 : w.cell? ⟨B1, 0, none⟩ = some (.slice (some ⟨b, 0, none⟩) n n)) (h2 : w.cell? ⟨B2, 0, none⟩ = some (.int .i64 (n : Int)))
    (hm : Own w N b n c G f) (hi : i < n) (hj : n + j < c) (hn : c ≤ 1000) :
    Calls Try.prog 98 #[.int .i64 (i : Int), .int .i64 (j : Int), .pointer (some ⟨B1, 0, none⟩), .pointer (some ⟨B2, 0, none⟩)] w fun e w' => e = .returned (.int .u8 (f i (n + j) : Nat)) ∧ Below w.heap.size w w' := by
  have hi' : (i : Int) < (n : Int) := by omega
  have hw : IntKind.i64.wrap ((n : Int) + (j : Int)) = (n : Int) + (j : Int) := by rw [IntKind.wrap_i64]; omega
  have hj' : (n : Int) + (j : Int) < (c : Int) := by omega
  have t1 := hm.top.cell hi
  have t2 := (hm.row i hi).cell hj
  clear hm
  go_enter Try.func98, Try.ntmps98
  go_wp2_with fail
  go_region
  go_wp2_with fail
  go_ret
  exact ⟨rfl, (Below.refl _ _).drew⟩

set_option maxHeartbeats 1000000 in
theorem undo_bad1 (v : Value) (n : Nat) (L : Nat → Nat) (f : Nat → Nat → Nat) (w : World) (h : Arg w v n L f) (hx : wrongE n L ≠ 0) :
    Calls Try.prog 73 #[v] w fun e w' => e = .returned (.tuple #[.slice none 0 0, .int .i64 (wrongE n L : Nat)]) ∧ Below w.heap.size w w' := by
  have H1 := fun w' hb' => wrong_any v n _ f w' (h.below (w' := w') hb')
  obtain ⟨A, p, R, C, rfl, _⟩ := h.lies
  generalize wrongE n L = x at H1 hx
  have hx' : ((x : Int) == 0) = false := by rw [beq_eq_false_iff_ne]; omega
  clear h hx
  go_enter Try.func73, Try.ntmps73
  go_wp2_with fail
  refine (H1 _ ((Below.refl _ _).alloc (Nat.le_refl _) _)).mono ?_
  rintro e w1 ⟨rfl, hb1⟩
  go_wp2_with fail
  go_ret2
  exact ⟨rfl, ((Below.refl w.heap.size w).alloc (Nat.le_refl _) _).trans (hb1.mono (by simp))⟩

set_option maxHeartbeats 1000000 in
theorem undo_bad2 (v : Value) (n c : Nat) (f : Nat → Nat → Nat) (w : World) (h : Mx w v n c f) (hx : c ≠ n) :
    Calls Try.prog 73 #[v] w fun e w' => e = .returned (.tuple #[.slice none 0 0, .int .i64 8]) ∧ Below w.heap.size w w' := by
  have ok := h.ok
  have H1 := fun w' hb' => wrong_any v n _ f w' (h.below (w' := w') hb').arg
  rw [ok] at H1
  obtain ⟨d1, d2, d3, d4⟩ := h.dim
  obtain ⟨b, o, p, G, O, K, rfl, hm⟩ := h.lies
  have hne : ((c : Int) == (n : Int)) = false := by rw [beq_eq_false_iff_ne]; omega
  have h0 : (0 : Int) < (n : Int) := by omega
  have h0m : 0 < n := by omega
  clear h hx ok
  go_enter Try.func73, Try.ntmps73
  go_wp2_with fail
  refine (H1 _ ((Below.refl _ _).alloc (Nat.le_refl _) _)).mono ?_
  rintro e w1 ⟨rfl, hb1⟩
  have hbw1 : Below w.heap.size w w1 := ((Below.refl w.heap.size w).alloc (Nat.le_refl _) _).trans (hb1.mono (by simp))
  have k1 : w1.cell? ⟨w.heap.size, 0, none⟩ = some (.slice (some ⟨b, o, none⟩) n p) := by
    rw [hb1.cell (p := ⟨w.heap.size, 0, none⟩) (by simp)]
    simp
  have hm1 := hm.below hbw1
  have t1 : w1.cell? ⟨b, o, none⟩ = some (.slice (some ⟨G 0, O 0, none⟩) c (K 0)) := by simpa using hm1.top 0 (by omega)
  have l1 := World.block_lt_of_cell? _ _ k1
  have l2 := World.block_lt_of_cell? _ _ t1
  clear hm hm1 H1 hb1
  go_wp2_with fail
  go_region
  go_wp2_with fail
  go_ret2
  exact ⟨rfl, (hbw1.alloc hbw1.size _).drew⟩

set_option maxHeartbeats 1000000 in
theorem undo_any (v : Value) (n : Nat) (f : Nat → Nat → Nat) (w : World) (h : Mx w v n n f) :
    Calls Try.prog 73 #[v] w fun e w' => ((∃ v' r, e = .returned (.tuple #[v', .int .i64 0]) ∧ Mx w' v' n n r ∧ Gf.Und n f r) ∨ (e = .returned (.tuple #[.slice none 0 0, .int .i64 6]) ∧ Gf.Sing n f)) ∧ Below w.heap.size w w' := by
  have ok := h.ok
  have H1 := fun w' hb' => wrong_any v n _ f w' (h.below (w' := w') hb').arg
  rw [ok] at H1
  have hbd := h.bd
  obtain ⟨d1, d2, d3, d4⟩ := h.dim
  obtain ⟨b, o, p, G, O, K, rfl, hm⟩ := h.lies
  have h0 : (0 : Int) < (n : Int) := by omega
  have h0m : 0 < n := by omega
  clear h ok
  go_enter Try.func73, Try.ntmps73
  go_wp2_with fail
  refine (H1 _ ((Below.refl _ _).alloc (Nat.le_refl _) _)).mono ?_
  rintro e w1 ⟨rfl, hb1⟩
  have hbw1 : Below w.heap.size w w1 := ((Below.refl w.heap.size w).alloc (Nat.le_refl _) _).trans (hb1.mono (by simp))
  have k1 : w1.cell? ⟨w.heap.size, 0, none⟩ = some (.slice (some ⟨b, o, none⟩) n p) := by
    rw [hb1.cell (p := ⟨w.heap.size, 0, none⟩) (by simp)]
    simp
  have hm1 := hm.below hbw1
  have t1 : w1.cell? ⟨b, o, none⟩ = some (.slice (some ⟨G 0, O 0, none⟩) n (K 0)) := by simpa using hm1.top 0 (by omega)
  have l1 := World.block_lt_of_cell? _ _ k1
  have l2 := World.block_lt_of_cell? _ _ t1
  clear hm H1 hb1
  go_wp2_with fail
  go_region
  obtain ⟨w2, hw2⟩ : ∃ w2, w2 = (w1.alloc (.cells #[.int .i64 (n : Int)] 3)).drew := ⟨_, rfl⟩
  have hb2 : Below w1.heap.size w1 w2 := by rw [hw2]; exact ((Below.refl _ _).alloc (Nat.le_refl _) _).drew
  have z2 : w2.heap.size = w1.heap.size + 1 := by rw [hw2]; simp
  have c1 : w2.cell? ⟨w1.heap.size, 0, none⟩ = some (.int .i64 (n : Int)) := by rw [hw2]; simp
  have c0 := (hb2.cell (p := ⟨w.heap.size, 0, none⟩) l1).trans k1
  have hm2 := hm1.below hb2
  have hbw2 := hbw1.trans (hb2.mono hbw1.size)
  have hfl := filled_any 95 n (n + n) #[.pointer (some ⟨w1.heap.size, 0, none⟩), .pointer (some ⟨w.heap.size, 0, none⟩)] (Gf.wide0 n f) w2 Try.enters_inv1
    (fun i hi j hj W hW => inv1_any i j n w1.heap.size w.heap.size b o p G O K f W ((hW.cell (p := ⟨w1.heap.size, 0, none⟩) (World.block_lt_of_cell? _ _ c1)).trans c1) ((hW.cell (p := ⟨w.heap.size, 0, none⟩) (World.block_lt_of_cell? _ _ c0)).trans c0) (hm2.below hW) hi hj (by omega)) (by omega) (by omega)
  rw [show ((n + n : Nat) : Int) = 2 * (n : Int) by omega] at hfl
  have hl1 : w1.heap.size < w2.heap.size := by omega
  rw [← hw2]
  clear hw2 hm1 hm2 k1 t1 l1 l2 hb2 hbw1 c0 z2
  go_wp2_with fail
  refine hfl.mono ?_
  rintro e w3 ⟨rfl, ⟨G3, ho3⟩, hb3⟩
  have c1 := (hb3.cell (p := ⟨w1.heap.size, 0, none⟩) hl1).trans c1
  have hbw3 := hbw2.trans (hb3.mono hbw2.size)
  have lb1 := World.block_lt_of_cell? _ _ c1
  clear hfl hb3
  have c1s : (w3.alloc (.cells #[.slice (some ⟨w2.heap.size, 0, none⟩) n n] 91)).cell? ⟨w1.heap.size, 0, none⟩ = some (.int .i64 (n : Int)) := (((Below.refl w3.heap.size w3).alloc (Nat.le_refl _) _).cell (p := ⟨w1.heap.size, 0, none⟩) lb1).trans c1
  have c2s : (w3.alloc (.cells #[.slice (some ⟨w2.heap.size, 0, none⟩) n n] 91)).cell? ⟨w3.heap.size, 0, none⟩ = some (.slice (some ⟨w2.heap.size, 0, none⟩) n n) := by simp
  have hos : Own (w3.alloc (.cells #[.slice (some ⟨w2.heap.size, 0, none⟩) n n] 91)) w2.heap.size w2.heap.size n (n + n) G3 (Gf.wide0 n f) := ho3.below ((Below.refl _ _).alloc (Nat.le_refl _) _)
  have hG3 : ∀ r, r < n → G3 r < w3.heap.size := fun r hr => (ho3.row r hr).lt
  have hb23 : w2.heap.size < w3.heap.size := ho3.top.lt
  have hbs : Below w.heap.size w (w3.alloc (.cells #[.slice (some ⟨w2.heap.size, 0, none⟩) n n] 91)) := hbw3.alloc hbw3.size _
  have z12 := hbw2.size
  clear ho3 hbw3 hbw2
  go_wp2_with fail
  clear c1 lb1
  go_loopw [28] (fun i wr => ∃ k : Nat, k ≤ n ∧ i = .int .i64 k ∧ (∃ G W, Own wr w2.heap.size w2.heap.size n (n + n) G W ∧ (∀ r, r < n → G r < w3.heap.size) ∧ Gf.Elim n f (fun j => j < k) W) ∧ wr.cell? ⟨w1.heap.size, 0, none⟩ = some (.int .i64 (n : Int)) ∧ wr.cell? ⟨w3.heap.size, 0, none⟩ = some (.slice (some ⟨w2.heap.size, 0, none⟩) n n) ∧ Below w.heap.size w wr) (fun i _ => n - (intOf i).toNat)
  case atStart => exact ⟨0, Nat.zero_le _, rfl, ⟨G3, _, hos, hG3, Gf.Elim.start hbd (fun j => Nat.not_lt_zero j)⟩, c1s, c2s, hbs⟩
  case round =>
    clear c1s c2s hos hG3 hbs
    obtain ⟨k, hk, rfl, ⟨G', W, HO, hG, HE⟩, c1, c2, hbr⟩ := hrel
    have l2 := World.block_lt_of_cell? _ _ c2
    by_cases hlt : k < n
    · have hlt' : (k : Int) < (n : Int) := by omega
      by_cases hz : ∀ r, k ≤ r → r < n → W r k = 0
      · have HS : Hid (Gf.Sing n f) := HE.fails hlt (Nat.lt_irrefl k) (fun i hi hd => hz i (by omega) hi)
        have hcl := clear_no w2.heap.size w2.heap.size n (n + n) k G' W wr HO hlt (by omega) (by omega) hz
        clear hz HE HO
        go_wp2_with fail
        refine hcl.mono ?_
        rintro e w4 ⟨rfl, hb4⟩
        go_wp2_with fail
        go_ret2
        exact ⟨Or.inr ⟨rfl, HS.out⟩, hbr.trans (hb4.mono hbr.size)⟩
      · have hcl := clear_yes w2.heap.size w2.heap.size n (n + n) k G' W wr HO HE.bd hlt (by omega) (by omega) (by omega) hz
        have HEE : Hid (Gf.Elim n f (fun j => j < k) W) := HE
        clear hz HE
        go_wp2_with fail
        refine hcl.mono ?_
        rintro e w4 ⟨rfl, ⟨p', G4, hp1, hp2, hp3, HO4, hG4⟩, ho4⟩
        have c1' : w4.cell? ⟨w1.heap.size, 0, none⟩ = some (.int .i64 (n : Int)) := by
          refine (World.cell?_of_block (w := wr) (ho4.block w1.heap.size (World.block_lt_of_cell? _ _ c1) (fun e => ?_))).trans c1
          rcases e with e | ⟨r, hr, e⟩
          · omega
          · have := HO.low r hr
            omega
        have c2' : w4.cell? ⟨w3.heap.size, 0, none⟩ = some (.slice (some ⟨w2.heap.size, 0, none⟩) n n) := by
          refine (World.cell?_of_block (w := wr) (ho4.block w3.heap.size l2 (fun e => ?_))).trans c2
          rcases e with e | ⟨r, hr, e⟩
          · omega
          · have := hG r hr
            omega
        have hb4 : Below w.heap.size w w4 := hbr.trans (ho4.below hbr.size (fun x e => by
          rcases e with e | ⟨r, hr, e⟩
          · omega
          · have := HO.low r hr
            omega))
        have hG' : ∀ r, r < n → G4 r < w3.heap.size := fun r hr => by
          rcases hG4 r hr with e | ⟨s, hs, e⟩
          · omega
          · have := hG s hs
            omega
        have HE4 : Hid (Gf.Elim n f (fun j => j < k + 1) (Gf.clr k p' W)) := HEE.out.step hlt hp2 (Nat.lt_irrefl k) (show ¬ p' < k by omega) hp3 (fun j hj => by omega)
        clear hcl hp1 hp2 hp3 hG4 ho4 HO hG c1 c2 HEE
        go_wp2_with fail
        exact ⟨⟨k + 1, by omega, by go_num, ⟨G4, _, HO4, hG', HE4.out⟩, c1', c2', hb4⟩, by simp [intOf]; omega⟩
    · have e8 : k = n := by omega
      subst e8
      have HU : Hid (Gf.Und k f (fun i j => W i (k + j))) := HE.done hbd (fun j hj => hj)
      have hfl := filled_any 98 k k #[.pointer (some ⟨w3.heap.size, 0, none⟩), .pointer (some ⟨w1.heap.size, 0, none⟩)] (fun i j => W i (k + j)) wr Try.enters_inv2
        (fun i hi j hj X hX => inv2_any i j k (k + k) w3.heap.size w1.heap.size w2.heap.size G' w2.heap.size W X ((hX.cell (p := ⟨w3.heap.size, 0, none⟩) l2).trans c2) ((hX.cell (p := ⟨w1.heap.size, 0, none⟩) (World.block_lt_of_cell? _ _ c1)).trans c1) (HO.below hX) hi (by omega) (by omega)) (by omega) (by omega)
      have hbdW := HE.bd
      clear HE HO
      go_wp2_with fail
      refine hfl.mono ?_
      rintro e w5 ⟨rfl, ⟨G5, ho5⟩, hb5⟩
      go_wp2_with fail
      go_ret2
      exact ⟨Or.inl ⟨_, _, rfl, ho5.mx (fun i j => hbdW i (k + j)) ⟨d1, d2, d3, d4⟩, HU.out⟩, hbr.trans (hb5.mono hbr.size)⟩

end Go.Proofs.Ytmlboaejkmffjad
