/-
  The statements' own first question about chapter 6, and what is wrong of blocks of which some are struck.
-/
import Derived.Test.YtmlboaejkmffjadTRead
import Derived.Deep.RegionHeld3
namespace Go.Proofs.Ytmlboaejkmffjad
open Go.RowKit

theorem not_right_zero {seg : Int} {L : Nat → Nat} {g : Nat → Nat → Nat} {i : Nat} (h : L i = 0) : ¬ Seg.right seg L g i := fun q => by
  have := q.1
  rw [h, Crc.parse_form (Or.inl (by decide))] at this
  cases this
theorem badL_cnt {seg : Int} {L : Nat → Nat} {g : Nat → Nat → Nat} {M : Nat → Bool} : (N : Nat) → (∀ i, i < N → (Seg.right seg L g i ↔ M i = false)) → (Seg.badL seg L g N).length = cnt M N
  | 0, _ => rfl
  | N + 1, h => by
    have ih := badL_cnt N (fun i hi => h i (by omega))
    show _ = cnt M N + if M N then 1 else 0
    cases hM : M N with
    | true =>
      rw [Seg.badL_yes (fun q => by rw [(h N (by omega)).1 q] at hM; cases hM), List.length_append, ih]
      rfl
    | false =>
      rw [Seg.badL_no ((h N (by omega)).2 hM), ih]
      rfl
theorem badL_mem {seg : Int} {L : Nat → Nat} {g : Nat → Nat → Nat} {N x : Nat} : x ∈ Seg.badL seg L g N ↔ x < N ∧ ¬ Seg.right seg L g x := by
  unfold Seg.badL
  rw [List.mem_filter, List.mem_range]
  exact ⟨fun h => ⟨h.1, of_decide_eq_true h.2⟩, fun h => ⟨h.1, decide_eq_true h.2⟩⟩

/-- The three bytes that are asked for. -/
def r789 (k : Nat) : Nat := if k = 0 then 7 else if k = 1 then 8 else 9
theorem r789_bd : Bd r789 := fun k => by
  unfold r789
  split
  · decide
  · split <;> decide
theorem lit789 (w : World) : Byts (w.alloc (.cells #[.int .u8 7, .int .u8 8, .int .u8 9] 5)) (.slice (some ⟨w.heap.size, 0, none⟩) 3 3) 3 r789 := by
  refine ⟨r789_bd, _, _, rfl, Nat.le_refl _, by decide, fun k hk => ⟨w.heap.size, 0, rfl, ?_⟩⟩
  match k, hk with
  | 0, _ => go_simp; rfl
  | 1, _ => go_simp; rfl
  | 2, _ => go_simp; rfl
/-- Of three blocks the middle one is gone. -/
def one3 (i : Nat) : Bool := decide (i = 1)
def L13 (i : Nat) : Nat := if i = 1 then 0 else 13
def g13 (i : Nat) : Nat → Nat := if i = 1 then fun _ => 0 else Seg.blk r789 3 2 2 i
theorem hurt13 : Hurt r789 3 2 2 1 one3 L13 g13 := by
  refine ⟨fun i hi hM => ?_, fun i hi hM => ?_⟩
  · have h : ¬ i = 1 := of_decide_eq_false hM
    exact ⟨if_neg h, if_neg h⟩
  · have h : i = 1 := of_decide_eq_true hM
    exact not_right_zero (if_pos h)
theorem lls13 {w : World} {R0 R2 : Option Addr} {K0 K2 : Nat} (h0 : Byts w (.slice R0 13 K0) 13 (Seg.blk r789 3 2 2 0)) (h2 : Byts w (.slice R2 13 K2) 13 (Seg.blk r789 3 2 2 2)) :
    Lls (w.alloc (.cells #[.slice R0 13 K0, .slice none 0 0, .slice R2 13 K2] 25)) (.slice (some ⟨w.heap.size, 0, none⟩) 3 3) 3 L13 g13 := by
  have hb : Below w.heap.size w (w.alloc (.cells #[.slice R0 13 K0, .slice none 0 0, .slice R2 13 K2] 25)) := (Below.refl _ _).alloc (Nat.le_refl _) _
  have bd : Gf.Bd2 g13 := fun i k => by
    unfold g13
    by_cases e : i = 1
    · rw [if_pos e]; exact Nat.zero_lt_succ 255
    · rw [if_neg e]; exact Seg.blk_bd (by decide) (by decide) (by decide) (by decide) i k
  refine ⟨bd, _, 3, rfl, Nat.le_refl _, by decide, fun r hr => ?_⟩
  match r, hr with
  | 0, _ => exact ⟨w.heap.size, 0, .slice R0 13 K0, rfl, by go_simp, h0.below hb⟩
  | 1, _ => exact ⟨w.heap.size, 0, .slice none 0 0, rfl, by go_simp, Byts.none _ (fun _ => Nat.zero_lt_succ 255)⟩
  | 2, _ => exact ⟨w.heap.size, 0, .slice R2 13 K2, rfl, by go_simp, h2.below hb⟩
theorem keepL {w0 wX w3 : World} {b o : Nat} {x y : Value} (b3 : Below wX.heap.size wX w3) (h : wX.cell? ⟨b, o, none⟩ = some x ∧ wX.cell? ⟨b, o + 2, none⟩ = some y ∧ Below w0.heap.size w0 wX) :
    w3.cell? ⟨b, o, none⟩ = some x ∧ w3.cell? ⟨b, o + 2, none⟩ = some y ∧ Below w0.heap.size w0 w3 :=
  ⟨(b3.cell (p := ⟨b, o, none⟩) (World.block_lt_of_cell? _ _ h.1)).trans h.1, (b3.cell (p := ⟨b, o + 2, none⟩) (World.block_lt_of_cell? _ _ h.2.1)).trans h.2.1, bt h.2.2 b3⟩
theorem keepLa {w0 wX : World} {b o : Nat} {x y : Value} {ob : Obj} (h : wX.cell? ⟨b, o, none⟩ = some x ∧ wX.cell? ⟨b, o + 2, none⟩ = some y ∧ Below w0.heap.size w0 wX) :
    (wX.alloc ob).cell? ⟨b, o, none⟩ = some x ∧ (wX.alloc ob).cell? ⟨b, o + 2, none⟩ = some y ∧ Below w0.heap.size w0 (wX.alloc ob) := keepL ((Below.refl _ _).alloc (Nat.le_refl _) _) h
theorem keepLd {w0 wX : World} {b o : Nat} {x y : Value} {ob : Obj} (h : wX.drew.cell? ⟨b, o, none⟩ = some x ∧ wX.drew.cell? ⟨b, o + 2, none⟩ = some y ∧ Below w0.heap.size w0 wX.drew) :
    (wX.alloc ob).drew.cell? ⟨b, o, none⟩ = some x ∧ (wX.alloc ob).drew.cell? ⟨b, o + 2, none⟩ = some y ∧ Below w0.heap.size w0 (wX.alloc ob).drew := keepLa (wX := wX.drew) h

set_option maxHeartbeats 1000000 in
set_option maxRecDepth 100000 in
theorem alive6_any (w : World) : Calls Try.prog 30 #[] w fun e w' => e = .returned (.bool true) ∧ Below w.heap.size w w' := by
  have b0 : Below w.heap.size w (w.alloc (.cells #[.int .u8 7, .int .u8 8, .int .u8 9] 5)) := (Below.refl _ _).alloc (Nat.le_refl _) _
  have hL := lay_ok _ 3 r789 2 2 1 _ (lit789 w) (by decide) (by decide) (by decide) (by decide) (by decide)
  go_enter Try.func30, Try.ntmps30
  go_wp2_with fail
  refine hL.mono ?_
  rintro e w1 ⟨v1, U1, rfl, P1, b1⟩
  have b1 := bt b0 b1
  have LL : Lls w1 v1 3 (fun _ => 13) (Seg.blk r789 3 2 2) := P1.lls (Seg.blk_bd (by decide) (by decide) (by decide) (by decide))
  obtain ⟨A, C, rfl⟩ := LL.shape
  obtain ⟨b, o, R0, K0, rfl, t0, y0⟩ := LL.at (r := 0) (by decide)
  obtain ⟨b', o', R2, K2, e2, t2, y2⟩ := LL.at (r := 2) (by decide)
  cases e2
  rw [Nat.add_zero] at t0
  have HRD : ∀ W, W.cell? ⟨b, o, none⟩ = some (.slice R0 13 K0) ∧ W.cell? ⟨b, o + 2, none⟩ = some (.slice R2 13 K2) ∧ Below w1.heap.size w1 W → Calls Try.prog 26 #[.slice (some ⟨W.heap.size, 0, none⟩) 3 3, .int .i64 2, .int .i64 2] (W.alloc (.cells #[.slice R0 13 K0, .slice none 0 0, .slice R2 13 K2] 25)) fun e w' => ∃ v', e = .returned (.tuple #[v', .int .i64 0]) ∧ Byts w' v' 3 r789 ∧ Below W.heap.size W w' := fun W hW => by
    refine (read_any _ 3 L13 g13 2 2 _ (lls13 (y0.below hW.2.2) (y2.below hW.2.2))).mono ?_
    rintro e w' ⟨v', rfl, hO, hb⟩
    obtain ⟨q1, q2, q3⟩ := read_kept hurt13 (by decide) (by decide) (by decide) (by decide) (by decide) (by decide) r789_bd
    have q1 : readE 2 2 3 L13 g13 = 0 := q1
    rw [q1] at hO ⊢
    refine ⟨v', rfl, ?_, ((Below.refl W.heap.size W).alloc (Nat.le_refl _) _).trans (hb.mono (by simp))⟩
    rcases hO with ⟨_, r, r1, r2, hy⟩ | ⟨q, _⟩
    · have q2 : Seg.rz g13 (thr (Seg.rl 2 L13 g13) 3 0) = 3 := q2
      rw [q2] at hy
      obtain ⟨bd, A', C', hv, h1, h2, hc⟩ := hy
      refine ⟨r789_bd, A', C', hv, h1, h2, fun k hk => ?_⟩
      obtain ⟨b', o', e1, e2⟩ := hc k hk
      refine ⟨b', o', e1, ?_⟩
      rw [e2, ← q3 r r1 r2 k hk]
      rfl
    · exact absurd rfl q
  have HBD : ∀ W, W.cell? ⟨b, o, none⟩ = some (.slice R0 13 K0) ∧ W.cell? ⟨b, o + 2, none⟩ = some (.slice R2 13 K2) ∧ Below w1.heap.size w1 W → Calls Try.prog 24 #[.slice (some ⟨W.heap.size, 0, none⟩) 3 3, .int .i64 2] (W.alloc (.cells #[.slice R0 13 K0, .slice none 0 0, .slice R2 13 K2] 25)) fun e w' => (∃ A C, e = .returned (.slice A 1 C)) ∧ Below W.heap.size W w' := fun W hW => by
    refine (bad_any _ 3 L13 g13 2 _ (lls13 (y0.below hW.2.2) (y2.below hW.2.2)) (by decide)).mono ?_
    rintro e w' ⟨v', rfl, hN, hb⟩
    obtain ⟨A', C', rfl, _⟩ := nums_cells hN
    have hl : (Seg.badL 2 L13 g13 3).length = 1 := badL_cnt (M := one3) 3 (fun i hi => hurt13.right (by decide) (by decide) (by decide) (by decide) (by decide) hi)
    rw [hl]
    exact ⟨⟨_, _, rfl⟩, ((Below.refl W.heap.size W).alloc (Nat.le_refl _) _).trans (hb.mono (by simp))⟩
  have TD : w1.drew.cell? ⟨b, o, none⟩ = some (.slice R0 13 K0) ∧ w1.drew.cell? ⟨b, o + 2, none⟩ = some (.slice R2 13 K2) ∧ Below w1.heap.size w1 w1.drew := ⟨t0, t2, (Below.refl _ _).drew⟩
  have HR4 : Calls Try.prog 26 #[.slice (some ⟨w1.heap.size, 0, none⟩) 3 3, .int .i64 2, .int .i64 2] (w1.alloc (.cells #[.slice R0 13 K0, .slice none 0 0, .slice R2 13 K2] 25)).drew fun e w' => ∃ v', e = .returned (.tuple #[v', .int .i64 0]) ∧ Byts w' v' 3 r789 ∧ Below w1.heap.size w1.drew w' := HRD w1.drew TD
  have HB : Hid (∀ W, W.cell? ⟨b, o, none⟩ = some (.slice R0 13 K0) ∧ W.cell? ⟨b, o + 2, none⟩ = some (.slice R2 13 K2) ∧ Below w1.heap.size w1 W → Calls Try.prog 24 #[.slice (some ⟨W.heap.size, 0, none⟩) 3 3, .int .i64 2] (W.alloc (.cells #[.slice R0 13 K0, .slice none 0 0, .slice R2 13 K2] 25)) fun e w' => (∃ A C, e = .returned (.slice A 1 C)) ∧ Below W.heap.size W w') := HBD
  clear hL b0 P1 LL y0 y2 HRD HBD
  go_wp2_with fail
  go_region_held3 (fun w' => w'.cell? ⟨b, o, none⟩ = some (.slice R0 13 K0) ∧ w'.cell? ⟨b, o + 2, none⟩ = some (.slice R2 13 K2) ∧ Below w1.heap.size w1 w')
    (first | with_reducible exact TD | with_reducible assumption | with_reducible exact keepLa (by assumption) | with_reducible exact keepLd (by assumption) | with_reducible exact keepL (by assumption) (by assumption))
    (first | (go_at_call 26; refine HR4.mono ?_; rintro e2 w2 ⟨v2, rfl, Y2, b2⟩; have S2 := keepL (wX := w1.drew) b2 TD))
  have bz := bt b1 S2.2.2
  have hA : Below w2.heap.size w2.drew (w2.alloc (.cells #[.int .u8 7, .int .u8 8, .int .u8 9] 5)).drew := (Below.refl w2.heap.size w2.drew).alloc (Nat.le_refl _) _
  have TE : w2.drew.cell? ⟨b, o, none⟩ = some (.slice R0 13 K0) ∧ w2.drew.cell? ⟨b, o + 2, none⟩ = some (.slice R2 13 K2) ∧ Below w1.heap.size w1 w2.drew := ⟨S2.1, S2.2.1, S2.2.2.drew⟩
  have TF : (w2.alloc (.cells #[.int .u8 7, .int .u8 8, .int .u8 9] 5)).drew.cell? ⟨b, o, none⟩ = some (.slice R0 13 K0) ∧ (w2.alloc (.cells #[.int .u8 7, .int .u8 8, .int .u8 9] 5)).drew.cell? ⟨b, o + 2, none⟩ = some (.slice R2 13 K2) ∧ Below w1.heap.size w1 (w2.alloc (.cells #[.int .u8 7, .int .u8 8, .int .u8 9] 5)).drew := keepL (wX := w2.drew) hA TE
  have HB5 : Calls Try.prog 24 #[.slice (some ⟨w2.heap.size + 1, 0, none⟩) 3 3, .int .i64 2] ((w2.alloc (.cells #[.int .u8 7, .int .u8 8, .int .u8 9] 5)).alloc (.cells #[.slice R0 13 K0, .slice none 0 0, .slice R2 13 K2] 25)).drew fun e w' => (∃ A C, e = .returned (.slice A 1 C)) ∧ Below w2.heap.size w2 w' := by
    have hs : ((w2.alloc (.cells #[.int .u8 7, .int .u8 8, .int .u8 9] 5)).drew).heap.size = w2.heap.size + 1 := by
      show (w2.alloc (.cells #[.int .u8 7, .int .u8 8, .int .u8 9] 5)).heap.size = _
      simp
    have q := HB.out _ TF
    rw [hs] at q
    exact q.mono fun e w' ⟨h1, h2⟩ => ⟨h1, ((Below.refl w2.heap.size w2).alloc (Nat.le_refl _) (.cells #[.int .u8 7, .int .u8 8, .int .u8 9] 5)).drew.trans (h2.mono (by omega))⟩
  have c1 := conv_any (Y2.below (Below.refl w2.heap.size w2).drew)
  have c2 := conv_any ((Y2.below (Below.refl w2.heap.size w2).drew).below hA)
  have c3 := conv_any ((lit789 w2).below (Below.refl _ _).drew)
  generalize strB r789 3 = S at c1 c2 c3
  obtain ⟨A2, C2, rfl⟩ := Y2.shape
  have s0 := S2.1
  have s2 := S2.2.1
  clear HR4 TD t0 t2 Y2 HB hA
  go_wp2_with fail
  go_region_held (fun w' => w'.cell? ⟨b, o, none⟩ = some (.slice R0 13 K0) ∧ w'.cell? ⟨b, o + 2, none⟩ = some (.slice R2 13 K2) ∧ Below w1.heap.size w1 w')
    (first | with_reducible exact TE | with_reducible exact TF | with_reducible assumption | with_reducible exact keepLa (by assumption) | with_reducible exact keepLd (by assumption) | with_reducible exact keepL (by assumption) (by assumption))
    (first | (go_at_call 24; refine HB5.mono ?_; rintro e3 w3 ⟨⟨A3, C3, rfl⟩, b3⟩; have S3 := keepL b3 S2))
  all_goals go_wp2_with fail
  all_goals go_ret
  all_goals exact ⟨rfl, bt bz b3⟩

end Go.Proofs.Ytmlboaejkmffjad
