/-
  Texts of the proof, joined: Pce, TBad.
-/
import Derived.Test.YtldjieplbeflfaaGreatX12
namespace Go.Proofs.YtldjieplbeflfaaGreat
open Go.RowKit

theorem byts_of_block {w w' : World} {g o n cap : Nat} {f : Nat → Nat} (h : Byts w (.slice (some ⟨g, o, none⟩) n cap) n f) (e : w'.heap[g]? = w.heap[g]?) : Byts w' (.slice (some ⟨g, o, none⟩) n cap) n f := by
  obtain ⟨bd, A, C, hv, h1, h2, hc⟩ := h
  refine ⟨bd, A, C, hv, h1, h2, fun k hk => ?_⟩
  obtain ⟨b', o', e1, e2⟩ := hc k hk
  cases hv
  cases e1
  exact ⟨g, o, rfl, (World.cell?_of_block (a := ⟨g, o + k, none⟩) e).trans e2⟩
theorem byts_zero {w w' : World} {v : Value} {f : Nat → Nat} (h : Byts w v 0 f) : Byts w' v 0 f := by
  obtain ⟨bd, A, C, hv, h1, h2, _⟩ := h
  exact ⟨bd, A, C, hv, h1, h2, fun k hk => absurd hk (Nat.not_lt_zero k)⟩

/-- Bytes that lie in a row of bytes of the call's own; or none. -/
structure Pce (w : World) (N : Nat) (v : Value) (n : Nat) (f : Nat → Nat) : Prop where
  byts : Byts w v n f
  own : n = 0 ∨ ∃ g o cap m F, v = .slice (some ⟨g, o, none⟩) n cap ∧ N ≤ g ∧ RowC w g 5 m F
theorem Pce.of_block {w w' : World} {N n : Nat} {v : Value} {f : Nat → Nat} (h : Pce w N v n f) (hb : ∀ g m F, N ≤ g → RowC w g 5 m F → w'.heap[g]? = w.heap[g]?) : Pce w' N v n f := by
  rcases h.own with rfl | ⟨g, o, cap, m, F, rfl, hg, hr⟩
  · exact ⟨byts_zero h.byts, Or.inl rfl⟩
  · exact ⟨byts_of_block h.byts (hb g m F hg hr), Or.inr ⟨g, o, cap, m, F, rfl, hg, hr.of_block (hb g m F hg hr)⟩⟩
theorem Pce.below {w w' : World} {N n : Nat} {v : Value} {f : Nat → Nat} (h : Pce w N v n f) (hb : Below w.heap.size w w') : Pce w' N v n f := h.of_block (fun g _ _ _ hr => hb.block g hr.lt)
theorem Pce.kept {w w' : World} {N n M k : Nat} {v y : Value} {t : TypeId} {xs : List Value} {f : Nat → Nat} (h : Pce w N v n f) (ht : 5 ≠ t) (ho : w.ownsRow M t 1 y k xs) (hg : w.grownBy w' y.ownBlock) : Pce w' N v n f :=
  h.of_block (fun g m F _ hr => hg.block g hr.lt (fun e => by
    obtain ⟨F2, h2⟩ := owns_block ho e.symm
    exact hr.ne h2 ht rfl))
theorem Pce.lower {w : World} {N M n : Nat} {v : Value} {f : Nat → Nat} (h : Pce w N v n f) (hM : M ≤ N) : Pce w M v n f :=
  ⟨h.byts, h.own.imp id (fun ⟨g, o, cap, m, F, e, hg, hr⟩ => ⟨g, o, cap, m, F, e, Nat.le_trans hM hg, hr⟩)⟩
theorem Pce.nil (w : World) (N : Nat) {f : Nat → Nat} (hf : Bd f) : Pce w N (.slice none 0 0) 0 f := ⟨Byts.none w hf, Or.inl rfl⟩
theorem Made.pce {w : World} {N n : Nat} {v : Value} {f : Nat → Nat} (h : Made w N v n f) (hf : Bd f) : Pce w N v n f := by
  refine ⟨h.byts hf, ?_⟩
  obtain ⟨g, cap, rfl, hg, _, _, hr⟩ := h
  exact Or.inr ⟨g, 0, cap, _, _, rfl, hg, hr⟩

/-- A list of such that is appended to. -/
structure Pcs (w : World) (N : Nat) (v : Value) (k : Nat) (U : Nat → Value) (L : Nat → Nat) (f : Nat → Nat → Nat) : Prop where
  own : w.ownsRow N 76 1 v k ((List.range k).map U)
  row : ∀ i, i < k → Pce w N (U i) (L i) (f i)
theorem Pcs.below {w w' : World} {N k : Nat} {v : Value} {U : Nat → Value} {L : Nat → Nat} {f : Nat → Nat → Nat} (h : Pcs w N v k U L f) (hb : Below w.heap.size w w') : Pcs w' N v k U L f :=
  ⟨owns_below h.own hb, fun i hi => (h.row i hi).below hb⟩
theorem Pcs.start (w : World) (N : Nat) (U : Nat → Value) (L : Nat → Nat) (f : Nat → Nat → Nat) : Pcs w N (.slice none 0 0) 0 U L f :=
  ⟨World.ownsRow_nil w N _ 1, fun i hi => absurd hi (Nat.not_lt_zero i)⟩
theorem Pcs.step {w w' : World} {N k : Nat} {v v' u : Value} {U : Nat → Value} {L : Nat → Nat} {f : Nat → Nat → Nat} (h : Pcs w N v k U L f) (hr : Pce w N u (L k) (f k))
    (ho : w'.ownsRow N 76 1 v' (k + 1) ((List.range k).map U ++ [u])) (hg : w.grownBy w' v.ownBlock) : Pcs w' N v' (k + 1) (updV U k u) L f := by
  refine ⟨by rw [range_upd]; exact ho, fun i hi => ?_⟩
  by_cases e : i = k
  · rw [e, updV_at]
    exact hr.kept (by decide) h.own hg
  · rw [updV_ne _ _ e]
    exact (h.row i (by omega)).kept (by decide) h.own hg
theorem Pcs.lls {w : World} {N k : Nat} {v : Value} {U : Nat → Value} {L : Nat → Nat} {f : Nat → Nat → Nat} (h : Pcs w N v k U L f) (bd : Gf.Bd2 f) : Lls w v k L f := by
  rcases h.own.2 with ⟨rfl, h0⟩ | ⟨g, cap, cur, rfl, _, _, h1, h2, _, _⟩
  · subst h0
    exact ⟨bd, none, 0, rfl, Nat.le_refl _, Nat.zero_le _, fun r hr => absurd hr (Nat.not_lt_zero r)⟩
  · refine ⟨bd, some ⟨g, 0, none⟩, cap, rfl, h1, h2, fun r hr => ⟨g, 0, U r, rfl, ?_, (h.row r hr).byts⟩⟩
    have := h.own.cells (g := g) rfl r (U r) (by simp [hr])
    rw [WideShapes.add_plain] at this
    exact this
/-- Another list of the call's own grows. -/
theorem Pcs.kept {w w' : World} {N k M m : Nat} {v y : Value} {t : TypeId} {xs : List Value} {U : Nat → Value} {L : Nat → Nat} {f : Nat → Nat → Nat} (h : Pcs w N v k U L f) (ht : 5 ≠ t) (ht2 : 76 ≠ t) (ho : w.ownsRow M t 1 y m xs) (hg : w.grownBy w' y.ownBlock) : Pcs w' N v k U L f := by
  refine ⟨h.own.kept hg ?_, fun i hi => (h.row i hi).kept ht ho hg⟩
  cases hv : v.ownBlock with
  | none => exact Or.inl rfl
  | some x =>
    refine Or.inr (fun e => ?_)
    obtain ⟨F1, h1⟩ := owns_block h.own hv
    obtain ⟨F2, h2⟩ := owns_block ho e.symm
    exact h1.ne h2 ht2 rfl
theorem Nums.kept {w w' : World} {N M m : Nat} {v y : Value} {t : TypeId} {xs : List Value} {l : List Nat} (h : Nums w N v l) (ht : 3 ≠ t) (ho : w.ownsRow M t 1 y m xs) (hg : w.grownBy w' y.ownBlock) : Nums w' N v l := by
  refine World.ownsRow.kept h hg ?_
  cases hv : v.ownBlock with
  | none => exact Or.inl rfl
  | some x =>
    refine Or.inr (fun e => ?_)
    obtain ⟨F1, h1⟩ := owns_block h hv
    obtain ⟨F2, h2⟩ := owns_block ho e.symm
    exact h1.ne h2 ht rfl

end Go.Proofs.YtldjieplbeflfaaGreat

namespace Go.Proofs.YtldjieplbeflfaaGreat
open Go.RowKit

/-- What parseRight tells. -/
def RightO (w : World) (N : Nat) (v : Value) (y : Bool) (P : Prop) (n : Nat) (g : Nat → Nat) : Prop :=
  (P ∧ y = true ∧ ∃ d, v = .agg #[.int .i64 (g 1 : Nat), .int .i64 (g 2 : Nat), .int .i64 (g 3 * 256 + g 4 : Nat), d] ∧ Made w N d (n - 11) (fun k => g (k + 7))) ∨
  (¬ P ∧ y = false ∧ v = .agg #[.int .i64 0, .int .i64 0, .int .i64 0, .slice none 0 0])

set_option maxHeartbeats 400000 in
set_option maxRecDepth 100000 in
theorem parseRight_any (v : Value) (n : Nat) (g : Nat → Nat) (s : Int) (i : Nat) (w : World) (h : Byts w v n g) :
    Calls Tryz.prog 85 #[v, .int .i64 s, .int .i64 (i : Int)] w fun e w' => ∃ v' y, e = .returned (.tuple #[v', .bool y]) ∧ RightO w' w.heap.size v' y (Crc.parseE g n = 0 ∧ ((g 1 : Nat) : Int) = s ∧ g 2 = i) n g ∧ Below w.heap.size w w' := by
  obtain ⟨A0, C0, rfl⟩ := h.shape
  have bA : Below w.heap.size w (w.alloc (.cells #[.int .i64 0, .int .i64 0, .int .i64 0, .slice none 0 0] 147)) := (Below.refl _ _).alloc (Nat.le_refl _) _
  have V0 := varB_new w (.int .i64 0) (.int .i64 0) (.int .i64 0) (.slice none 0 0)
  by_cases hE : Crc.parseE g n = 0
  · have H1 := parse_made _ n g _ (h.below bA) hE
    clear h
    have HE : Hid (Crc.parseE g n = 0) := hE
    generalize hz : g 3 * 256 + g 4 = z at H1
    have HZ : Hid (g 3 * 256 + g 4 = z) := hz
    clear hz
    by_cases h1 : ((g 1 : Nat) : Int) = s
    · by_cases h2 : g 2 = i
      · have t1 : (((g 1 : Nat) : Int) == s) = true := by rw [beq_iff_eq]; exact h1
        have t2 : (((g 2 : Nat) : Int) == (i : Int)) = true := by rw [beq_iff_eq]; omega
        have n1 : (((g 1 : Nat) : Int) != s) = false := by rw [bne, t1]; rfl
        have n2 : (((g 2 : Nat) : Int) != (i : Int)) = false := by rw [bne, t2]; rfl
        have HY : Hid (Crc.parseE g n = 0 ∧ ((g 1 : Nat) : Int) = s ∧ g 2 = i) := ⟨hE, h1, h2⟩
        clear hE h1 h2
        go_enter Tryz.func85, Tryz.ntmps85
        go_wp2_with fail
        refine H1.mono ?_
        rintro e w1 ⟨d, rfl, hd, b1⟩
        obtain ⟨g5, c5, rfl, hg5, hc5, hm5, R5⟩ := hd
        have V1 := V0.below b1
        have bz := bt bA b1
        have bX : Below w1.heap.size w1 (w1.alloc (.cells #[.int .i64 (g 1 : Nat), .int .i64 (g 2 : Nat), .int .i64 (z : Nat), .slice (some ⟨g5, 0, none⟩) (n - 11) c5] 147)) := (Below.refl _ _).alloc (Nat.le_refl _) _
        obtain ⟨c0, c1, c2, c3, fr⟩ := V1.below bX
        have f0 := fr 0
        have f1 := fr 1
        have f2 := fr 2
        have f3 := fr 3
        have R6 := R5.below bX
        have bz := bt bz bX
        have hgw : w.heap.size < g5 := Nat.lt_of_lt_of_le (by simp) hg5
        clear H1 V0 V1 R5 bX b1
        go_wp2_with fail
        refine bodyPost_ret (v := .tuple #[.agg #[.int .i64 (g 1 : Nat), .int .i64 (g 2 : Nat), .int .i64 (z : Nat), .slice (some ⟨g5, 0, none⟩) (n - 11) c5], .bool true]) (by simp [results, Tryz.results85, go_sem, c0, c1, c2, c3]) rfl ⟨_, _, rfl, Or.inl ⟨HY.out, rfl, _, by rw [HZ.out], ⟨g5, c5, rfl, by omega, hc5, hm5, row4 R6 (by omega)⟩⟩, ?_⟩
        exact (((bz.setCell (Nat.le_refl _) _).setCell (Nat.le_refl _) _).setCell (Nat.le_refl _) _).setCell (Nat.le_refl _) _
      · have t1 : (((g 1 : Nat) : Int) == s) = true := by rw [beq_iff_eq]; exact h1
        have t2 : (((g 2 : Nat) : Int) == (i : Int)) = false := by rw [beq_eq_false_iff_ne]; omega
        have n1 : (((g 1 : Nat) : Int) != s) = false := by rw [bne, t1]; rfl
        have n2 : (((g 2 : Nat) : Int) != (i : Int)) = true := by rw [bne, t2]; rfl
        have HN : Hid (¬ (Crc.parseE g n = 0 ∧ ((g 1 : Nat) : Int) = s ∧ g 2 = i)) := fun q => h2 q.2.2
        clear hE h1 h2
        go_enter Tryz.func85, Tryz.ntmps85
        go_wp2_with fail
        refine H1.mono ?_
        rintro e w1 ⟨d, rfl, hd, b1⟩
        obtain ⟨g5, c5, rfl, _, _, _, _⟩ := hd
        have V1 := V0.below b1
        have bz := bt bA b1
        have bX : Below w1.heap.size w1 (w1.alloc (.cells #[.int .i64 (g 1 : Nat), .int .i64 (g 2 : Nat), .int .i64 (z : Nat), .slice (some ⟨g5, 0, none⟩) (n - 11) c5] 147)) := (Below.refl _ _).alloc (Nat.le_refl _) _
        obtain ⟨c0, c1, c2, c3, fr⟩ := V1.below bX
        have f0 := fr 0
        have f1 := fr 1
        have f2 := fr 2
        have f3 := fr 3
        have bz := bt bz bX
        clear H1 V0 V1 bX b1
        go_wp2_with fail
        refine bodyPost_ret (v := .tuple #[.agg #[.int .i64 0, .int .i64 0, .int .i64 0, .slice none 0 0], .bool false]) (by simp [results, Tryz.results85, go_sem, c0, c1, c2, c3]) rfl ⟨_, _, rfl, Or.inr ⟨HN.out, rfl, rfl⟩, ?_⟩
        exact (((bz.setCell (Nat.le_refl _) _).setCell (Nat.le_refl _) _).setCell (Nat.le_refl _) _).setCell (Nat.le_refl _) _
    · have t1 : (((g 1 : Nat) : Int) == s) = false := by rw [beq_eq_false_iff_ne]; exact h1
      have n1 : (((g 1 : Nat) : Int) != s) = true := by rw [bne, t1]; rfl
      have HN : Hid (¬ (Crc.parseE g n = 0 ∧ ((g 1 : Nat) : Int) = s ∧ g 2 = i)) := fun q => h1 q.2.1
      clear hE h1
      go_enter Tryz.func85, Tryz.ntmps85
      go_wp2_with fail
      refine H1.mono ?_
      rintro e w1 ⟨d, rfl, hd, b1⟩
      obtain ⟨g5, c5, rfl, _, _, _, _⟩ := hd
      have V1 := V0.below b1
      have bz := bt bA b1
      have bX : Below w1.heap.size w1 (w1.alloc (.cells #[.int .i64 (g 1 : Nat), .int .i64 (g 2 : Nat), .int .i64 (z : Nat), .slice (some ⟨g5, 0, none⟩) (n - 11) c5] 147)) := (Below.refl _ _).alloc (Nat.le_refl _) _
      obtain ⟨c0, c1, c2, c3, fr⟩ := V1.below bX
      have f0 := fr 0
      have f1 := fr 1
      have f2 := fr 2
      have f3 := fr 3
      have bz := bt bz bX
      clear H1 V0 V1 bX b1
      go_wp2_with fail
      refine bodyPost_ret (v := .tuple #[.agg #[.int .i64 0, .int .i64 0, .int .i64 0, .slice none 0 0], .bool false]) (by simp [results, Tryz.results85, go_sem, c0, c1, c2, c3]) rfl ⟨_, _, rfl, Or.inr ⟨HN.out, rfl, rfl⟩, ?_⟩
      exact (((bz.setCell (Nat.le_refl _) _).setCell (Nat.le_refl _) _).setCell (Nat.le_refl _) _).setCell (Nat.le_refl _) _
  · have HN : Hid (¬ (Crc.parseE g n = 0 ∧ ((g 1 : Nat) : Int) = s ∧ g 2 = i)) := fun q => hE q.1
    have H1 := parse_any _ n g _ (h.below bA)
    rw [pk_no hE, pk_no hE, pk_no hE, pk_no hE] at H1
    have hx' : (((Crc.parseE g n : Nat) : Int) == 0) = false := by rw [beq_eq_false_iff_ne]; omega
    have hxn : (((Crc.parseE g n : Nat) : Int) != 0) = true := by rw [bne, hx']; rfl
    obtain ⟨P, hP⟩ : ∃ P : Prop, P = (Crc.parseE g n = 0 ∧ ((g 1 : Nat) : Int) = s ∧ g 2 = i) := ⟨_, rfl⟩
    rw [← hP] at HN ⊢
    clear hP h
    generalize Crc.parseE g n = E at H1 hx' hxn
    clear hE
    go_enter Tryz.func85, Tryz.ntmps85
    go_wp2_with fail
    refine H1.mono ?_
    rintro e w1 ⟨v1, rfl, ⟨d, rfl, hd⟩, b1⟩
    obtain ⟨A, C, rfl⟩ := hd.shape
    have V1 := V0.below b1
    have bz := bt bA b1
    have bX : Below w1.heap.size w1 (w1.alloc (.cells #[.int .i64 0, .int .i64 0, .int .i64 0, .slice A 0 C] 147)) := (Below.refl _ _).alloc (Nat.le_refl _) _
    obtain ⟨c0, c1, c2, c3, fr⟩ := V1.below bX
    have f0 := fr 0
    have f1 := fr 1
    have f2 := fr 2
    have f3 := fr 3
    have bz := bt bz bX
    clear hd
    clear H1 V0 V1 bX b1
    go_wp2_with fail
    refine bodyPost_ret (v := .tuple #[.agg #[.int .i64 0, .int .i64 0, .int .i64 0, .slice none 0 0], .bool false]) (by simp [results, Tryz.results85, go_sem, c0, c1, c2, c3]) rfl ⟨_, _, rfl, Or.inr ⟨HN.out, rfl, rfl⟩, ?_⟩
    exact (((bz.setCell (Nat.le_refl _) _).setCell (Nat.le_refl _) _).setCell (Nat.le_refl _) _).setCell (Nat.le_refl _) _

set_option maxHeartbeats 400000 in
set_option maxRecDepth 100000 in
theorem bad_any (v : Value) (N : Nat) (L : Nat → Nat) (g : Nat → Nat → Nat) (s : Int) (w : World) (h : Lls w v N L g) (hN : (N + 1) * 8 ≤ 140737488355328) :
    Calls Tryz.prog 59 #[v, .int .i64 s] w fun e w' => ∃ v', e = .returned v' ∧ Nums w' w.heap.size v' (Seg.badL s L g N) ∧ Below w.heap.size w w' := by
  obtain ⟨i1, hi1, hh1⟩ := Option.map_eq_some_iff.1 Tryz.infoInt
  simp only [Prod.mk.injEq] at hh1
  obtain ⟨hy0, hy1, hy2⟩ := hh1
  obtain ⟨A, C, rfl⟩ := h.shape
  have HL : Hid (∀ w', Below w.heap.size w w' → ∀ r, r < N → ∃ b o R K, A = some ⟨b, o, none⟩ ∧ w'.cell? ⟨b, o + r, none⟩ = some (.slice R (L r) K) ∧ Byts w' (.slice R (L r) K) (L r) (g r)) := fun w' hb r hr => (h.below hb).at hr
  clear h
  go_enter Tryz.func59, Tryz.ntmps59
  go_wp2_with fail
  go_loopw [5, 12] (fun y x wr => ∃ k : Nat, k ≤ N ∧ x = .int .i64 k ∧ Nums wr w.heap.size y (Seg.badL s L g k) ∧ Below w.heap.size w wr) (fun _ x _ => N - (intOf x).toNat)
  case atStart => exact ⟨0, Nat.zero_le _, rfl, Nums.nil _ _, Below.refl _ _⟩
  case round =>
    obtain ⟨k, hk, rfl, BN, hb⟩ := hrel
    by_cases hlt : k < N
    · have hlt' : (k : Int) < (N : Int) := by omega
      obtain ⟨b, o, R, K, rfl, d0, hy⟩ := HL.out wr hb k hlt
      have HR := parseRight_any _ _ (g k) s k wr hy
      have hln := badL_len s L g k
      obtain ⟨P, hP⟩ : ∃ P : Prop, P = (Crc.parseE (g k) (L k) = 0 ∧ ((g k 1 : Nat) : Int) = s ∧ g k 2 = k) := ⟨_, rfl⟩
      have HPy : Hid (P → Seg.badL s L g (k + 1) = Seg.badL s L g k) := fun q => Seg.badL_no (by rw [hP] at q; exact q)
      have HPn : Hid (¬ P → Seg.badL s L g (k + 1) = Seg.badL s L g k ++ [k]) := fun q => Seg.badL_yes (fun r => q (by rw [hP]; exact r))
      rw [← hP] at HR
      clear hy hP
      go_wp2_with fail
      refine HR.mono ?_
      rintro e w1 ⟨v1, y, rfl, hO, b1⟩
      have BN := BN.below b1
      have b1 := bt hb b1
      rcases hO with ⟨hp, rfl, d, rfl, g5, c5, rfl, _⟩ | ⟨hp, rfl, rfl⟩
      · have bX : Below w1.heap.size w1 (w1.alloc (.cells #[.int .i64 (g k 1 : Nat), .int .i64 (g k 2 : Nat), .int .i64 (g k 3 * 256 + g k 4 : Nat), .slice (some ⟨g5, 0, none⟩) (L k - 11) c5] 147)) := (Below.refl _ _).alloc (Nat.le_refl _) _
        have BN := BN.below bX
        have b1 := bt b1 bX
        rw [← HPy.out hp] at BN
        clear HR hp bX
        go_wp2_with fail
        exact ⟨⟨k + 1, by omega, by go_num, BN, b1⟩, by simp [intOf]; omega⟩
      · have HPP : Hid (¬ P) := hp
        have bV : Below w1.heap.size w1 (w1.alloc (.cells #[.int .i64 0, .int .i64 0, .int .i64 0, .slice none 0 0] 147)) := (Below.refl _ _).alloc (Nat.le_refl _) _
        have BN := BN.below bV
        have b1 := bt b1 bV
        have hsz : (w1.alloc (.cells #[.int .i64 0, .int .i64 0, .int .i64 0, .slice none 0 0] 147)).heap.size = w1.heap.size + 1 := by simp
        have bX := (Below.refl (w1.alloc (.cells #[.int .i64 0, .int .i64 0, .int .i64 0, .slice none 0 0] 147)).heap.size (w1.alloc (.cells #[.int .i64 0, .int .i64 0, .int .i64 0, .slice none 0 0] 147))).alloc (Nat.le_refl _) (.cells #[.int .i64 (k : Int)] 3)
        have BX : ((w1.alloc (.cells #[.int .i64 0, .int .i64 0, .int .i64 0, .slice none 0 0] 147)).alloc (.cells #[.int .i64 (k : Int)] 3)).ownsRow w.heap.size 3 1 u5 (Seg.badL s L g k).length ((Seg.badL s L g k).map fun x : Nat => Value.int .i64 (x : Int)) := BN.below bX
        have b2 := bt b1 bX
        have cn : ∀ j u, [Value.int .i64 (k : Int)][j]? = some u → ((w1.alloc (.cells #[.int .i64 0, .int .i64 0, .int .i64 0, .slice none 0 0] 147)).alloc (.cells #[.int .i64 (k : Int)] 3)).cell? ((⟨w1.heap.size + 1, 0, none⟩ : Addr).add j) = some u := by
          have q := cells_new (w1.alloc (.cells #[.int .i64 0, .int .i64 0, .int .i64 0, .slice none 0 0] 147)) #[.int .i64 (k : Int)] 3
          rw [hsz] at q
          exact q
        have HLT := BX.lt
        clear HR hp bV BN bX hsz
        go_wp2_with (at_builtin; go_loud (refine wpList_append_own _ rfl (.tmp 26) (.tmp 28) 28 rfl w.heap.size 3 i1 (.int .i64 0) 1 8 Tryz.underlying28 hi1 hy0 hy1 hy2 rfl (by decide) _ _ _ rfl BX ⟨w1.heap.size + 1, 0, none⟩ 1 1 [.int .i64 (k : Int)] rfl rfl cn (by intro u hu; simp at hu; rw [hu]; rfl) (by unfold maxLen; omega) (by omega) b2.size ?_; intro v3 w3 hown3 hgrow3 _))
        have B3 := Nums.one hown3
        rw [← HPn.out HPP.out] at B3
        have b3 : Below w.heap.size w w3 := b2.grown hgrow3 b2.size (fun y hy => (HLT y hy).1)
        exact ⟨⟨k + 1, by omega, by go_num, B3, b3⟩, by simp [intOf]; omega⟩
    · obtain rfl : k = N := by omega
      go_wp2_with fail
      go_ret
      exact ⟨_, rfl, BN, hb⟩

end Go.Proofs.YtldjieplbeflfaaGreat
