/-
  What grid.One and grid.Mul do, call by call.
-/
import Derived.Test.YtmlboaejkmffjadFilled
import Derived.Deep.Slices
namespace Go.Proofs.Ytmlboaejkmffjad
open Go.RowKit

/-- A right matrix: n rows of c bytes, its bytes told by f. -/
structure Mx (w : World) (v : Value) (n c : Nat) (f : Nat → Nat → Nat) : Prop where
  bd : Gf.Bd2 f
  dim : 1 ≤ n ∧ n ≤ 12 ∧ 1 ≤ c ∧ c ≤ 400
  lies : ∃ (b o cap : Nat) (G O K : Nat → Nat), v = .slice (some ⟨b, o, none⟩) n cap ∧ MatAt w b o n c G O K f

theorem Mx.below {w w' : World} {v : Value} {n c : Nat} {f : Nat → Nat → Nat} (h : Mx w v n c f) (hb : Below w.heap.size w w') : Mx w' v n c f := by
  obtain ⟨b, o, cap, G, O, K, hv, hm⟩ := h.lies
  exact ⟨h.bd, h.dim, b, o, cap, G, O, K, hv, hm.below hb⟩
theorem Mx.arg {w : World} {v : Value} {n c : Nat} {f : Nat → Nat → Nat} (h : Mx w v n c f) : Arg w v n (fun _ => c) f := by
  obtain ⟨b, o, cap, G, O, K, hv, hm⟩ := h.lies
  exact ⟨h.bd, some ⟨b, o, none⟩, cap, fun r => some ⟨G r, O r, none⟩, K, hv, fun r hr => ⟨b, o, rfl, hm.top r hr, fun k hk => ⟨G r, O r, rfl, hm.row r hr k hk⟩⟩⟩
theorem Mx.ok {w : World} {v : Value} {n c : Nat} {f : Nat → Nat → Nat} (h : Mx w v n c f) : wrongE n (fun _ => c) = 0 :=
  wrongE_ok h.dim.1 h.dim.2.1 h.dim.2.2.1 h.dim.2.2.2 (fun _ _ => rfl)
theorem Arg.mx {w : World} {v : Value} {n : Nat} {L : Nat → Nat} {f : Nat → Nat → Nat} (h : Arg w v n L f) (h0 : wrongE n L = 0) : Mx w v n (L 0) f := by
  obtain ⟨d1, d2, d3, d4, d5⟩ := wrongE_zero h0
  obtain ⟨A, cap, R, C, hv, hr⟩ := h.lies
  obtain ⟨b, o, rfl, _, _⟩ := hr 0 (by omega)
  have each : ∀ r, r < n → ∃ x : Nat × Nat, R r = some ⟨x.1, x.2, none⟩ ∧ w.cell? ⟨b, o + r, none⟩ = some (.slice (R r) (L 0) (C r)) ∧ ∀ k, k < L 0 → w.cell? ⟨x.1, x.2 + k, none⟩ = some (.int .u8 (f r k : Nat)) := fun r hrn => by
    obtain ⟨b', o', e1, e2, e3⟩ := hr r hrn
    cases e1
    rw [d5 r hrn] at e2 e3
    obtain ⟨b2, o2, e4, _⟩ := e3 0 (by omega)
    refine ⟨(b2, o2), e4, e2, fun k hk => ?_⟩
    obtain ⟨b3, o3, e5, e6⟩ := e3 k hk
    rw [e4] at e5
    cases e5
    exact e6
  obtain ⟨x, hx⟩ := Deep.choose_lt each
  refine ⟨h.bd, ⟨d1, d2, d3, d4⟩, b, o, cap, fun r => (x r).1, fun r => (x r).2, C, hv, fun r hrn => ?_, fun r hrn => (hx r hrn).2.2⟩
  rw [(hx r hrn).2.1, (hx r hrn).1]
theorem Own.mx {w : World} {N b n c : Nat} {G : Nat → Nat} {f : Nat → Nat → Nat} (h : Own w N b n c G f) (bd : Gf.Bd2 f) (dim : 1 ≤ n ∧ n ≤ 12 ∧ 1 ≤ c ∧ c ≤ 400) : Mx w (.slice (some ⟨b, 0, none⟩) n n) n c f :=
  ⟨bd, dim, b, 0, n, G, _, _, rfl, h.mat⟩

theorem Try.enters_cellOne : ∀ args w, (callFunc 96 args).run Try.prog w = .ok (.enter 96 args) w := enters_of Try.func96 (by kernel_rfl) rfl

set_option maxHeartbeats 400000 in
theorem one_own (n : Nat) (w : World) (h1 : 1 ≤ n) (h2 : n ≤ 12) :
    Calls Try.prog 77 #[.int .i64 (n : Int)] w fun e w' => e = .returned (.tuple #[.slice (some ⟨w.heap.size, 0, none⟩) n n, .int .i64 0]) ∧ (∃ G, Own w' w.heap.size w.heap.size n n G Gf.one) ∧ Below w.heap.size w w' := by
  have h1' : ¬ (n : Int) < 1 := by omega
  have h2' : ¬ (12 : Int) < (n : Int) := by omega
  go_enter Try.func77, Try.ntmps77
  go_wp2_with fail
  refine (filled_any 96 n n #[] Gf.one _ Try.enters_cellOne (fun i _ j _ W _ => by simpa using cellOne_any i j W) (by omega) (by omega)).mono ?_
  rintro e w1 ⟨rfl, ho, hb⟩
  go_wp2_with fail
  go_ret2
  exact ⟨rfl, ho, hb⟩
theorem one_any (n : Nat) (w : World) (h1 : 1 ≤ n) (h2 : n ≤ 12) :
    Calls Try.prog 77 #[.int .i64 (n : Int)] w fun e w' => ∃ v, e = .returned (.tuple #[v, .int .i64 0]) ∧ Mx w' v n n Gf.one ∧ Below w.heap.size w w' :=
  (one_own n w h1 h2).mono fun _ _ ⟨he, ⟨_, ho⟩, hb⟩ => ⟨_, he, ho.mx Gf.one_bd ⟨h1, h2, h1, by omega⟩, hb⟩

set_option maxHeartbeats 400000 in
theorem one_bad (n : Int) (w : World) (h : n < 1 ∨ 12 < n) :
    Calls Try.prog 77 #[.int .i64 n] w fun e w' => e = .returned (.tuple #[.slice none 0 0, .int .i64 5]) ∧ Below w.heap.size w w' := by
  rcases Int.lt_or_le n 1 with h1 | h1
  · clear h
    go_enter Try.func77, Try.ntmps77
    go_wp2_with fail
    go_ret2
    exact ⟨rfl, Below.refl _ _⟩
  · have h1' : ¬ n < 1 := by omega
    have h2' : 12 < n := by omega
    clear h h1
    go_enter Try.func77, Try.ntmps77
    go_wp2_with fail
    go_ret2
    exact ⟨rfl, Below.refl _ _⟩

set_option maxHeartbeats 1000000 in
theorem mulCell_any (i j Ba Bb : Nat) (ba oa na pa ca bb ob nb pb cb : Nat) (Ga Oa Ka Gb Ob Kb : Nat → Nat) (fa fb : Nat → Nat → Nat) (w : World)
    (ha : w.cell? ⟨Ba, 0, none⟩ = some (.slice (some ⟨ba, oa, none⟩) na pa)) (hb : w.cell? ⟨Bb, 0, none⟩ = some (.slice (some ⟨bb, ob, none⟩) nb pb))
    (hma : MatAt w ba oa na ca Ga Oa Ka fa) (hmb : MatAt w bb ob nb cb Gb Ob Kb fb) (hbda : Gf.Bd2 fa) (hbdb : Gf.Bd2 fb) (hab : ca = nb) (hi : i < na) (hj : j < cb) (hca : ca ≤ 1000) :
    Calls Try.prog 82 #[.int .i64 (i : Int), .int .i64 (j : Int), .pointer (some ⟨Ba, 0, none⟩), .pointer (some ⟨Bb, 0, none⟩)] w fun e w' => e = .returned (.int .u8 (Gf.mm ca fa fb i j : Nat)) ∧ Below w.heap.size w w' := by
  subst hab
  have hti := hma.top i hi
  have hi' : (i : Int) < (na : Int) := by omega
  have hj' : (j : Int) < (cb : Int) := by omega
  have la := World.block_lt_of_cell? _ _ ha
  have lb := World.block_lt_of_cell? _ _ hb
  go_enter Try.func82, Try.ntmps82
  go_wp2_with fail
  go_loopw [7, 15] (fun s x wr => ∃ k : Nat, k ≤ ca ∧ x = .int .i64 k ∧ s = .int .u8 (Gf.dot k (fa i) (fun l => fb l j) : Nat) ∧ Below w.heap.size w wr) (fun _ x _ => ca - (intOf x).toNat)
  case atStart => exact ⟨0, Nat.zero_le _, rfl, rfl, Below.refl _ _⟩
  case round =>
    obtain ⟨k, hk, rfl, rfl, hbr⟩ := hrel
    by_cases hlt : k < ca
    · have hlt' : (k : Int) < (ca : Int) := by omega
      have hmar := hma.below hbr
      have hmbr := hmb.below hbr
      have r1 := hmar.row i hi k hlt
      have r2 := hmbr.top k hlt
      have r3 := hmbr.row k hlt j hj
      have r4 := (hbr.cell (p := ⟨Bb, 0, none⟩) lb).trans hb
      have hxor := xor_nat (Gf.dot_lt (hbda i) (fun l => fb l j) k) (Gf.mul_lt (fb k j) (hbda i k))
      have HS : Hid (Gf.dot k (fa i) (fun l => fb l j) ^^^ Gf.mul (fa i k) (fb k j) = Gf.dot (k + 1) (fa i) (fun l => fb l j)) := rfl
      clear hmar hmbr ha hb hti
      go_wp2_with fail
      refine (mul_nat _ _ _ (hbda i k) (hbdb k j)).mono ?_
      rintro e w1 ⟨rfl, hb1⟩
      go_wp2_with fail
      exact ⟨⟨k + 1, by omega, by go_num, val_int (by rw [HS.out]), hbr.trans (hb1.mono hbr.size)⟩, by simp [intOf]; omega⟩
    · have e8 : k = ca := by omega
      subst e8
      go_wp2_with fail
      go_ret
      exact ⟨rfl, hbr⟩

end Go.Proofs.Ytmlboaejkmffjad
