/-
  What the function inside the document's own Parse does, call by call.
-/
import Derived.Test.YtniaffofeeieeadESame
namespace Go.Proofs.Ytniaffofeeieead
open Go.RowKit

/-- Where Parse stands: at place A of the N bytes, all well so far or not. W0: the world in which it was called. -/
structure PS (W0 w : World) (v : Value) (N A : Nat) (ok : Bool) : Prop where
  at_ : w.cell? ⟨W0.heap.size + 1, 0, none⟩ = some (.int .i64 (A : Nat))
  b_ : w.cell? ⟨W0.heap.size, 0, none⟩ = some v
  ok_ : w.cell? ⟨W0.heap.size + 1 + 1, 0, none⟩ = some (.bool ok)
  fa : w.frozen? ⟨W0.heap.size + 1, 0, none⟩ = false
  fo : w.frozen? ⟨W0.heap.size + 1 + 1, 0, none⟩ = false
  bel : Below W0.heap.size W0 w
  le : A ≤ N
theorem PS.setAt {W0 w : World} {v : Value} {N A : Nat} {ok : Bool} (h : PS W0 w v N A ok) {A' : Nat} {a : Int} (e : a = (A' : Int)) (hA : A' ≤ N) : PS W0 (w.setCell ⟨W0.heap.size + 1, 0, none⟩ (.int .i64 a)) v N A' ok := by
  have c0 := h.at_
  have c1 := h.b_
  have c2 := h.ok_
  have f0 := h.fa
  have f1 := h.fo
  subst e
  exact ⟨by go_simp, by go_simp, by go_simp, by go_simp, by go_simp, h.bel.setCell (Nat.le_succ _) _, hA⟩
theorem PS.setNo {W0 w : World} {v : Value} {N A : Nat} {ok : Bool} (h : PS W0 w v N A ok) : PS W0 (w.setCell ⟨W0.heap.size + 1 + 1, 0, none⟩ (.bool false)) v N A false := by
  have c0 := h.at_
  have c1 := h.b_
  have c2 := h.ok_
  have f0 := h.fa
  have f1 := h.fo
  exact ⟨by go_simp, by go_simp, by go_simp, by go_simp, by go_simp, h.bel.setCell (by show W0.heap.size ≤ W0.heap.size + 1 + 1; omega) _, h.le⟩
theorem PS.keep {W0 w w' : World} {v : Value} {N A : Nat} {ok : Bool} (h : PS W0 w v N A ok) (hb : Below (W0.heap.size + 3) w w') : PS W0 w' v N A ok :=
  ⟨(hb.cell (p := ⟨W0.heap.size + 1, 0, none⟩) (by show W0.heap.size + 1 < _; omega)).trans h.at_, (hb.cell (p := ⟨W0.heap.size, 0, none⟩) (by show W0.heap.size < _; omega)).trans h.b_, (hb.cell (p := ⟨W0.heap.size + 1 + 1, 0, none⟩) (by show W0.heap.size + 1 + 1 < _; omega)).trans h.ok_,
    (hb.frozen (p := ⟨W0.heap.size + 1, 0, none⟩) (by show W0.heap.size + 1 < _; omega)).trans h.fa, (hb.frozen (p := ⟨W0.heap.size + 1 + 1, 0, none⟩) (by show W0.heap.size + 1 + 1 < _; omega)).trans h.fo, h.bel.trans (hb.mono (by omega)), h.le⟩

theorem PS.room {W0 w : World} {v : Value} {N A : Nat} {ok : Bool} (h : PS W0 w v N A ok) : W0.heap.size + 3 ≤ w.heap.size := by
  have : W0.heap.size + 1 + 1 < w.heap.size := World.block_lt_of_cell? _ _ h.ok_
  omega

/-- The number that s bytes from A on tell. -/
def numV (g : Nat → Nat) (A : Nat) : Nat → Nat
  | 0 => 0
  | k + 1 => 256 * numV g A k + g (A + k)
theorem numV_lt {g : Nat → Nat} (hg : Bd g) (A : Nat) : ∀ k, k ≤ 3 → numV g A k < 16777216 ∧ (k ≤ 2 → numV g A k < 65536)
  | 0, _ => ⟨show 0 < 16777216 by decide, fun _ => show 0 < 65536 by decide⟩
  | 1, _ => by
    have := hg (A + 0)
    exact ⟨show 256 * 0 + g (A + 0) < _ by omega, fun _ => show 256 * 0 + g (A + 0) < _ by omega⟩
  | 2, _ => by
    have h0 := hg (A + 0)
    have h1 := hg (A + 1)
    exact ⟨show 256 * (256 * 0 + g (A + 0)) + g (A + 1) < _ by omega, fun _ => show 256 * (256 * 0 + g (A + 0)) + g (A + 1) < _ by omega⟩
  | 3, _ => by
    have h0 := hg (A + 0)
    have h1 := hg (A + 1)
    have h2 := hg (A + 2)
    exact ⟨show 256 * (256 * (256 * 0 + g (A + 0)) + g (A + 1)) + g (A + 2) < _ by omega, fun h => absurd h (by decide)⟩
  | k + 4, h => absurd h (by omega)
/-- What the function tells. -/
def NumP (W0 w w' : World) (v : Value) (N A : Nat) (ok : Bool) (g : Nat → Nat) (s : Nat) (e : Ending) : Prop :=
  (A + s ≤ N ∧ e = .returned (.int .i64 (numV g A s : Nat)) ∧ PS W0 w' v N (A + s) ok ∧ Off (fun k => k = W0.heap.size + 1 ∨ k = W0.heap.size + 1 + 1) w w') ∨
  (N < A + s ∧ e = .returned (.int .i64 0) ∧ PS W0 w' v N N false ∧ Off (fun k => k = W0.heap.size + 1 ∨ k = W0.heap.size + 1 + 1) w w')

set_option maxHeartbeats 1000000 in
theorem num_some (s b o cap N A : Nat) (ok : Bool) (g : Nat → Nat) (W0 w : World) (hs : s ≤ 3) (hy : Byts W0 (.slice (some ⟨b, o, none⟩) N cap) N g) (hc : ∀ i, i < N → W0.cell? ⟨b, o + i, none⟩ = some (.int .u8 (g i : Nat))) (h : PS W0 w (.slice (some ⟨b, o, none⟩) N cap) N A ok) :
    Calls Try.prog 25 #[.int .i64 (s : Int), .pointer (some ⟨W0.heap.size + 1, 0, none⟩), .pointer (some ⟨W0.heap.size, 0, none⟩), .pointer (some ⟨W0.heap.size + 1 + 1, 0, none⟩)] w fun e w' => NumP W0 w w' (.slice (some ⟨b, o, none⟩) N cap) N A ok g s e := by
  have hN := hy.len
  have hg := hy.bd
  have hA := h.le
  go_enter Try.func25, Try.ntmps25
  go_wp2_with fail
  go_loopw [6, 7] (fun y x wr => ∃ k : Nat, k ≤ s ∧ A + k ≤ N ∧ x = .int .i64 k ∧ y = .int .i64 (numV g A k : Nat) ∧ PS W0 wr (.slice (some ⟨b, o, none⟩) N cap) N (A + k) ok ∧ Off (fun k => k = W0.heap.size + 1 ∨ k = W0.heap.size + 1 + 1) w wr) (fun _ x _ => s - (intOf x).toNat)
  case atStart => exact ⟨0, Nat.zero_le _, hA, rfl, rfl, h, Off.refl _ _⟩
  case round =>
    obtain ⟨k, hk, hAk, rfl, rfl, hp, ho⟩ := hrel
    have c0 := hp.at_
    have c1 := hp.b_
    have c2 := hp.ok_
    have f0 := hp.fa
    have f1 := hp.fo
    have hv := numV_lt hg A k (by omega)
    by_cases hlt : k < s
    · have hlt' : (k : Int) < (s : Int) := by omega
      by_cases hin : A + k < N
      · have hin' : ((A + k : Nat) : Int) < (N : Int) := by omega
        have hin2 : ¬ (N : Int) ≤ ((A + k : Nat) : Int) := by omega
        have t := (hp.bel.cell (p := ⟨b, o + (A + k), none⟩) (World.block_lt_of_cell? _ _ (hc (A + k) hin))).trans (hc (A + k) hin)
        have gk := hg (A + k)
        have HV : Hid (numV g A (k + 1) = 256 * numV g A k + g (A + k)) := rfl
        have HP : Hid (∀ a : Int, a = ((A + k : Nat) : Int) + 1 → PS W0 (wr.setCell ⟨W0.heap.size + 1, 0, none⟩ (.int .i64 a)) (.slice (some ⟨b, o, none⟩) N cap) N (A + (k + 1)) ok) := fun a e => hp.setAt (by omega) (by omega)
        have HO : Hid (∀ a, Off (fun k => k = W0.heap.size + 1 ∨ k = W0.heap.size + 1 + 1) w (wr.setCell ⟨W0.heap.size + 1, 0, none⟩ a)) := fun a => ho.set (p := ⟨W0.heap.size + 1, 0, none⟩) (Or.inl rfl) a
        have hv2 := hv.2 (by omega)
        obtain ⟨q, hq⟩ : ∃ q, A + k = q := ⟨_, rfl⟩
        generalize numV g A k = n at hv hv2 HV
        clear hc hp h ho
        rw [hq] at c0 t hin hin' hin2 gk HV HP
        generalize g q = x at t gk HV
        have HK : Hid (A + k = q) := hq
        clear hq
        go_wp2_with fail
        refine ⟨⟨k + 1, by omega, by have := HK.out; omega, by go_num, val_int (by rw [HV.out]; omega), HP.out _ rfl, HO.out _⟩, by simp [intOf]; omega⟩
      · obtain ⟨q, hq⟩ : ∃ q, A + k = q := ⟨_, rfl⟩
        have HR : Hid (NumP W0 w (wr.setCell ⟨W0.heap.size + 1 + 1, 0, none⟩ (.bool false)) (.slice (some ⟨b, o, none⟩) N cap) N A ok g s (.returned (.int .i64 0))) := Or.inr ⟨by omega, rfl, by
          have h3 := hp.setNo
          rw [show A + k = N by omega] at h3
          exact h3, ho.set (p := ⟨W0.heap.size + 1 + 1, 0, none⟩) (Or.inr rfl) _⟩
        rw [hq] at c0
        have hin2 : (N : Int) ≤ (q : Int) := by omega
        clear hc hp h ho hq
        go_wp2_with fail
        go_ret
        exact HR.out
    · obtain rfl : k = s := by omega
      have HR : Hid (NumP W0 w wr (.slice (some ⟨b, o, none⟩) N cap) N A ok g k (.returned (.int .i64 (numV g A k : Nat)))) := Or.inl ⟨hAk, rfl, hp, ho⟩
      clear hc hp h ho
      go_wp2_with fail
      go_ret
      exact HR.out

end Go.Proofs.Ytniaffofeeieead
