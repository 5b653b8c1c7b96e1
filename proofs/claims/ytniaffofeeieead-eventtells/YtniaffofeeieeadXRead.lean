/-
  What event's reader does, call by call: next and number.
-/
import Derived.Test.YtniaffofeeieeadESt
import Derived.Test.YtniaffofeeieeadXBytes
namespace Go.Proofs.Ytniaffofeeieead
open Go.RowKit

/-- Bytes, as a list. -/
def BytL (w : World) (v : Value) (r : List Nat) : Prop := Evt.Bytes r ∧ ∃ A cap, v = .slice A r.length cap ∧ r.length ≤ cap ∧ cap ≤ maxLen ∧ ∀ i x, r[i]? = some x → ∃ b o, A = some ⟨b, o, none⟩ ∧ w.cell? ⟨b, o + i, none⟩ = some (.int .u8 (x : Nat))
theorem BytL.below {w w' : World} {v : Value} {r : List Nat} (h : BytL w v r) (hb : Below w.heap.size w w') : BytL w' v r := by
  obtain ⟨h0, A, cap, hv, h1, h2, hc⟩ := h
  refine ⟨h0, A, cap, hv, h1, h2, fun i x hx => ?_⟩
  obtain ⟨b, o, e1, e2⟩ := hc i x hx
  exact ⟨b, o, e1, (hb.cell (p := ⟨b, o + i, none⟩) (World.block_lt_of_cell? _ _ e2)).trans e2⟩
theorem BytL.nil (w : World) : BytL w (.slice none 0 0) [] := ⟨Evt.Bytes.nil, none, 0, rfl, Nat.le_refl _, Nat.zero_le _, fun i x hx => by cases hx⟩
theorem Byts.list {w : World} {v : Value} {n : Nat} {g : Nat → Nat} (h : Byts w v n g) : BytL w v (bl g n) := by
  obtain ⟨bd, A, cap, hv, h1, h2, hc⟩ := h
  refine ⟨bl_bytes bd n, A, cap, by rw [bl_len]; exact hv, by rw [bl_len]; exact h1, h2, fun i x hx => ?_⟩
  have hi : i < n := by
    have := (List.getElem?_eq_some_iff.1 hx).1
    rwa [bl_len] at this
  rw [bl_get g hi] at hx
  cases hx
  exact hc i hi
theorem BytL.byts {w : World} {v : Value} {r : List Nat} (h : BytL w v r) : Byts w v r.length (fun k => r.getD k 0) := by
  obtain ⟨h0, A, cap, hv, h1, h2, hc⟩ := h
  refine ⟨fun k => ?_, A, cap, hv, h1, h2, fun i hi => ?_⟩
  · show r.getD k 0 < 256
    by_cases hk : k < r.length
    · have : r.getD k 0 ∈ r := by simp [List.getD, hk]
      exact h0 _ this
    · simp [List.getD, hk]
  · have e : r[i]? = some (r.getD i 0) := by simp [List.getD, hi]
    exact hc i _ e
theorem BufL.bytL {w : World} {N : Nat} {v : Value} {bs : List Nat} (h : BufL w N v bs) (hb : Evt.Bytes bs) : BytL w v bs := by
  have := (h.byts hb).list
  rw [show bl (fun k => bs.getD k 0) bs.length = bs from ?_] at this
  · exact this
  · apply List.ext_getElem?
    intro i
    by_cases hi : i < bs.length
    · rw [bl_get _ hi]
      simp [List.getD, hi]
    · rw [List.getElem?_eq_none (by rw [bl_len]; omega), List.getElem?_eq_none (by omega)]

/-- A reader at block p: what it has still to read, and whether it has failed. The bytes came in ahead of W0. -/
structure Rd (W0 w : World) (p : Nat) (st : Evt.St) : Prop where
  c0 : ∃ v, w.cell? ⟨p, 0, none⟩ = some v ∧ BytL W0 v st.1
  c1 : w.cell? ⟨p, 1, none⟩ = some (.bool st.2)
  fr : ∀ i, w.frozen? ⟨p, i, none⟩ = false
  bel : Below W0.heap.size W0 w
  le : W0.heap.size ≤ p
theorem Rd.bytes {W0 w : World} {p : Nat} {st : Evt.St} (h : Rd W0 w p st) : Evt.Bytes st.1 := by
  obtain ⟨v, _, h0, _⟩ := h.c0
  exact h0
theorem Rd.lt {W0 w : World} {p : Nat} {st : Evt.St} (h : Rd W0 w p st) : p < w.heap.size := World.block_lt_of_cell? _ _ h.c1
theorem Rd.off {S : Nat → Prop} {W0 w w' : World} {p : Nat} {st : Evt.St} (h : Rd W0 w p st) (ho : Off S w w') (hS : ¬ S p) (hW : ∀ k, S k → W0.heap.size ≤ k) : Rd W0 w' p st := by
  have hb := ho.block p h.lt hS
  obtain ⟨v, e1, e2⟩ := h.c0
  exact ⟨⟨v, (World.cell?_of_block (w := w) (a := ⟨p, 0, none⟩) hb).trans e1, e2⟩, (World.cell?_of_block (w := w) (a := ⟨p, 1, none⟩) hb).trans h.c1, fun i => (World.frozen?_of_block (w := w) (a := ⟨p, i, none⟩) hb).trans (h.fr i), h.bel.trans (ho.below h.bel.size hW), h.le⟩
theorem Rd.set {W0 w : World} {p : Nat} {st : Evt.St} (h : Rd W0 w p st) {v : Value} {r : List Nat} (hv : BytL W0 v r) : Rd W0 (w.setCell ⟨p, 0, none⟩ v) p (r, st.2) := by
  obtain ⟨⟨v0, c0, _⟩, c1, fr, bel, le⟩ := h
  exact ⟨⟨v, by go_simp, hv⟩, by go_simp, fun i => by have := fr i; go_simp, bel.setCell le _, le⟩
theorem Rd.fail {W0 w : World} {p : Nat} {st : Evt.St} (h : Rd W0 w p st) : Rd W0 ((w.setCell ⟨p, 0, none⟩ (.slice none 0 0)).setCell ⟨p, 1, none⟩ (.bool true)) p ([], true) := by
  obtain ⟨⟨v0, c0, _⟩, c1, fr, bel, le⟩ := h
  exact ⟨⟨.slice none 0 0, by go_simp, BytL.nil _⟩, by go_simp, fun i => by have := fr i; go_simp, (bel.setCell le _).setCell le _, le⟩

theorem take_bytL {w : World} {A : Option Addr} {C : Nat} {r : List Nat} (h : BytL w (.slice A r.length C) r) {n : Nat} (hn : n ≤ r.length) : BytL w (.slice A n C) (r.take n) := by
  obtain ⟨h0, A', cap, hv, h1, h2, hc⟩ := h
  cases hv
  have hl : (r.take n).length = n := by simp; omega
  refine ⟨h0.take n, A, C, by rw [hl], by omega, h2, fun i x hx => ?_⟩
  have hi : i < n := by
    have := (List.getElem?_eq_some_iff.1 hx).1
    omega
  rw [List.getElem?_take, if_pos hi] at hx
  exact hc i x hx
theorem drop_bytL {w : World} {b o C : Nat} {r : List Nat} (h : BytL w (.slice (some ⟨b, o, none⟩) r.length C) r) {n : Nat} (hn : n ≤ r.length) : BytL w (.slice (some ⟨b, o + n, none⟩) (r.length - n) (C - n)) (r.drop n) := by
  obtain ⟨h0, A', cap, hv, h1, h2, hc⟩ := h
  cases hv
  have hl : (r.drop n).length = r.length - n := by simp
  refine ⟨h0.drop n, some ⟨b, o + n, none⟩, C - n, by rw [hl], by omega, by omega, fun i x hx => ?_⟩
  rw [List.getElem?_drop] at hx
  obtain ⟨b', o', e1, e2⟩ := hc (n + i) x hx
  cases e1
  exact ⟨b, o + n, rfl, by rw [show o + n + i = o + (n + i) by omega]; exact e2⟩
theorem none_bytL (w : World) (A : Option Addr) {C : Nat} (hC : C ≤ maxLen) : BytL w (.slice A 0 C) [] := ⟨Evt.Bytes.nil, A, C, rfl, Nat.zero_le _, hC, fun i x hx => by cases hx⟩
theorem takS_no {n : Nat} {st : Evt.St} (h : st.1.length < n) : Evt.takS n st = ([], ([], true)) := if_pos h
theorem takS_yes {n : Nat} {st : Evt.St} (h : ¬ st.1.length < n) : Evt.takS n st = (st.1.take n, (st.1.drop n, st.2)) := if_neg h

set_option maxHeartbeats 400000 in
theorem next_any (W0 : World) (p n : Nat) (st : Evt.St) (w : World) (h : Rd W0 w p st) (hn : n ≤ 1000000) :
    Calls Try.prog 30 #[.pointer (some ⟨p, 0, none⟩), .int .i64 (n : Int)] w fun e w' => ∃ t, e = .returned t ∧ BytL W0 t (Evt.takS n st).1 ∧ Rd W0 w' p (Evt.takS n st).2 ∧ Off (fun k => k = p) w w' := by
  obtain ⟨r, fl⟩ := st
  obtain ⟨v, k0, hv⟩ := h.c0
  have hv : BytL W0 v r := hv
  have f0 := h.fr 0
  have f1 := h.fr 1
  have k1 := h.c1
  have hv' := hv
  obtain ⟨h0, A, C, rfl, h1, h2, hc⟩ := hv'
  unfold maxLen at h2
  by_cases q : r.length < n
  · have q' : (r.length : Int) < (n : Int) := by omega
    rw [takS_no (st := (r, fl)) q]
    have HF : Hid (Rd W0 ((w.setCell ⟨p, 0, none⟩ (.slice none 0 0)).setCell ⟨p, 1, none⟩ (.bool true)) p ([], true)) := h.fail
    clear h hv hc h0
    go_enter Try.func30, Try.ntmps30
    go_wp2_with fail
    go_ret
    exact ⟨_, rfl, BytL.nil _, HF.out, ((Off.refl (fun k => k = p) _).set (p := ⟨p, 0, none⟩) rfl _).set (p := ⟨p, 1, none⟩) rfl _⟩
  have q' : ¬ (r.length : Int) < (n : Int) := by omega
  rw [takS_yes (st := (r, fl)) q]
  have HT : Hid (BytL W0 (.slice A n C) (r.take n)) := take_bytL hv (by omega)
  by_cases q0 : 1 ≤ r.length
  case neg =>
    obtain rfl : r = [] := List.eq_nil_of_length_eq_zero (by omega)
    obtain rfl : n = 0 := by simpa using q
    have HS : Hid (∀ A', Rd W0 (w.setCell ⟨p, 0, none⟩ (.slice A' 0 C)) p ([], fl)) := fun A' => h.set (none_bytL W0 A' (by unfold maxLen; omega))
    have HU : Hid (∀ A', BytL W0 (.slice A' 0 C) []) := fun A' => none_bytL W0 A' (by unfold maxLen; omega)
    clear h hv hc h0 q' q0 q HT
    simp only [List.length_nil] at k0 h1
    cases A with
    | none =>
      go_enter Try.func30, Try.ntmps30
      go_wp2_with fail
      go_ret
      exact ⟨_, rfl, HU.out _, HS.out _, (Off.refl (fun k => k = p) _).set (p := ⟨p, 0, none⟩) rfl _⟩
    | some a =>
      go_enter Try.func30, Try.ntmps30
      go_wp2_with fail
      go_ret
      exact ⟨_, rfl, HU.out _, HS.out _, (Off.refl (fun k => k = p) _).set (p := ⟨p, 0, none⟩) rfl _⟩
  obtain ⟨b, o, rfl, hz⟩ := hc 0 r[0] (List.getElem?_eq_getElem q0)
  by_cases hcn : C = n
  · obtain rfl : r.length = n := by omega
    subst hcn
    have HS : Hid (Rd W0 (w.setCell ⟨p, 0, none⟩ (.slice (some ⟨b, o, none⟩) 0 0)) p ([], fl)) := h.set (none_bytL W0 _ (Nat.zero_le _))
    have HT : Hid (BytL W0 (.slice (some ⟨b, o, none⟩) r.length r.length) r) := hv
    clear h hv hc h0 q0 q hz
    go_enter Try.func30, Try.ntmps30
    go_wp2_with fail
    go_ret
    exact ⟨_, rfl, HT.out, HS.out, (Off.refl (fun k => k = p) _).set (p := ⟨p, 0, none⟩) rfl _⟩
  · have HS : Hid (Rd W0 (w.setCell ⟨p, 0, none⟩ (.slice (some ⟨b, o + n, none⟩) (r.length - n) (C - n))) p (r.drop n, fl)) := h.set (drop_bytL hv (by omega))
    have hnC : ¬ C = 0 := by omega
    clear h hv hc h0 hz q0
    go_enter Try.func30, Try.ntmps30
    go_wp2_with fail
    go_ret
    exact ⟨_, rfl, HT.out, HS.out, (Off.refl (fun k => k = p) _).set (p := ⟨p, 0, none⟩) rfl _⟩

theorem i64_or (A B : Nat) (h2 : A < 9223372036854775808) (h4 : B < 9223372036854775808) : bits .or .i64 (A : Int) (B : Int) = ((A ||| B : Nat) : Int) := by
  have hx : A ||| B < 2 ^ 63 := Nat.or_lt_two_pow (by omega) (by omega)
  show IntKind.i64.wrap ((BitVec.ofInt 64 (A : Int) ||| BitVec.ofInt 64 (B : Int)).toNat : Int) = _
  rw [BitVec.toNat_or, ofInt_u64 A (by omega), ofInt_u64 B (by omega), IntKind.wrap_i64]
  omega
theorem val_step (t : List Nat) (k x : Nat) (h : t[k]? = some x) : Evt.val (t.take (k + 1)) = 256 * Evt.val (t.take k) + x := by
  unfold Evt.val
  rw [List.take_add_one, h, List.foldl_append]
  rfl
theorem val_lt3 {t : List Nat} (hb : Evt.Bytes t) (k : Nat) (hk : k ≤ 3) : Evt.val (t.take k) < 16777216 ∧ (k ≤ 2 → Evt.val (t.take k) < 65536) := by
  have h1 := Evt.val_lt (t.take k) 0 0 (hb.take k) (by decide)
  have h2 : (t.take k).length ≤ k := by simp; omega
  constructor
  · refine Nat.lt_of_lt_of_le h1 (Nat.le_trans (Nat.pow_le_pow_right (by decide) (show 0 + (t.take k).length ≤ 3 by omega)) (by decide))
  · intro hk2
    refine Nat.lt_of_lt_of_le h1 (Nat.le_trans (Nat.pow_le_pow_right (by decide) (show 0 + (t.take k).length ≤ 2 by omega)) (by decide))

set_option maxHeartbeats 400000 in
theorem number_any (W0 : World) (p s : Nat) (st : Evt.St) (w : World) (h : Rd W0 w p st) (hs : s ≤ 3) :
    Calls Try.prog 28 #[.pointer (some ⟨p, 0, none⟩), .int .i64 (s : Int)] w fun e w' => e = .returned (.int .i64 ((Evt.numS s st).1 : Nat)) ∧ Rd W0 w' p (Evt.numS s st).2 ∧ Off (fun k => k = p) w w' := by
  have H1 := next_any W0 p s st w h (by omega)
  have hlen := Evt.takS_len s st
  rw [Evt.numS_tak]
  generalize (Evt.takS s st).1 = t at H1 hlen ⊢
  generalize (Evt.takS s st).2 = st' at H1 ⊢
  clear h
  go_enter Try.func28, Try.ntmps28
  go_wp2_with fail
  refine H1.mono ?_
  rintro e w1 ⟨v, rfl, ⟨hb, A, C, rfl, _, _, hc⟩, R1, O1⟩
  have HC : Hid (∀ i x, t[i]? = some x → ∃ b o, A = some ⟨b, o, none⟩ ∧ W0.cell? ⟨b, o + i, none⟩ = some (.int .u8 (x : Nat))) := hc
  have br := R1.bel
  have HR : Hid (Rd W0 w1 p st') := R1
  have HB : Hid (Evt.Bytes t) := hb
  clear H1 R1 hc hb
  go_wp2_with fail
  go_loop [5, 12] (fun y x => ∃ k : Nat, k ≤ t.length ∧ x = .int .i64 k ∧ y = .int .i64 (Evt.val (t.take k) : Nat)) (fun _ x => t.length - (intOf x).toNat)
  case atStart => exact ⟨0, Nat.zero_le _, rfl, rfl⟩
  case round =>
    obtain ⟨k, hk, rfl, rfl⟩ := hrel
    by_cases hlt : k < t.length
    · have hlt' : (k : Int) < (t.length : Int) := by omega
      obtain ⟨x, hx⟩ : ∃ x, t[k]? = some x := ⟨t[k], List.getElem?_eq_getElem hlt⟩
      obtain ⟨b, o, rfl, d00⟩ := HC.out k x hx
      have d0 := (br.cell (p := ⟨b, o + k, none⟩) (World.block_lt_of_cell? _ _ d00)).trans d00
      have hx2 : x < 256 := HB.out x (List.mem_of_getElem? hx)
      have HV : Hid (Evt.val (t.take (k + 1)) = 256 * Evt.val (t.take k) + x) := val_step t k x hx
      have hv := (val_lt3 HB.out k (by omega)).2 (by omega)
      generalize Evt.val (t.take k) = n at HV hv
      have HJ : Hid (bits .or .i64 ((n : Int) * 256) (x : Int) = ((256 * n + x : Nat) : Int)) := by
        show bits .or .i64 ((n : Int) * 256) (x : Int) = _
        rw [show (n : Int) * 256 = ((n * 256 : Nat) : Int) by omega, i64_or _ _ (by omega) (by omega), nat_join 8 _ _ (by omega) (by omega), Nat.mul_comm]
      clear hx d00
      go_wp2_with fail
      exact ⟨⟨k + 1, by omega, by go_num, val_int (by rw [HV.out]; exact HJ.out)⟩, by simp [intOf]; omega⟩
    · obtain rfl : k = t.length := by omega
      go_wp2_with fail
      go_ret
      exact ⟨rfl, HR.out, O1⟩

end Go.Proofs.Ytniaffofeeieead
