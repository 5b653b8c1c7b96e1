/-
  Texts of the proof, joined: XRead, VMem.
-/
import Derived.Test.YtmcaejooaaahdaaGreatZ15
import Derived.Test.YtmcaejooaaahdaaGreatZ17
import Derived.Test.YtmcaejooaaahdaaGreatZ02
namespace Go.Proofs.YtmcaejooaaahdaaGreat
open Go.RowKit

/-- Bytes, as a list. -/
def BytL (w : World) (v : Value) (r : List Nat) : Prop := Evt.Bytes r ∧ ∃ A cap, v = .slice A r.length cap ∧ r.length ≤ cap ∧ cap ≤ maxLen ∧ ∀ i x, r[i]? = some x → ∃ b o, A = some ⟨b, o, none⟩ ∧ w.cell? ⟨b, o + i, none⟩ = some (.int .u8 (x : Nat))
theorem BytL.below {w w' : World} {v : Value} {r : List Nat} (h : BytL w v r) (hb : Below w.heap.size w w') : BytL w' v r := by
  obtain ⟨h0, A, cap, hv, h1, h2, hc⟩ := h
  refine ⟨h0, A, cap, hv, h1, h2, fun i x hx => ?_⟩
  obtain ⟨b, o, e1, e2⟩ := hc i x hx
  exact ⟨b, o, e1, (hb.cell (p := ⟨b, o + i, none⟩) (World.block_lt_of_cell? _ _ e2)).trans e2⟩
theorem BytL.nil (w : World) : BytL w (.slice none 0 0) [] := ⟨Evt.Bytes.nil, none, 0, rfl, Nat.le_refl _, Nat.zero_le _, fun i x hx => by cases hx⟩
theorem Byts.list {w : World} {v : Value} {n : Nat} {g : Nat → Nat} (h : Byts w v n g) : BytL w v (bl g n) := by
  obtain ⟨bd, A, cap, hv, h1, h2, hc⟩ := h
  refine ⟨bl_bytes bd n, A, cap, by rw [bl_len]; exact hv, by rw [bl_len]; exact h1, h2, fun i x hx => ?_⟩
  have hi : i < n := by
    have := (List.getElem?_eq_some_iff.1 hx).1
    rwa [bl_len] at this
  rw [bl_get g hi] at hx
  cases hx
  exact hc i hi
theorem BytL.byts {w : World} {v : Value} {r : List Nat} (h : BytL w v r) : Byts w v r.length (fun k => r.getD k 0) := by
  obtain ⟨h0, A, cap, hv, h1, h2, hc⟩ := h
  refine ⟨fun k => ?_, A, cap, hv, h1, h2, fun i hi => ?_⟩
  · show r.getD k 0 < 256
    by_cases hk : k < r.length
    · have : r.getD k 0 ∈ r := by simp [List.getD, hk]
      exact h0 _ this
    · simp [List.getD, hk]
  · have e : r[i]? = some (r.getD i 0) := by simp [List.getD, hi]
    exact hc i _ e
theorem BufL.bytL {w : World} {N : Nat} {v : Value} {bs : List Nat} (h : BufL w N v bs) (hb : Evt.Bytes bs) : BytL w v bs := by
  have := (h.byts hb).list
  rw [show bl (fun k => bs.getD k 0) bs.length = bs from ?_] at this
  · exact this
  · apply List.ext_getElem?
    intro i
    by_cases hi : i < bs.length
    · rw [bl_get _ hi]
      simp [List.getD, hi]
    · rw [List.getElem?_eq_none (by rw [bl_len]; omega), List.getElem?_eq_none (by omega)]

/-- A reader at block p: what it has still to read, and whether it has failed. The bytes came in ahead of W0. -/
structure Rd (W0 w : World) (p : Nat) (st : Evt.St) : Prop where
  c0 : ∃ v, w.cell? ⟨p, 0, none⟩ = some v ∧ BytL W0 v st.1
  c1 : w.cell? ⟨p, 1, none⟩ = some (.bool st.2)
  fr : ∀ i, w.frozen? ⟨p, i, none⟩ = false
  bel : Below W0.heap.size W0 w
  le : W0.heap.size ≤ p
theorem Rd.bytes {W0 w : World} {p : Nat} {st : Evt.St} (h : Rd W0 w p st) : Evt.Bytes st.1 := by
  obtain ⟨v, _, h0, _⟩ := h.c0
  exact h0
theorem Rd.lt {W0 w : World} {p : Nat} {st : Evt.St} (h : Rd W0 w p st) : p < w.heap.size := World.block_lt_of_cell? _ _ h.c1
theorem Rd.off {S : Nat → Prop} {W0 w w' : World} {p : Nat} {st : Evt.St} (h : Rd W0 w p st) (ho : Off S w w') (hS : ¬ S p) (hW : ∀ k, S k → W0.heap.size ≤ k) : Rd W0 w' p st := by
  have hb := ho.block p h.lt hS
  obtain ⟨v, e1, e2⟩ := h.c0
  exact ⟨⟨v, (World.cell?_of_block (w := w) (a := ⟨p, 0, none⟩) hb).trans e1, e2⟩, (World.cell?_of_block (w := w) (a := ⟨p, 1, none⟩) hb).trans h.c1, fun i => (World.frozen?_of_block (w := w) (a := ⟨p, i, none⟩) hb).trans (h.fr i), h.bel.trans (ho.below h.bel.size hW), h.le⟩
theorem Rd.set {W0 w : World} {p : Nat} {st : Evt.St} (h : Rd W0 w p st) {v : Value} {r : List Nat} (hv : BytL W0 v r) : Rd W0 (w.setCell ⟨p, 0, none⟩ v) p (r, st.2) := by
  obtain ⟨⟨v0, c0, _⟩, c1, fr, bel, le⟩ := h
  exact ⟨⟨v, by go_simp, hv⟩, by go_simp, fun i => by have := fr i; go_simp, bel.setCell le _, le⟩
theorem Rd.fail {W0 w : World} {p : Nat} {st : Evt.St} (h : Rd W0 w p st) : Rd W0 ((w.setCell ⟨p, 0, none⟩ (.slice none 0 0)).setCell ⟨p, 1, none⟩ (.bool true)) p ([], true) := by
  obtain ⟨⟨v0, c0, _⟩, c1, fr, bel, le⟩ := h
  exact ⟨⟨.slice none 0 0, by go_simp, BytL.nil _⟩, by go_simp, fun i => by have := fr i; go_simp, (bel.setCell le _).setCell le _, le⟩

theorem take_bytL {w : World} {A : Option Addr} {C : Nat} {r : List Nat} (h : BytL w (.slice A r.length C) r) {n : Nat} (hn : n ≤ r.length) : BytL w (.slice A n C) (r.take n) := by
  obtain ⟨h0, A', cap, hv, h1, h2, hc⟩ := h
  cases hv
  have hl : (r.take n).length = n := by simp; omega
  refine ⟨h0.take n, A, C, by rw [hl], by omega, h2, fun i x hx => ?_⟩
  have hi : i < n := by
    have := (List.getElem?_eq_some_iff.1 hx).1
    omega
  rw [List.getElem?_take, if_pos hi] at hx
  exact hc i x hx
theorem drop_bytL {w : World} {b o C : Nat} {r : List Nat} (h : BytL w (.slice (some ⟨b, o, none⟩) r.length C) r) {n : Nat} (hn : n ≤ r.length) : BytL w (.slice (some ⟨b, o + n, none⟩) (r.length - n) (C - n)) (r.drop n) := by
  obtain ⟨h0, A', cap, hv, h1, h2, hc⟩ := h
  cases hv
  have hl : (r.drop n).length = r.length - n := by simp
  refine ⟨h0.drop n, some ⟨b, o + n, none⟩, C - n, by rw [hl], by omega, by omega, fun i x hx => ?_⟩
  rw [List.getElem?_drop] at hx
  obtain ⟨b', o', e1, e2⟩ := hc (n + i) x hx
  cases e1
  exact ⟨b, o + n, rfl, by rw [show o + n + i = o + (n + i) by omega]; exact e2⟩
theorem none_bytL (w : World) (A : Option Addr) {C : Nat} (hC : C ≤ maxLen) : BytL w (.slice A 0 C) [] := ⟨Evt.Bytes.nil, A, C, rfl, Nat.zero_le _, hC, fun i x hx => by cases hx⟩
theorem takS_no {n : Nat} {st : Evt.St} (h : st.1.length < n) : Evt.takS n st = ([], ([], true)) := if_pos h
theorem takS_yes {n : Nat} {st : Evt.St} (h : ¬ st.1.length < n) : Evt.takS n st = (st.1.take n, (st.1.drop n, st.2)) := if_neg h

set_option maxHeartbeats 400000 in
theorem next_any (W0 : World) (p n : Nat) (st : Evt.St) (w : World) (h : Rd W0 w p st) (hn : n ≤ 1000000) :
    Calls Tryz.prog 173 #[.pointer (some ⟨p, 0, none⟩), .int .i64 (n : Int)] w fun e w' => ∃ t, e = .returned t ∧ BytL W0 t (Evt.takS n st).1 ∧ Rd W0 w' p (Evt.takS n st).2 ∧ Off (fun k => k = p) w w' := by
  obtain ⟨r, fl⟩ := st
  obtain ⟨v, k0, hv⟩ := h.c0
  have hv : BytL W0 v r := hv
  have f0 := h.fr 0
  have f1 := h.fr 1
  have k1 := h.c1
  have hv' := hv
  obtain ⟨h0, A, C, rfl, h1, h2, hc⟩ := hv'
  unfold maxLen at h2
  by_cases q : r.length < n
  · have q' : (r.length : Int) < (n : Int) := by omega
    rw [takS_no (st := (r, fl)) q]
    have HF : Hid (Rd W0 ((w.setCell ⟨p, 0, none⟩ (.slice none 0 0)).setCell ⟨p, 1, none⟩ (.bool true)) p ([], true)) := h.fail
    clear h hv hc h0
    go_enter Tryz.func173, Tryz.ntmps173
    go_wp2_with fail
    go_ret
    exact ⟨_, rfl, BytL.nil _, HF.out, ((Off.refl (fun k => k = p) _).set (p := ⟨p, 0, none⟩) rfl _).set (p := ⟨p, 1, none⟩) rfl _⟩
  have q' : ¬ (r.length : Int) < (n : Int) := by omega
  rw [takS_yes (st := (r, fl)) q]
  have HT : Hid (BytL W0 (.slice A n C) (r.take n)) := take_bytL hv (by omega)
  by_cases q0 : 1 ≤ r.length
  case neg =>
    obtain rfl : r = [] := List.eq_nil_of_length_eq_zero (by omega)
    obtain rfl : n = 0 := by simpa using q
    have HS : Hid (∀ A', Rd W0 (w.setCell ⟨p, 0, none⟩ (.slice A' 0 C)) p ([], fl)) := fun A' => h.set (none_bytL W0 A' (by unfold maxLen; omega))
    have HU : Hid (∀ A', BytL W0 (.slice A' 0 C) []) := fun A' => none_bytL W0 A' (by unfold maxLen; omega)
    clear h hv hc h0 q' q0 q HT
    simp only [List.length_nil] at k0 h1
    cases A with
    | none =>
      go_enter Tryz.func173, Tryz.ntmps173
      go_wp2_with fail
      go_ret
      exact ⟨_, rfl, HU.out _, HS.out _, (Off.refl (fun k => k = p) _).set (p := ⟨p, 0, none⟩) rfl _⟩
    | some a =>
      go_enter Tryz.func173, Tryz.ntmps173
      go_wp2_with fail
      go_ret
      exact ⟨_, rfl, HU.out _, HS.out _, (Off.refl (fun k => k = p) _).set (p := ⟨p, 0, none⟩) rfl _⟩
  obtain ⟨b, o, rfl, hz⟩ := hc 0 r[0] (List.getElem?_eq_getElem q0)
  by_cases hcn : C = n
  · obtain rfl : r.length = n := by omega
    subst hcn
    have HS : Hid (Rd W0 (w.setCell ⟨p, 0, none⟩ (.slice (some ⟨b, o, none⟩) 0 0)) p ([], fl)) := h.set (none_bytL W0 _ (Nat.zero_le _))
    have HT : Hid (BytL W0 (.slice (some ⟨b, o, none⟩) r.length r.length) r) := hv
    clear h hv hc h0 q0 q hz
    go_enter Tryz.func173, Tryz.ntmps173
    go_wp2_with fail
    go_ret
    exact ⟨_, rfl, HT.out, HS.out, (Off.refl (fun k => k = p) _).set (p := ⟨p, 0, none⟩) rfl _⟩
  · have HS : Hid (Rd W0 (w.setCell ⟨p, 0, none⟩ (.slice (some ⟨b, o + n, none⟩) (r.length - n) (C - n))) p (r.drop n, fl)) := h.set (drop_bytL hv (by omega))
    have hnC : ¬ C = 0 := by omega
    clear h hv hc h0 hz q0
    go_enter Tryz.func173, Tryz.ntmps173
    go_wp2_with fail
    go_ret
    exact ⟨_, rfl, HT.out, HS.out, (Off.refl (fun k => k = p) _).set (p := ⟨p, 0, none⟩) rfl _⟩

theorem val_step (t : List Nat) (k x : Nat) (h : t[k]? = some x) : Evt.val (t.take (k + 1)) = 256 * Evt.val (t.take k) + x := by
  unfold Evt.val
  rw [List.take_add_one, h, List.foldl_append]
  rfl
theorem val_lt3 {t : List Nat} (hb : Evt.Bytes t) (k : Nat) (hk : k ≤ 3) : Evt.val (t.take k) < 16777216 ∧ (k ≤ 2 → Evt.val (t.take k) < 65536) := by
  have h1 := Evt.val_lt (t.take k) 0 0 (hb.take k) (by decide)
  have h2 : (t.take k).length ≤ k := by simp; omega
  constructor
  · refine Nat.lt_of_lt_of_le h1 (Nat.le_trans (Nat.pow_le_pow_right (by decide) (show 0 + (t.take k).length ≤ 3 by omega)) (by decide))
  · intro hk2
    refine Nat.lt_of_lt_of_le h1 (Nat.le_trans (Nat.pow_le_pow_right (by decide) (show 0 + (t.take k).length ≤ 2 by omega)) (by decide))

set_option maxHeartbeats 400000 in
theorem number_any (W0 : World) (p s : Nat) (st : Evt.St) (w : World) (h : Rd W0 w p st) (hs : s ≤ 3) :
    Calls Tryz.prog 145 #[.pointer (some ⟨p, 0, none⟩), .int .i64 (s : Int)] w fun e w' => e = .returned (.int .i64 ((Evt.numS s st).1 : Nat)) ∧ Rd W0 w' p (Evt.numS s st).2 ∧ Off (fun k => k = p) w w' := by
  have H1 := next_any W0 p s st w h (by omega)
  have hlen := Evt.takS_len s st
  rw [Evt.numS_tak]
  generalize (Evt.takS s st).1 = t at H1 hlen ⊢
  generalize (Evt.takS s st).2 = st' at H1 ⊢
  clear h
  go_enter Tryz.func145, Tryz.ntmps145
  go_wp2_with fail
  refine H1.mono ?_
  rintro e w1 ⟨v, rfl, ⟨hb, A, C, rfl, _, _, hc⟩, R1, O1⟩
  have HC : Hid (∀ i x, t[i]? = some x → ∃ b o, A = some ⟨b, o, none⟩ ∧ W0.cell? ⟨b, o + i, none⟩ = some (.int .u8 (x : Nat))) := hc
  have br := R1.bel
  have HR : Hid (Rd W0 w1 p st') := R1
  have HB : Hid (Evt.Bytes t) := hb
  clear H1 R1 hc hb
  go_wp2_with fail
  go_loop [5, 12] (fun y x => ∃ k : Nat, k ≤ t.length ∧ x = .int .i64 k ∧ y = .int .i64 (Evt.val (t.take k) : Nat)) (fun _ x => t.length - (intOf x).toNat)
  case atStart => exact ⟨0, Nat.zero_le _, rfl, rfl⟩
  case round =>
    obtain ⟨k, hk, rfl, rfl⟩ := hrel
    by_cases hlt : k < t.length
    · have hlt' : (k : Int) < (t.length : Int) := by omega
      obtain ⟨x, hx⟩ : ∃ x, t[k]? = some x := ⟨t[k], List.getElem?_eq_getElem hlt⟩
      obtain ⟨b, o, rfl, d00⟩ := HC.out k x hx
      have d0 := (br.cell (p := ⟨b, o + k, none⟩) (World.block_lt_of_cell? _ _ d00)).trans d00
      have hx2 : x < 256 := HB.out x (List.mem_of_getElem? hx)
      have HV : Hid (Evt.val (t.take (k + 1)) = 256 * Evt.val (t.take k) + x) := val_step t k x hx
      have hv := (val_lt3 HB.out k (by omega)).2 (by omega)
      generalize Evt.val (t.take k) = n at HV hv
      have HJ : Hid (bits .or .i64 ((n : Int) * 256) (x : Int) = ((256 * n + x : Nat) : Int)) := by
        show bits .or .i64 ((n : Int) * 256) (x : Int) = _
        rw [show (n : Int) * 256 = ((n * 256 : Nat) : Int) by omega, i64_or _ _ (by omega) (by omega), nat_join 8 _ _ (by omega) (by omega), Nat.mul_comm]
      clear hx d00
      go_wp2_with fail
      exact ⟨⟨k + 1, by omega, by go_num, val_int (by rw [HV.out]; exact HJ.out)⟩, by simp [intOf]; omega⟩
    · obtain rfl : k = t.length := by omega
      go_wp2_with fail
      go_ret
      exact ⟨rfl, HR.out, O1⟩

end Go.Proofs.YtmcaejooaaahdaaGreat

namespace Go.Proofs.YtmcaejooaaahdaaGreat
open Go.RowKit

theorem less_list : ∀ a b : List UInt8, Op.bytesLess a b = Vw.lt (a.map fun x => x.toNat) (b.map fun x => x.toNat)
  | [], [] => rfl
  | _ :: _, [] => rfl
  | [], _ :: _ => rfl
  | a :: r, b :: s => by
    show (decide (a < b) || (a == b && Op.bytesLess r s)) = (decide (a.toNat < b.toNat) || (decide (a.toNat = b.toNat) && Vw.lt (r.map fun x => x.toNat) (s.map fun x => x.toNat)))
    rw [less_list r s]
    have h1 : decide (a < b) = decide (a.toNat < b.toNat) := decide_eq_decide.2 UInt8.lt_iff_toNat_lt
    have h2 : (a == b) = decide (a.toNat = b.toNat) := by
      rw [Bool.eq_iff_iff, beq_iff_eq, decide_eq_true_iff]
      exact UInt8.toNat_inj.symm
    rw [h1, h2]
theorem less_nb (s t : ByteArray) : Op.bytesLess s.toList t.toList = Vw.lt (nb s) (nb t) := by
  rw [less_list, ByteArray.toList_eq, ByteArray.toList_eq]
  rfl
theorem same_nb (s t : ByteArray) : (s.toList == t.toList) = decide (nb s = nb t) := by
  rw [Bool.eq_iff_iff, beq_iff_eq, decide_eq_true_iff]
  exact nb_inj.symm

/-- An account lies at (b, o). -/
def AcIn (w : World) (b o : Nat) (a : Vw.Acc) : Prop := ∃ s : ByteArray, s.size ≤ 9223372036854775807 ∧ nb s = a.name ∧ w.cell? ⟨b, o, none⟩ = some (.string s) ∧ w.cell? ⟨b, o + 1, none⟩ = some (.int .i64 a.sum) ∧ w.cell? ⟨b, o + 2, none⟩ = some (.int .i64 a.cnt) ∧ w.cell? ⟨b, o + 3, none⟩ = some (.bool a.opn)
theorem AcIn.below {w w' : World} {b o : Nat} {a : Vw.Acc} (h : AcIn w b o a) (hb : Below w.heap.size w w') : AcIn w' b o a := by
  obtain ⟨s, h1, h2, c0, c1, c2, c3⟩ := h
  have hp : b < w.heap.size := World.block_lt_of_cell? _ _ c0
  exact ⟨s, h1, h2, (hb.cell (p := ⟨b, o, none⟩) hp).trans c0, (hb.cell (p := ⟨b, o + 1, none⟩) hp).trans c1, (hb.cell (p := ⟨b, o + 2, none⟩) hp).trans c2, (hb.cell (p := ⟨b, o + 3, none⟩) hp).trans c3⟩
/-- A list of accounts. -/
def Accs (w : World) (v : Value) (l : List Vw.Acc) : Prop := ∃ A cap, v = .slice A l.length cap ∧ l.length ≤ cap ∧ cap ≤ maxLen ∧ ∀ i a, l[i]? = some a → ∃ b o, A = some ⟨b, o, none⟩ ∧ AcIn w b (o + i * 4) a
theorem Accs.below {w w' : World} {v : Value} {l : List Vw.Acc} (h : Accs w v l) (hb : Below w.heap.size w w') : Accs w' v l := by
  obtain ⟨A, cap, hv, h1, h2, h3⟩ := h
  refine ⟨A, cap, hv, h1, h2, fun i e he => ?_⟩
  obtain ⟨b, o, hA, hi⟩ := h3 i e he
  exact ⟨b, o, hA, hi.below hb⟩
theorem Accs.nil (w : World) : Accs w (.slice none 0 0) [] := ⟨none, 0, rfl, Nat.le_refl _, Nat.zero_le _, fun _ _ he => (by cases he)⟩
theorem Accs.shape {w : World} {v : Value} {l : List Vw.Acc} (h : Accs w v l) : ∃ A C, v = .slice A l.length C := by
  obtain ⟨A, C, hv, _⟩ := h
  exact ⟨A, C, hv⟩
theorem Accs.len {w : World} {v : Value} {l : List Vw.Acc} (h : Accs w v l) : l.length ≤ 9223372036854775807 := by
  obtain ⟨A, C, _, h1, h2, _⟩ := h
  unfold maxLen at h2
  omega
theorem Accs.some {w : World} {v : Value} {l : List Vw.Acc} (h : Accs w v l) (hn : 1 ≤ l.length) : ∃ b o cap, v = .slice (some ⟨b, o, none⟩) l.length cap ∧ l.length ≤ cap ∧ cap ≤ 9223372036854775807 ∧ ∀ i e, l[i]? = some e → AcIn w b (o + i * 4) e := by
  obtain ⟨A, cap, hv, h1, h2, h3⟩ := h
  obtain ⟨b, o, rfl, _⟩ := h3 0 l[0] (List.getElem?_eq_getElem hn)
  refine ⟨b, o, cap, hv, h1, h2, fun i e he => ?_⟩
  obtain ⟨b', o', e1, e2⟩ := h3 i e he
  cases e1
  exact e2
theorem Accs.off {S : Nat → Prop} {w w' : World} {v : Value} {l : List Vw.Acc} (h : Accs w v l) (ho : Off S w w') (hS : ∀ g, v.ownBlock = Option.some g → ¬ S g) : Accs w' v l := by
  obtain ⟨A, cap, rfl, h1, h2, h3⟩ := h
  refine ⟨A, cap, rfl, h1, h2, fun i e he => ?_⟩
  obtain ⟨b, o, rfl, s, q1, q2, c0, c1, c2, c3⟩ := h3 i e he
  have hp : b < w.heap.size := World.block_lt_of_cell? _ _ c0
  have hb := ho.block b hp (hS b rfl)
  exact ⟨b, o, rfl, s, q1, q2, (World.cell?_of_block (w := w) (a := ⟨b, o + i * 4, none⟩) hb).trans c0, (World.cell?_of_block (w := w) (a := ⟨b, o + i * 4 + 1, none⟩) hb).trans c1, (World.cell?_of_block (w := w) (a := ⟨b, o + i * 4 + 2, none⟩) hb).trans c2, (World.cell?_of_block (w := w) (a := ⟨b, o + i * 4 + 3, none⟩) hb).trans c3⟩
/-- A list that lies in no block below N. -/
def Past (N : Nat) (v : Value) : Prop := ∀ g, v.ownBlock = some g → N ≤ g
theorem past_nil (N : Nat) : Past N (.slice none 0 0) := fun _ hg => (by cases hg)
theorem Past.mono {N M : Nat} {v : Value} (h : Past N v) (hM : M ≤ N) : Past M v := fun g hg => Nat.le_trans hM (h g hg)
/-- An account as a value. -/
def AcV (v : Value) (a : Vw.Acc) : Prop := ∃ s : ByteArray, s.size ≤ 9223372036854775807 ∧ nb s = a.name ∧ v = .agg #[.string s, .int .i64 a.sum, .int .i64 a.cnt, .bool a.opn]

theorem Tryz.infoAccount : (Tryz.prog.info? 93).map (fun i => (i.zero, i.size, i.bytes)) = some (some (.agg #[.string ByteArray.empty, .int .i64 0, .int .i64 0, .bool false]), 4, 40) := by kernel_rfl
/-- An account's cells. -/
abbrev AcC := ByteArray × Int × Int × Bool
def acCells (e : AcC) : List Value := [.string e.1, .int .i64 e.2.1, .int .i64 e.2.2.1, .bool e.2.2.2]
def acOf (e : AcC) : Vw.Acc := ⟨nb e.1, e.2.1, e.2.2.1, e.2.2.2⟩
/-- Accounts of the call's own. -/
def ABuf (w : World) (N : Nat) (v : Value) (es : List AcC) : Prop := w.ownsRow N 93 4 v es.length (es.flatMap acCells) ∧ ∀ e, e ∈ es → e.1.size ≤ 9223372036854775807
theorem ABuf.nil (w : World) (N : Nat) : ABuf w N (.slice none 0 0) [] := ⟨World.ownsRow_nil w N _ 4, fun e he => by cases he⟩
theorem ABuf.below {w w' : World} {N : Nat} {v : Value} {es : List AcC} (h : ABuf w N v es) (hb : Below w.heap.size w w') : ABuf w' N v es := ⟨owns_below h.1 hb, h.2⟩
theorem ABuf.past {w : World} {N : Nat} {v : Value} {es : List AcC} (h : ABuf w N v es) : Past N v := fun g hg => (h.1.lt g hg).1
theorem ABuf.accs {w : World} {N : Nat} {v : Value} {es : List AcC} (h : ABuf w N v es) : Accs w v (es.map acOf) := by
  by_cases hn : 1 ≤ es.length
  · obtain ⟨g, cap, rfl, _, h1, h2, _, hc⟩ := owns_cells h.1 hn
    refine ⟨some ⟨g, 0, none⟩, cap, by rw [List.length_map], by rw [List.length_map]; exact h1, h2, fun i e he => ?_⟩
    rw [List.getElem?_map] at he
    obtain ⟨x, hx, rfl⟩ := Option.map_eq_some_iff.1 he
    have hf := fun t ht => flat_get acCells 4 es (fun _ _ => rfl) i t ht x hx
    exact ⟨g, 0, rfl, x.1, h.2 x (List.mem_of_getElem? hx), rfl, by rw [Nat.zero_add]; exact hc _ _ (hf 0 (by decide)), by rw [Nat.zero_add]; exact hc _ _ (hf 1 (by decide)), by rw [Nat.zero_add]; exact hc _ _ (hf 2 (by decide)), by rw [Nat.zero_add]; exact hc _ _ (hf 3 (by decide))⟩
  · obtain rfl : es = [] := List.eq_nil_of_length_eq_zero (by omega)
    rcases h.1.2 with ⟨rfl, _⟩ | ⟨g, cap, cur, rfl, _, _, hc, hm, _⟩
    · exact Accs.nil w
    · exact ⟨_, cap, rfl, hc, hm, fun i e he => by cases he⟩

theorem acc_equal (s s' : ByteArray) (k k' m m' : Int) (b b' : Bool) (w : World) : (Op.equalIn 10000 93 (.agg #[.string s, .int .i64 k, .int .i64 m, .bool b]) (.agg #[.string s', .int .i64 k', .int .i64 m', .bool b'])).run Tryz.prog w = .ok (s.toList == s'.toList && (k == k' && (m == m' && b == b'))) w := by
  have u3 := Tryz.underlying3
  have u9 := Tryz.underlying9
  have u4 := Tryz.underlying4
  have a3 := Tryz.isAgg3
  have z3 := Tryz.sizeOf3
  have a9 := Tryz.isAgg9
  have z9 := Tryz.sizeOf9
  have a4 := Tryz.isAgg4
  have z4 := Tryz.sizeOf4
  have hS : Tryz.prog.underlying 93 = some (.struct (Tryz.prog.fieldsOf 93)) := by kernel_rfl
  have hp : Tryz.prog.stoodInHeld 93 = false := by kernel_rfl
  rw [show (10000 : Nat) = 9999 + 1 from rfl, run_equalIn_agg w 9999 93 _ _ hS hp]
  simp only [Program.fieldsOf, Tryz.underlying93]
  go_simp
  by_cases h1 : s.toList = s'.toList <;> by_cases h2 : k = k' <;> by_cases h3 : m = m' <;> by_cases h4 : b = b' <;> simp [h1, h2, h3, h4]
/-- Accounts, held against each other. -/
theorem acc_eq {v v' : Value} {a a' : Vw.Acc} (h : AcV v a) (h' : AcV v' a') : ∃ y : Bool, (y = true ↔ a = a') ∧ (∀ w, (binOp .eql 93 v v').run Tryz.prog w = .ok (.bool y) w) ∧ ∀ w, (binOp .neq 93 v v').run Tryz.prog w = .ok (.bool !y) w := by
  obtain ⟨s, _, h2, rfl⟩ := h
  obtain ⟨s', _, h2', rfl⟩ := h'
  refine ⟨s.toList == s'.toList && (a.sum == a'.sum && (a.cnt == a'.cnt && a.opn == a'.opn)), ?_, fun w => ?_, fun w => ?_⟩
  · rw [Bool.and_eq_true, Bool.and_eq_true, Bool.and_eq_true, beq_iff_eq, beq_iff_eq, beq_iff_eq, beq_iff_eq, ← nb_inj, h2, h2']
    obtain ⟨n, k, m, b⟩ := a
    obtain ⟨n', k', m', b'⟩ := a'
    simp
  · rw [run_eql_struct, acc_equal]
    rfl
  · rw [run_neq_struct, acc_equal]
    rfl

theorem field_acc2 (s : ByteArray) (k m : Int) (b : Bool) (w : World) : (Instr.field 93 (.agg #[.string s, .int .i64 k, .int .i64 m, .bool b]) 2).run Tryz.prog w = .ok (.int .i64 m) w := by
  have u := Tryz.underlying93
  have a3 := Tryz.isAgg3
  have z3 := Tryz.sizeOf3
  unfold Instr.field
  simp [run_underlying u, asAgg, part, a3, z3]
/-- The four cells of an account's variable. -/
structure VarA (w : World) (p : Nat) (a b c d : Value) : Prop where
  c0 : w.cell? ⟨p, 0, none⟩ = some a
  c1 : w.cell? ⟨p, 1, none⟩ = some b
  c2 : w.cell? ⟨p, 2, none⟩ = some c
  c3 : w.cell? ⟨p, 3, none⟩ = some d
  fr : ∀ i, w.frozen? ⟨p, i, none⟩ = false
theorem varA_new (w : World) (t : TypeId) (a b c d : Value) : VarA (w.alloc (.cells #[a, b, c, d] t)) w.heap.size a b c d := by
  have hr := World.rowIs_alloc w #[a, b, c, d] t (fun k => #[a, b, c, d].getD k a) (fun i hi => by simp only [Array.getElem?_eq_getElem hi, Array.getD, hi, dif_pos]; rfl)
  exact ⟨hr.cell (i := 0) (by simp), hr.cell (i := 1) (by simp), hr.cell (i := 2) (by simp), hr.cell (i := 3) (by simp), fun i => hr.frozen i⟩
theorem VarA.below {w w' : World} {p : Nat} {a b c d : Value} (h : VarA w p a b c d) (hb : Below w.heap.size w w') : VarA w' p a b c d := by
  have hp : p < w.heap.size := World.block_lt_of_cell? _ _ h.c0
  exact ⟨(hb.cell (p := ⟨p, 0, none⟩) hp).trans h.c0, (hb.cell (p := ⟨p, 1, none⟩) hp).trans h.c1, (hb.cell (p := ⟨p, 2, none⟩) hp).trans h.c2, (hb.cell (p := ⟨p, 3, none⟩) hp).trans h.c3, fun i => by
    rw [← h.fr i]
    exact World.frozen?_of_block (hb.block p hp)⟩

end Go.Proofs.YtmcaejooaaahdaaGreat
