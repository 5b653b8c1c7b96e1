/-
  Texts of the proof, joined: XEvs, XParse.
-/
import Derived.Test.YtmcaejooaaahdaaGreatZ18
import Derived.Test.YtmcaejooaaahdaaGreatZ15
import Derived.Laws.OwnMore
namespace Go.Proofs.YtmcaejooaaahdaaGreat
open Go.RowKit

/-- A row of m events that the call has made. -/
structure EvRow (w : World) (g m : Nat) (Q : Nat → EvC) : Prop where
  cs : ∀ i, i < m → w.cell? ⟨g, i * 3, none⟩ = some (.string (Q i).1) ∧ w.cell? ⟨g, i * 3 + 1, none⟩ = some (.int .i64 (Q i).2.1) ∧ w.cell? ⟨g, i * 3 + 2, none⟩ = some (.int .i64 (Q i).2.2)
  sz : ∀ i, i < m → (Q i).1.size ≤ 9223372036854775807
  fr : ∀ i, w.frozen? ⟨g, i, none⟩ = false
  lt : g < w.heap.size
theorem EvRow.off {S : Nat → Prop} {w w' : World} {g m : Nat} {Q : Nat → EvC} (h : EvRow w g m Q) (ho : Off S w w') (hS : ¬ S g) : EvRow w' g m Q := by
  have hb := ho.block g h.lt hS
  exact ⟨fun i hi => ⟨(World.cell?_of_block (w := w) (a := ⟨g, i * 3, none⟩) hb).trans (h.cs i hi).1, (World.cell?_of_block (w := w) (a := ⟨g, i * 3 + 1, none⟩) hb).trans (h.cs i hi).2.1, (World.cell?_of_block (w := w) (a := ⟨g, i * 3 + 2, none⟩) hb).trans (h.cs i hi).2.2⟩, h.sz, fun i => (World.frozen?_of_block (w := w) (a := ⟨g, i, none⟩) hb).trans (h.fr i), Nat.lt_of_lt_of_le h.lt ho.size⟩
theorem EvRow.set0 {w : World} {g m : Nat} {Q : Nat → EvC} (h : EvRow w g m Q) {k : Nat} (hk : k < m) (s : ByteArray) (hs : s.size ≤ 9223372036854775807) : EvRow (w.setCell ⟨g, k * 3, none⟩ (.string s)) g m (upd Q k (s, (Q k).2)) := by
  refine ⟨fun i hi => ?_, fun i hi => ?_, fun i => (World.frozen?_setCell _ _ _ _).trans (h.fr i), by rw [Deep.nblk_setCell]; exact h.lt⟩
  · obtain ⟨e0, e1, e2⟩ := h.cs i hi
    rw [World.cell?_setCell_other _ _ _ _ (addr_ne (show k * 3 ≠ i * 3 + 1 by omega)), World.cell?_setCell_other _ _ _ _ (addr_ne (show k * 3 ≠ i * 3 + 2 by omega))]
    by_cases e : i = k
    · subst e
      rw [World.cell?_setCell_same _ _ _ e0, upd_at]
      exact ⟨rfl, e1, e2⟩
    · rw [World.cell?_setCell_other _ _ _ _ (addr_ne (show k * 3 ≠ i * 3 by omega)), upd_ne _ _ e]
      exact ⟨e0, e1, e2⟩
  · by_cases e : i = k
    · rw [e, upd_at]
      exact hs
    · rw [upd_ne _ _ e]
      exact h.sz i hi
theorem EvRow.set1 {w : World} {g m : Nat} {Q : Nat → EvC} (h : EvRow w g m Q) {k : Nat} (hk : k < m) (n : Int) : EvRow (w.setCell ⟨g, k * 3 + 1, none⟩ (.int .i64 n)) g m (upd Q k ((Q k).1, n, (Q k).2.2)) := by
  refine ⟨fun i hi => ?_, fun i hi => ?_, fun i => (World.frozen?_setCell _ _ _ _).trans (h.fr i), by rw [Deep.nblk_setCell]; exact h.lt⟩
  · obtain ⟨e0, e1, e2⟩ := h.cs i hi
    rw [World.cell?_setCell_other _ _ _ _ (addr_ne (show k * 3 + 1 ≠ i * 3 by omega)), World.cell?_setCell_other _ _ _ _ (addr_ne (show k * 3 + 1 ≠ i * 3 + 2 by omega))]
    by_cases e : i = k
    · subst e
      rw [World.cell?_setCell_same _ _ _ e1, upd_at]
      exact ⟨e0, rfl, e2⟩
    · rw [World.cell?_setCell_other _ _ _ _ (addr_ne (show k * 3 + 1 ≠ i * 3 + 1 by omega)), upd_ne _ _ e]
      exact ⟨e0, e1, e2⟩
  · by_cases e : i = k
    · rw [e, upd_at]
      exact h.sz k hk
    · rw [upd_ne _ _ e]
      exact h.sz i hi
theorem EvRow.set2 {w : World} {g m : Nat} {Q : Nat → EvC} (h : EvRow w g m Q) {k : Nat} (hk : k < m) (n : Int) : EvRow (w.setCell ⟨g, k * 3 + 2, none⟩ (.int .i64 n)) g m (upd Q k ((Q k).1, (Q k).2.1, n)) := by
  refine ⟨fun i hi => ?_, fun i hi => ?_, fun i => (World.frozen?_setCell _ _ _ _).trans (h.fr i), by rw [Deep.nblk_setCell]; exact h.lt⟩
  · obtain ⟨e0, e1, e2⟩ := h.cs i hi
    rw [World.cell?_setCell_other _ _ _ _ (addr_ne (show k * 3 + 2 ≠ i * 3 by omega)), World.cell?_setCell_other _ _ _ _ (addr_ne (show k * 3 + 2 ≠ i * 3 + 1 by omega))]
    by_cases e : i = k
    · subst e
      rw [World.cell?_setCell_same _ _ _ e2, upd_at]
      exact ⟨e0, e1, rfl⟩
    · rw [World.cell?_setCell_other _ _ _ _ (addr_ne (show k * 3 + 2 ≠ i * 3 + 2 by omega)), upd_ne _ _ e]
      exact ⟨e0, e1, e2⟩
  · by_cases e : i = k
    · rw [e, upd_at]
      exact h.sz k hk
    · rw [upd_ne _ _ e]
      exact h.sz i hi
theorem made_evs (w : World) (m : Nat) (hm : m < 256) : ∃ w', (Instr.makeSlice 40 (.int .i64 (m : Int)) (.int .i64 (m : Int))).run Tryz.prog w = .ok (.slice (some ⟨w.heap.size, 0, none⟩) m m) w' ∧ EvRow w' w.heap.size m (fun _ => (ByteArray.empty, 0, 0)) ∧ Below w.heap.size w w' := by
  obtain ⟨i3, hi3, hh3⟩ := Option.map_eq_some_iff.1 Tryz.infoEvent
  simp only [Prod.mk.injEq] at hh3
  obtain ⟨hy0, hy1, hy2⟩ := hh3
  obtain ⟨w', hrun, hown, hg⟩ := run_make_full (P := Tryz.prog) w w.heap.size 40 83 i3 _ 3 Tryz.underlying40 hi3 hy0 hy1 .i64 .i64 m (by rw [hy2]; omega) (by unfold maxLen; omega) (Nat.le_refl _)
  have hc : ∀ j u, (madeCells (Value.agg #[.string ByteArray.empty, .int .i64 0, .int .i64 0]).cells (m * 3)).toList[j]? = some u → w'.cell? ⟨w.heap.size, j, none⟩ = some u := fun j u hj => by
    have := hown.cells (g := w.heap.size) rfl j u hj
    rw [WideShapes.add_plain, Nat.zero_add] at this
    exact this
  refine ⟨w', hrun, ⟨fun i hi => ⟨?_, ?_, ?_⟩, fun i _ => Nat.zero_le _, owns_frozen hown rfl, (hown.lt _ rfl).2⟩, ⟨hg.os, hg.tape, hg.output, hg.size, fun k hk => hg.block k hk (by simp)⟩⟩
  · exact hc _ _ (made_at _ _ _ (by omega) _ (by rw [show (Value.agg #[.string ByteArray.empty, .int .i64 0, .int .i64 0]).cells = #[.string ByteArray.empty, .int .i64 0, .int .i64 0] from rfl, show (i * 3) % (#[Value.string ByteArray.empty, .int .i64 0, .int .i64 0]).size = 0 from show i * 3 % 3 = 0 by omega]; rfl))
  · exact hc _ _ (made_at _ _ _ (by omega) _ (by rw [show (Value.agg #[.string ByteArray.empty, .int .i64 0, .int .i64 0]).cells = #[.string ByteArray.empty, .int .i64 0, .int .i64 0] from rfl, show (i * 3 + 1) % (#[Value.string ByteArray.empty, .int .i64 0, .int .i64 0]).size = 1 from show (i * 3 + 1) % 3 = 1 by omega]; rfl))
  · exact hc _ _ (made_at _ _ _ (by omega) _ (by rw [show (Value.agg #[.string ByteArray.empty, .int .i64 0, .int .i64 0]).cells = #[.string ByteArray.empty, .int .i64 0, .int .i64 0] from rfl, show (i * 3 + 2) % (#[Value.string ByteArray.empty, .int .i64 0, .int .i64 0]).size = 2 from show (i * 3 + 2) % 3 = 2 by omega]; rfl))
theorem EvRow.evs {w : World} {g m : Nat} {Q : Nat → EvC} (h : EvRow w g m Q) (hm : m < 256) : Evs w (.slice (some ⟨g, 0, none⟩) m m) ((List.range m).map fun i => evOf (Q i)) := by
  refine ⟨some ⟨g, 0, none⟩, m, by simp, by simp, by unfold maxLen; omega, fun i e he => ⟨g, 0, rfl, ?_⟩⟩
  have hi : i < m := by
    have := (List.getElem?_eq_some_iff.1 he).1
    simpa using this
  simp [hi] at he
  subst he
  obtain ⟨e0, e1, e2⟩ := h.cs i hi
  rw [Nat.zero_add]
  exact ⟨(Q i).1, h.sz i hi, rfl, e0, e1, e2⟩

theorem strL_nb {t : List Nat} (h : Evt.Bytes t) : nb (strL t) = t := by
  unfold strL
  rw [nb_strB]
  · apply List.ext_getElem?
    intro i
    by_cases hi : i < t.length
    · rw [bl_get _ hi]
      simp [List.getD, hi]
    · rw [List.getElem?_eq_none (by rw [bl_len]; omega), List.getElem?_eq_none (by omega)]
  · intro k
    show t.getD k 0 < 256
    by_cases hk : k < t.length
    · have : t.getD k 0 ∈ t := by simp [List.getD, hk]
      exact h _ this
    · simp [List.getD, hk]
theorem convL {w : World} {v : Value} {t : List Nat} (h : BytL w v t) : (convert 59 9 v).run Tryz.prog w = .ok (.string (strL t)) w := conv_any h.byts

set_option maxHeartbeats 1000000 in
theorem events_any (W0 : World) (p : Nat) (st : Evt.St) (w : World) (h : Rd W0 w p st) :
    Calls Tryz.prog 146 #[.pointer (some ⟨p, 0, none⟩)] w fun e w' => ∃ g m, e = .returned (.slice (some ⟨g, 0, none⟩) m m) ∧ w.heap.size ≤ g ∧ Evs w' (.slice (some ⟨g, 0, none⟩) m m) (Evt.evlS st).1 ∧ Rd W0 w' p (Evt.evlS st).2 ∧ Off (fun k => k = p) w w' := by
  have H1 := number_any W0 p 1 st w h (by omega)
  have hm : (Evt.numS 1 st).1 < 256 := Evt.numS_lt 1 h.bytes
  unfold Evt.evlS
  generalize (Evt.numS 1 st).1 = m at H1 hm ⊢
  generalize (Evt.numS 1 st).2 = st1 at H1 ⊢
  clear h
  go_enter Tryz.func146, Tryz.ntmps146
  go_wp2_with fail
  refine H1.mono ?_
  rintro e w1 ⟨rfl, R1, O1⟩
  obtain ⟨w2, hmk, E2, b2⟩ := made_evs w1 m hm
  have O2 : Off (fun k => k = p) w w2 := O1.trans (Off.of_below b2)
  have R2 := R1.off (S := fun _ => False) (Off.of_below b2) (fun h => h) (fun k h => h.elim)
  have hg1 : w.heap.size ≤ w1.heap.size := O1.size
  have hpg : w1.heap.size ≠ p := fun e => by have := R1.lt; omega
  have hW1 : W0.heap.size ≤ w1.heap.size := R1.bel.size
  generalize w1.heap.size = g at hmk E2 hg1 hpg hW1
  clear H1 R1 O1 b2
  go_wp2_with fail
  clear hmk
  go_loopw [10] (fun x wr => ∃ (k : Nat) (Q : Nat → EvC), k ≤ m ∧ x = .int .i64 k ∧ EvRow wr g m Q ∧ Hid ((List.range k).map (fun i => evOf (Q i)) = (Evt.evsS k st1).1) ∧ Rd W0 wr p (Evt.evsS k st1).2 ∧ Off (fun k => k = p) w wr) (fun x _ => m - (intOf x).toNat)
  case atStart => exact ⟨0, _, Nat.zero_le _, rfl, E2, rfl, R2, O2⟩
  case round =>
    obtain ⟨k, Q, hk, rfl, ER, HS, RR, OR⟩ := hrel
    by_cases hlt : k < m
    · have hlt' : (k : Int) < (m : Int) := by omega
      have HN : Hid (Evt.evsS (k + 1) st1 = ((Evt.evsS k st1).1 ++ [(Evt.evS (Evt.evsS k st1).2).1], (Evt.evS (Evt.evsS k st1).2).2)) := Evt.evsS_succ k st1
      generalize (Evt.evsS k st1).2 = s0 at RR HN
      have K1 := number_any W0 p 1 s0 wr RR (by omega)
      have hn1 : (Evt.numS 1 s0).1 < 256 := Evt.numS_lt 1 RR.bytes
      have HE : Hid (Evt.evS s0 = (⟨(Evt.takS (Evt.numS 1 s0).1 (Evt.numS 1 s0).2).1, ((Evt.numS 1 (Evt.takS (Evt.numS 1 s0).1 (Evt.numS 1 s0).2).2).1 : Nat), ((Evt.numS 3 (Evt.numS 1 (Evt.takS (Evt.numS 1 s0).1 (Evt.numS 1 s0).2).2).2).1 : Nat)⟩, (Evt.numS 3 (Evt.numS 1 (Evt.takS (Evt.numS 1 s0).1 (Evt.numS 1 s0).2).2).2).2)) := rfl
      generalize (Evt.numS 1 s0).1 = a1 at K1 hn1 HE
      generalize (Evt.numS 1 s0).2 = s1 at K1 HE
      clear RR
      go_wp2_with fail
      refine K1.mono ?_
      rintro e w3 ⟨rfl, R3, O3⟩
      have E3 := ER.off O3 hpg
      have O3 := OR.trans O3
      have K2 := next_any W0 p a1 s1 w3 R3 (by omega)
      have ht := Evt.takS_len a1 s1
      generalize (Evt.takS a1 s1).1 = t at K2 HE ht
      generalize (Evt.takS a1 s1).2 = s2 at K2 HE
      clear K1 ER OR R3
      go_wp2_with fail
      refine K2.mono ?_
      rintro e w4 ⟨v4, rfl, T4, R4, O4⟩
      have E4 := E3.off O4 hpg
      have O4 := O3.trans O4
      have hcv := convL (T4.below R4.bel)
      have HST : Hid (nb (strL t) = t) := strL_nb T4.1
      have hss : (strL t).size ≤ 9223372036854775807 := by
        rw [← nb_len, HST.out]
        omega
      obtain ⟨d0, d1, d2⟩ := E4.cs k hlt
      have f0 := E4.fr (k * 3)
      have f1 := E4.fr (k * 3 + 1)
      have f2 := E4.fr (k * 3 + 2)
      generalize strL t = S at hcv HST hss
      have E5 := E4.set0 hlt S hss
      have R5 := R4.off (off_set w4 ⟨g, k * 3, none⟩ (.string S)) (fun e => hpg e.symm) (fun j e => by rw [e]; exact hW1)
      have O5 : Off (fun k => k = p) w (w4.setCell ⟨g, k * 3, none⟩ (.string S)) := O4.past (off_set w4 ⟨g, k * 3, none⟩ (.string S)) (fun y e hl => by rw [e] at hl; exact absurd hl (by show ¬ g < _; omega))
      obtain ⟨Q1, HQ1⟩ : ∃ Q1, Hid (Q1 = upd Q k (S, (Q k).2)) := ⟨_, rfl⟩
      rw [← HQ1.out] at E5
      have K3 := number_any W0 p 1 s2 _ R5 (by omega)
      generalize (Evt.numS 1 s2).1 = a3 at K3 HE
      generalize (Evt.numS 1 s2).2 = s3 at K3 HE
      clear K2 E3 O3 T4 E4 R4 O4 R5
      go_wp2_with fail
      refine K3.mono ?_
      rintro e w5 ⟨rfl, R5, O6⟩
      have E6 := E5.off O6 hpg
      have O6 := O5.trans O6
      obtain ⟨d0, d1, d2⟩ := E6.cs k hlt
      have f0 := E6.fr (k * 3)
      have f1 := E6.fr (k * 3 + 1)
      have f2 := E6.fr (k * 3 + 2)
      have E7 := E6.set1 hlt (a3 : Int)
      have R7 := R5.off (off_set w5 ⟨g, k * 3 + 1, none⟩ (.int .i64 (a3 : Int))) (fun e => hpg e.symm) (fun j e => by rw [e]; exact hW1)
      have O7 : Off (fun k => k = p) w (w5.setCell ⟨g, k * 3 + 1, none⟩ (.int .i64 (a3 : Int))) := O6.past (off_set w5 ⟨g, k * 3 + 1, none⟩ (.int .i64 (a3 : Int))) (fun y e hl => by rw [e] at hl; exact absurd hl (by show ¬ g < _; omega))
      obtain ⟨Q2, HQ2⟩ : ∃ Q2, Hid (Q2 = upd Q1 k ((Q1 k).1, (a3 : Int), (Q1 k).2.2)) := ⟨_, rfl⟩
      rw [← HQ2.out] at E7
      have K4 := number_any W0 p 3 s3 _ R7 (by omega)
      generalize (Evt.numS 3 s3).1 = a4 at K4 HE
      generalize (Evt.numS 3 s3).2 = s4 at K4 HE
      clear K3 E5 O5 E6 R5 O6 R7 hcv
      go_wp2_with fail
      refine K4.mono ?_
      rintro e w6 ⟨rfl, R8, O8⟩
      have E8 := E7.off O8 hpg
      have O8 := O7.trans O8
      obtain ⟨d0, d1, d2⟩ := E8.cs k hlt
      have f0 := E8.fr (k * 3)
      have f1 := E8.fr (k * 3 + 1)
      have f2 := E8.fr (k * 3 + 2)
      have E9 := E8.set2 hlt (a4 : Int)
      have R9 : Hid (Rd W0 (w6.setCell ⟨g, k * 3 + 2, none⟩ (.int .i64 (a4 : Int))) p s4) := R8.off (off_set w6 ⟨g, k * 3 + 2, none⟩ (.int .i64 (a4 : Int))) (fun e => hpg e.symm) (fun j e => by rw [e]; exact hW1)
      have O9 : Hid (Off (fun k => k = p) w (w6.setCell ⟨g, k * 3 + 2, none⟩ (.int .i64 (a4 : Int)))) := O8.past (off_set w6 ⟨g, k * 3 + 2, none⟩ (.int .i64 (a4 : Int))) (fun y e hl => by rw [e] at hl; exact absurd hl (by show ¬ g < _; omega))
      obtain ⟨Q3, HQ3⟩ : ∃ Q3, Hid (Q3 = upd Q2 k ((Q2 k).1, (Q2 k).2.1, (a4 : Int))) := ⟨_, rfl⟩
      rw [← HQ3.out] at E9
      have HZ : Hid (EvRow (w6.setCell ⟨g, k * 3 + 2, none⟩ (.int .i64 (a4 : Int))) g m Q3) := E9
      have HF : Hid ((List.range (k + 1)).map (fun i => evOf (Q3 i)) = (Evt.evsS (k + 1) st1).1) := by
        show (List.range (k + 1)).map (fun i => evOf (Q3 i)) = (Evt.evsS (k + 1) st1).1
        rw [HN.out, HE.out, List.range_succ, List.map_append, ← HS.out]
        congr 1
        · refine List.map_congr_left (fun i hi => ?_)
          have hi : i ≠ k := by have := List.mem_range.1 hi; omega
          rw [HQ3.out, upd_ne _ _ hi, HQ2.out, upd_ne _ _ hi, HQ1.out, upd_ne _ _ hi]
        · show [evOf (Q3 k)] = _
          rw [HQ3.out, upd_at, HQ2.out, upd_at, HQ1.out, upd_at]
          show [(⟨nb S, (a3 : Int), (a4 : Int)⟩ : Evt.Ev)] = _
          rw [HST.out]
      have HRR : Hid (Rd W0 (w6.setCell ⟨g, k * 3 + 2, none⟩ (.int .i64 (a4 : Int))) p (Evt.evsS (k + 1) st1).2) := by
        show Rd W0 _ p (Evt.evsS (k + 1) st1).2
        rw [HN.out, HE.out]
        exact R9.out
      clear K4 E7 O7 E8 O8 R8 E9
      go_wp2_with fail
      exact ⟨⟨k + 1, Q3, by omega, by go_num, HZ.out, HF.out, HRR.out, O9.out⟩, by simp [intOf]; omega⟩
    · obtain rfl : k = m := by omega
      have HE : Hid (Evs wr (.slice (some ⟨g, 0, none⟩) k k) (Evt.evsS k st1).1) := by
        have := ER.evs hm
        rw [HS.out] at this
        exact this
      clear ER
      go_wp2_with fail
      go_ret
      exact ⟨g, k, rfl, hg1, HE.out, RR, OR⟩

end Go.Proofs.YtmcaejooaaahdaaGreat

namespace Go.Proofs.YtmcaejooaaahdaaGreat
open Go.RowKit

theorem evs_off {S : Nat → Prop} {w w' : World} {g m C : Nat} {es : List Evt.Ev} (h : Evs w (.slice (some ⟨g, 0, none⟩) m C) es) (ho : Off S w w') (hS : ¬ S g) : Evs w' (.slice (some ⟨g, 0, none⟩) m C) es := by
  obtain ⟨A, cap, hv, h1, h2, hc⟩ := h
  cases hv
  refine ⟨_, _, rfl, h1, h2, fun i e he => ?_⟩
  obtain ⟨b, o, e1, s, x1, x2, c0, c1, c2⟩ := hc i e he
  cases e1
  have hb := ho.block g (World.block_lt_of_cell? _ _ c0) hS
  exact ⟨g, 0, rfl, s, x1, x2, (World.cell?_of_block (w := w) (a := ⟨g, 0 + i * 3, none⟩) hb).trans c0, (World.cell?_of_block (w := w) (a := ⟨g, 0 + i * 3 + 1, none⟩) hb).trans c1, (World.cell?_of_block (w := w) (a := ⟨g, 0 + i * 3 + 2, none⟩) hb).trans c2⟩
/-- Events in a block from N on. -/
def EvsM (w : World) (N : Nat) (v : Value) (es : List Evt.Ev) : Prop := ∃ g m, v = .slice (some ⟨g, 0, none⟩) m m ∧ N ≤ g ∧ Evs w v es
theorem EvsM.off {S : Nat → Prop} {w w' : World} {N : Nat} {v : Value} {es : List Evt.Ev} (h : EvsM w N v es) (ho : Off S w w') (hS : ∀ k, S k → k < N) : EvsM w' N v es := by
  obtain ⟨g, m, rfl, hN, he⟩ := h
  exact ⟨g, m, rfl, hN, evs_off he ho (fun k => by have := hS g k; omega)⟩

/-- Batches that lie in blocks from M on. -/
def BatsM (w : World) (M : Nat) (v : Value) (l : List Evt.Bat) : Prop := ∃ A cap, v = .slice A l.length cap ∧ l.length ≤ cap ∧ cap ≤ maxLen ∧ ∀ i x, l[i]? = some x → ∃ b o, A = some ⟨b, o, none⟩ ∧ M ≤ b ∧ ∃ ve, w.cell? ⟨b, o + i * 2, none⟩ = some (.int .i64 x.cmd) ∧ w.cell? ⟨b, o + i * 2 + 1, none⟩ = some ve ∧ Evs w ve x.evs ∧ ∀ g, ve.ownBlock = some g → M ≤ g
theorem BatsM.bats {w : World} {M : Nat} {v : Value} {l : List Evt.Bat} (h : BatsM w M v l) : Bats w v l := by
  obtain ⟨A, cap, hv, h1, h2, h3⟩ := h
  refine ⟨A, cap, hv, h1, h2, fun i x hx => ?_⟩
  obtain ⟨b, o, e1, _, ve, c0, c1, he, _⟩ := h3 i x hx
  exact ⟨b, o, e1, ve, c0, c1, he⟩
theorem BatsM.below {w w' : World} {M : Nat} {v : Value} {l : List Evt.Bat} (h : BatsM w M v l) (hb : Below w.heap.size w w') : BatsM w' M v l := by
  obtain ⟨A, cap, hv, h1, h2, h3⟩ := h
  refine ⟨A, cap, hv, h1, h2, fun i x hx => ?_⟩
  obtain ⟨b, o, e1, e2, ve, c0, c1, he, e3⟩ := h3 i x hx
  have hp : b < w.heap.size := World.block_lt_of_cell? _ _ c0
  exact ⟨b, o, e1, e2, ve, (hb.cell (p := ⟨b, o + i * 2, none⟩) hp).trans c0, (hb.cell (p := ⟨b, o + i * 2 + 1, none⟩) hp).trans c1, he.below hb, e3⟩
theorem BatsM.lower {w : World} {M K : Nat} {v : Value} {l : List Evt.Bat} (h : BatsM w M v l) (hK : K ≤ M) : BatsM w K v l := by
  obtain ⟨A, cap, hv, h1, h2, h3⟩ := h
  refine ⟨A, cap, hv, h1, h2, fun i x hx => ?_⟩
  obtain ⟨b, o, e1, e2, ve, c0, c1, he, e3⟩ := h3 i x hx
  exact ⟨b, o, e1, Nat.le_trans hK e2, ve, c0, c1, he, fun g hg => Nat.le_trans hK (e3 g hg)⟩
theorem batsM_none (w : World) (M : Nat) : BatsM w M (.slice none 0 0) [] := ⟨none, 0, rfl, Nat.le_refl _, Nat.zero_le _, fun i e he => by cases he⟩

/-- A row of m batches that the call has made. -/
structure BatRow (w : World) (g m : Nat) (Q : Nat → Int × Value) : Prop where
  cs : ∀ i, i < m → w.cell? ⟨g, i * 2, none⟩ = some (.int .i64 (Q i).1) ∧ w.cell? ⟨g, i * 2 + 1, none⟩ = some (Q i).2
  fr : ∀ i, w.frozen? ⟨g, i, none⟩ = false
  lt : g < w.heap.size
theorem BatRow.off {S : Nat → Prop} {w w' : World} {g m : Nat} {Q : Nat → Int × Value} (h : BatRow w g m Q) (ho : Off S w w') (hS : ¬ S g) : BatRow w' g m Q := by
  have hb := ho.block g h.lt hS
  exact ⟨fun i hi => ⟨(World.cell?_of_block (w := w) (a := ⟨g, i * 2, none⟩) hb).trans (h.cs i hi).1, (World.cell?_of_block (w := w) (a := ⟨g, i * 2 + 1, none⟩) hb).trans (h.cs i hi).2⟩, fun i => (World.frozen?_of_block (w := w) (a := ⟨g, i, none⟩) hb).trans (h.fr i), Nat.lt_of_lt_of_le h.lt ho.size⟩
theorem BatRow.set0 {w : World} {g m : Nat} {Q : Nat → Int × Value} (h : BatRow w g m Q) {k : Nat} (n : Int) : BatRow (w.setCell ⟨g, k * 2, none⟩ (.int .i64 n)) g m (upd Q k (n, (Q k).2)) := by
  refine ⟨fun i hi => ?_, fun i => (World.frozen?_setCell _ _ _ _).trans (h.fr i), by rw [Deep.nblk_setCell]; exact h.lt⟩
  obtain ⟨e0, e1⟩ := h.cs i hi
  rw [World.cell?_setCell_other _ _ _ _ (addr_ne (show k * 2 ≠ i * 2 + 1 by omega))]
  by_cases e : i = k
  · subst e
    rw [World.cell?_setCell_same _ _ _ e0, upd_at]
    exact ⟨rfl, e1⟩
  · rw [World.cell?_setCell_other _ _ _ _ (addr_ne (show k * 2 ≠ i * 2 by omega)), upd_ne _ _ e]
    exact ⟨e0, e1⟩
theorem BatRow.set1 {w : World} {g m : Nat} {Q : Nat → Int × Value} (h : BatRow w g m Q) {k : Nat} (v : Value) : BatRow (w.setCell ⟨g, k * 2 + 1, none⟩ v) g m (upd Q k ((Q k).1, v)) := by
  refine ⟨fun i hi => ?_, fun i => (World.frozen?_setCell _ _ _ _).trans (h.fr i), by rw [Deep.nblk_setCell]; exact h.lt⟩
  obtain ⟨e0, e1⟩ := h.cs i hi
  rw [World.cell?_setCell_other _ _ _ _ (addr_ne (show k * 2 + 1 ≠ i * 2 by omega))]
  by_cases e : i = k
  · subst e
    rw [World.cell?_setCell_same _ _ _ e1, upd_at]
    exact ⟨e0, rfl⟩
  · rw [World.cell?_setCell_other _ _ _ _ (addr_ne (show k * 2 + 1 ≠ i * 2 + 1 by omega)), upd_ne _ _ e]
    exact ⟨e0, e1⟩
theorem made_bats (w : World) (m : Nat) (hm : m < 256) : ∃ w', (Instr.makeSlice 26 (.int .i64 (m : Int)) (.int .i64 (m : Int))).run Tryz.prog w = .ok (.slice (some ⟨w.heap.size, 0, none⟩) m m) w' ∧ BatRow w' w.heap.size m (fun _ => (0, .slice none 0 0)) ∧ Below w.heap.size w w' := by
  obtain ⟨i3, hi3, hh3⟩ := Option.map_eq_some_iff.1 Tryz.infoBatch
  simp only [Prod.mk.injEq] at hh3
  obtain ⟨hy0, hy1, hy2⟩ := hh3
  obtain ⟨w', hrun, hown, hg⟩ := run_make_full (P := Tryz.prog) w w.heap.size 26 47 i3 _ 2 Tryz.underlying26 hi3 hy0 hy1 .i64 .i64 m (by rw [hy2]; omega) (by unfold maxLen; omega) (Nat.le_refl _)
  have hc : ∀ j u, (madeCells (Value.agg #[.int .i64 0, .slice none 0 0]).cells (m * 2)).toList[j]? = some u → w'.cell? ⟨w.heap.size, j, none⟩ = some u := fun j u hj => by
    have := hown.cells (g := w.heap.size) rfl j u hj
    rw [WideShapes.add_plain, Nat.zero_add] at this
    exact this
  refine ⟨w', hrun, ⟨fun i hi => ⟨?_, ?_⟩, owns_frozen hown rfl, (hown.lt _ rfl).2⟩, ⟨hg.os, hg.tape, hg.output, hg.size, fun k hk => hg.block k hk (by simp)⟩⟩
  · exact hc _ _ (made_at _ _ _ (by omega) _ (by rw [show (Value.agg #[.int .i64 0, .slice none 0 0]).cells = #[.int .i64 0, .slice none 0 0] from rfl, show (i * 2) % (#[Value.int .i64 0, .slice none 0 0]).size = 0 from show i * 2 % 2 = 0 by omega]; rfl))
  · exact hc _ _ (made_at _ _ _ (by omega) _ (by rw [show (Value.agg #[.int .i64 0, .slice none 0 0]).cells = #[.int .i64 0, .slice none 0 0] from rfl, show (i * 2 + 1) % (#[Value.int .i64 0, .slice none 0 0]).size = 1 from show (i * 2 + 1) % 2 = 1 by omega]; rfl))
theorem BatRow.bats {w : World} {g m N : Nat} {Q : Nat → Int × Value} {l : List Evt.Bat} (h : BatRow w g m Q) (hm : m < 256) (hl : l.length = m) (hgN : g ≤ N) (hs : ∀ (i : Nat) (x : Evt.Bat), l[i]? = some x → x.cmd = (Q i).1 ∧ EvsM w N (Q i).2 x.evs) : BatsM w g (.slice (some ⟨g, 0, none⟩) m m) l := by
  refine ⟨some ⟨g, 0, none⟩, m, by rw [hl], by omega, by unfold maxLen; omega, fun i x hx => ⟨g, 0, rfl, Nat.le_refl _, ?_⟩⟩
  have hi : i < m := by
    have := (List.getElem?_eq_some_iff.1 hx).1
    omega
  obtain ⟨e0, e1⟩ := h.cs i hi
  obtain ⟨h1, g', m', hq, hN, he⟩ := hs i x hx
  rw [Nat.zero_add]
  refine ⟨(Q i).2, by rw [h1]; exact e0, e1, he, fun b hb => ?_⟩
  rw [hq] at hb
  cases hb
  exact Nat.le_trans hgN hN

set_option maxHeartbeats 1000000 in
theorem batches_any (W0 : World) (p : Nat) (st : Evt.St) (w : World) (h : Rd W0 w p st) :
    Calls Tryz.prog 119 #[.pointer (some ⟨p, 0, none⟩)] w fun e w' => ∃ g m, e = .returned (.slice (some ⟨g, 0, none⟩) m m) ∧ BatsM w' w.heap.size (.slice (some ⟨g, 0, none⟩) m m) (Evt.batlS st).1 ∧ Rd W0 w' p (Evt.batlS st).2 ∧ Off (fun k => k = p) w w' := by
  have H1 := number_any W0 p 1 st w h (by omega)
  have hm : (Evt.numS 1 st).1 < 256 := Evt.numS_lt 1 h.bytes
  unfold Evt.batlS
  generalize (Evt.numS 1 st).1 = m at H1 hm ⊢
  generalize (Evt.numS 1 st).2 = st1 at H1 ⊢
  clear h
  go_enter Tryz.func119, Tryz.ntmps119
  go_wp2_with fail
  refine H1.mono ?_
  rintro e w1 ⟨rfl, R1, O1⟩
  obtain ⟨w2, hmk, E2, b2⟩ := made_bats w1 m hm
  have O2 : Off (fun k => k = p) w w2 := O1.trans (Off.of_below b2)
  have R2 := R1.off (S := fun _ => False) (Off.of_below b2) (fun h => h) (fun k h => h.elim)
  have hg1 : w.heap.size ≤ w1.heap.size := O1.size
  have hpl : p < w1.heap.size := R1.lt
  have hpg : w1.heap.size ≠ p := fun e => by omega
  have hW1 : W0.heap.size ≤ w1.heap.size := R1.bel.size
  generalize w1.heap.size = g at hmk E2 hg1 hpg hpl hW1
  clear H1 R1 O1 b2
  go_wp2_with fail
  clear hmk
  go_loopw [10] (fun x wr => ∃ (k : Nat) (Q : Nat → Int × Value), k ≤ m ∧ x = .int .i64 k ∧ BatRow wr g m Q ∧ Hid (∀ (i : Nat) (x : Evt.Bat), (Evt.batsS k st1).1[i]? = some x → x.cmd = (Q i).1 ∧ EvsM wr (g + 1) (Q i).2 x.evs) ∧ Rd W0 wr p (Evt.batsS k st1).2 ∧ Off (fun k => k = p) w wr) (fun x _ => m - (intOf x).toNat)
  case atStart => exact ⟨0, _, Nat.zero_le _, rfl, E2, (fun i x hx => by cases hx), R2, O2⟩
  case round =>
    obtain ⟨k, Q, hk, rfl, ER, HS, RR, OR⟩ := hrel
    by_cases hlt : k < m
    · have hlt' : (k : Int) < (m : Int) := by omega
      have HN : Hid (Evt.batsS (k + 1) st1 = ((Evt.batsS k st1).1 ++ [(Evt.batS (Evt.batsS k st1).2).1], (Evt.batS (Evt.batsS k st1).2).2)) := Evt.batsS_succ k st1
      have HLN : Hid ((Evt.batsS k st1).1.length = k) := Evt.batsS_len k st1
      generalize (Evt.batsS k st1).1 = L at HS HN HLN
      generalize (Evt.batsS k st1).2 = s0 at RR HN
      have K1 := number_any W0 p 3 s0 wr RR (by omega)
      have HE : Hid (Evt.batS s0 = (⟨((Evt.numS 3 s0).1 : Nat), (Evt.evlS (Evt.numS 3 s0).2).1⟩, (Evt.evlS (Evt.numS 3 s0).2).2)) := rfl
      generalize (Evt.numS 3 s0).1 = a1 at K1 HE
      generalize (Evt.numS 3 s0).2 = s1 at K1 HE
      clear RR
      go_wp2_with fail
      refine K1.mono ?_
      rintro e w3 ⟨rfl, R3, O3⟩
      have E3 := ER.off O3 hpg
      have HS3 : Hid (∀ (i : Nat) (x : Evt.Bat), L[i]? = some x → x.cmd = (Q i).1 ∧ EvsM w3 (g + 1) (Q i).2 x.evs) := fun i x hx => ⟨(HS.out i x hx).1, (HS.out i x hx).2.off O3 (fun j e => by omega)⟩
      have O3 := OR.trans O3
      obtain ⟨d0, d1⟩ := E3.cs k hlt
      have f0 := E3.fr (k * 2)
      have f1 := E3.fr (k * 2 + 1)
      have E5 := E3.set0 (k := k) (a1 : Int)
      have R5 := R3.off (off_set w3 ⟨g, k * 2, none⟩ (.int .i64 (a1 : Int))) (fun e => hpg e.symm) (fun j e => by rw [e]; exact hW1)
      have HS5 : Hid (∀ (i : Nat) (x : Evt.Bat), L[i]? = some x → x.cmd = (Q i).1 ∧ EvsM (w3.setCell ⟨g, k * 2, none⟩ (.int .i64 (a1 : Int))) (g + 1) (Q i).2 x.evs) := fun i x hx => ⟨(HS3.out i x hx).1, (HS3.out i x hx).2.off (off_set w3 ⟨g, k * 2, none⟩ (.int .i64 (a1 : Int))) (fun j e => by rw [e]; exact Nat.lt_succ_self g)⟩
      have O5 : Off (fun k => k = p) w (w3.setCell ⟨g, k * 2, none⟩ (.int .i64 (a1 : Int))) := O3.past (off_set w3 ⟨g, k * 2, none⟩ (.int .i64 (a1 : Int))) (fun y e hl => by rw [e] at hl; exact absurd hl (by show ¬ g < _; omega))
      have hl5 : g + 1 ≤ (w3.setCell ⟨g, k * 2, none⟩ (.int .i64 (a1 : Int))).heap.size := E5.lt
      obtain ⟨Q1, HQ1⟩ : ∃ Q1, Hid (Q1 = upd Q k ((a1 : Int), (Q k).2)) := ⟨_, rfl⟩
      rw [← HQ1.out] at E5
      have K3 := events_any W0 p s1 _ R5
      generalize (Evt.evlS s1).1 = es at K3 HE
      generalize (Evt.evlS s1).2 = s3 at K3 HE
      clear K1 ER OR R3 E3 HS HS3 O3 R5
      go_wp2_with fail
      refine K3.mono ?_
      rintro e w5 ⟨g5, m5, rfl, hg5, V5, R6, O6⟩
      have E6 := E5.off O6 hpg
      have HS6 : Hid (∀ (i : Nat) (x : Evt.Bat), L[i]? = some x → x.cmd = (Q i).1 ∧ EvsM w5 (g + 1) (Q i).2 x.evs) := fun i x hx => ⟨(HS5.out i x hx).1, (HS5.out i x hx).2.off O6 (fun j e => by omega)⟩
      have O6 := O5.trans O6
      obtain ⟨d0, d1⟩ := E6.cs k hlt
      have f0 := E6.fr (k * 2)
      have f1 := E6.fr (k * 2 + 1)
      have E7 := E6.set1 (k := k) (.slice (some ⟨g5, 0, none⟩) m5 m5)
      have R7 : Hid (Rd W0 (w5.setCell ⟨g, k * 2 + 1, none⟩ (.slice (some ⟨g5, 0, none⟩) m5 m5)) p s3) := R6.off (off_set w5 ⟨g, k * 2 + 1, none⟩ (.slice (some ⟨g5, 0, none⟩) m5 m5)) (fun e => hpg e.symm) (fun j e => by rw [e]; exact hW1)
      have O7 : Hid (Off (fun k => k = p) w (w5.setCell ⟨g, k * 2 + 1, none⟩ (.slice (some ⟨g5, 0, none⟩) m5 m5))) := O6.past (off_set w5 ⟨g, k * 2 + 1, none⟩ (.slice (some ⟨g5, 0, none⟩) m5 m5)) (fun y e hl => by rw [e] at hl; exact absurd hl (by show ¬ g < _; omega))
      obtain ⟨Q2, HQ2⟩ : ∃ Q2, Hid (Q2 = upd Q1 k ((Q1 k).1, .slice (some ⟨g5, 0, none⟩) m5 m5)) := ⟨_, rfl⟩
      rw [← HQ2.out] at E7
      have HZ : Hid (BatRow (w5.setCell ⟨g, k * 2 + 1, none⟩ (.slice (some ⟨g5, 0, none⟩) m5 m5)) g m Q2) := E7
      have HF : Hid (∀ (i : Nat) (x : Evt.Bat), (Evt.batsS (k + 1) st1).1[i]? = some x → x.cmd = (Q2 i).1 ∧ EvsM (w5.setCell ⟨g, k * 2 + 1, none⟩ (.slice (some ⟨g5, 0, none⟩) m5 m5)) (g + 1) (Q2 i).2 x.evs) := by
        show ∀ (i : Nat) (x : Evt.Bat), (Evt.batsS (k + 1) st1).1[i]? = some x → _
        rw [HN.out, HE.out]
        intro i x hx
        by_cases hi : i < L.length
        · have hi2 : i ≠ k := by have := HLN.out; omega
          have hx : (L ++ [_])[i]? = some x := hx
          rw [List.getElem?_append_left hi] at hx
          rw [HQ2.out, upd_ne _ _ hi2, HQ1.out, upd_ne _ _ hi2]
          exact ⟨(HS6.out i x hx).1, (HS6.out i x hx).2.off (off_set w5 ⟨g, k * 2 + 1, none⟩ (.slice (some ⟨g5, 0, none⟩) m5 m5)) (fun j e => by rw [e]; exact Nat.lt_succ_self g)⟩
        · have hx : (L ++ [(⟨(a1 : Int), es⟩ : Evt.Bat)])[i]? = some x := hx
          rw [List.getElem?_append_right (by omega)] at hx
          obtain rfl : i = k := by
            have h1 := (List.getElem?_eq_some_iff.1 hx).1
            have h2 := HLN.out
            simp at h1
            omega
          rw [HLN.out, Nat.sub_self] at hx
          cases hx
          rw [HQ2.out, upd_at, HQ1.out, upd_at]
          exact ⟨rfl, g5, m5, rfl, by omega, evs_off V5 (off_set w5 ⟨g, i * 2 + 1, none⟩ (.slice (some ⟨g5, 0, none⟩) m5 m5)) (fun e => by have e : g5 = g := e; omega)⟩
      have HRR : Hid (Rd W0 (w5.setCell ⟨g, k * 2 + 1, none⟩ (.slice (some ⟨g5, 0, none⟩) m5 m5)) p (Evt.batsS (k + 1) st1).2) := by
        show Rd W0 _ p (Evt.batsS (k + 1) st1).2
        rw [HN.out, HE.out]
        exact R7.out
      clear K3 E5 O5 E6 R6 O6 V5 HS5 HS6 E7
      go_wp2_with fail
      exact ⟨⟨k + 1, Q2, by omega, by go_num, HZ.out, HF.out, HRR.out, O7.out⟩, by simp [intOf]; omega⟩
    · obtain rfl : k = m := by omega
      have HE : Hid (BatsM wr w.heap.size (.slice (some ⟨g, 0, none⟩) k k) (Evt.batsS k st1).1) := (ER.bats hm (Evt.batsS_len k st1) (Nat.le_succ g) HS.out).lower hg1
      clear ER
      go_wp2_with fail
      go_ret
      exact ⟨g, k, rfl, HE.out, RR, OR⟩

set_option maxHeartbeats 400000 in
theorem parseM_any (v : Value) (r : List Nat) (w : World) (h : BytL w v r) :
    Calls Tryz.prog 83 #[v] w fun e w' => ∃ v', e = .returned (.tuple #[v', .int .i64 (Evt.parseE r : Nat)]) ∧ BatsM w' w.heap.size v' (Evt.parse r) ∧ Below w.heap.size w w' := by
  have X0 : Below w.heap.size w (w.alloc (.cells #[v, .bool false] 165)) := (Below.refl _ _).alloc (Nat.le_refl _) _
  have V0 := varF_new w 165 v (.bool false)
  have R0 : Rd w (w.alloc (.cells #[v, .bool false] 165)) w.heap.size (r, false) := ⟨⟨v, V0.c0, h⟩, V0.c1, V0.fr, X0, Nat.le_refl _⟩
  have H1 := batches_any w w.heap.size (r, false) _ R0
  obtain ⟨A, C, hv⟩ := h.byts.shape
  have HP1 : Hid ((Evt.batlS (r, false)).2.2 = true ∨ (Evt.batlS (r, false)).2.1 ≠ [] → Evt.parseE r = 2 ∧ Evt.parse r = []) := fun q => Evt.batlS_bad q
  have HP2 : Hid ((Evt.batlS (r, false)).2.2 = false → (Evt.batlS (r, false)).2.1 = [] → Evt.parseE r = (Evt.wrongL (Evt.batlS (r, false)).1).1 ∧ Evt.parse r = if (Evt.wrongL (Evt.batlS (r, false)).1).1 = 0 then (Evt.batlS (r, false)).1 else []) := fun q q' => Evt.batlS_parse q q'
  generalize (Evt.batlS (r, false)).1 = l at H1 HP1 HP2
  generalize (Evt.batlS (r, false)).2 = st at H1 HP1 HP2
  obtain ⟨rr, fl⟩ := st
  subst hv
  clear h V0 R0
  go_enter Tryz.func83, Tryz.ntmps83
  go_wp2_with fail
  refine H1.mono ?_
  rintro e w1 ⟨g, m, rfl, B1, R1, O1⟩
  have B1 := B1.lower X0.size
  obtain ⟨vr, k0, hvr⟩ := R1.c0
  have k1 : w1.cell? ⟨w.heap.size, 1, none⟩ = some (.bool fl) := R1.c1
  have b1 := R1.bel
  obtain ⟨Ar, Cr, rfl⟩ := hvr.byts.shape
  have hrl : rr.length ≤ 9223372036854775807 := hvr.byts.len
  clear H1 R1 O1 hvr X0
  cases fl with
  | true =>
    have HQ : Hid (Evt.parseE r = 2 ∧ Evt.parse r = []) := HP1.out (Or.inl rfl)
    go_wp2_with fail
    go_ret2
    exact ⟨_, by rw [HQ.out.1]; rfl, by rw [HQ.out.2]; exact batsM_none _ _, b1⟩
  | false =>
    cases rr with
    | cons x rr =>
      have HQ : Hid (Evt.parseE r = 2 ∧ Evt.parse r = []) := HP1.out (Or.inr (fun e => by cases e))
      have hpos : (0 : Int) < ((x :: rr).length : Int) := by rw [List.length_cons]; omega
      have k0 : w1.cell? ⟨w.heap.size, 0, none⟩ = some (.slice Ar (x :: rr).length Cr) := k0
      generalize (x :: rr).length = q at k0 hpos hrl
      go_wp2_with fail
      go_ret2
      exact ⟨_, by rw [HQ.out.1]; rfl, by rw [HQ.out.2]; exact batsM_none _ _, b1⟩
    | nil =>
      have k0 : w1.cell? ⟨w.heap.size, 0, none⟩ = some (.slice Ar 0 Cr) := k0
      have HQ : Hid (Evt.parseE r = (Evt.wrongL l).1 ∧ Evt.parse r = if (Evt.wrongL l).1 = 0 then l else []) := HP2.out rfl rfl
      have H2 := wrongL_any _ l w1 B1.bats
      have HB : Hid (∀ w', Below w1.heap.size w1 w' → BatsM w' w.heap.size (.slice (some ⟨g, 0, none⟩) m m) l) := fun w' hb => B1.below hb
      clear B1
      by_cases hE : (Evt.wrongL l).1 = 0
      · rw [hE] at H2
        have HQ2 : Hid (Evt.parseE r = 0 ∧ Evt.parse r = l) := ⟨by rw [HQ.out.1, hE], by rw [HQ.out.2, if_pos hE]⟩
        generalize (Evt.wrongL l).2 = y at H2
        clear hE HQ
        go_wp2_with fail
        refine H2.mono ?_
        rintro e w2 ⟨rfl, b2⟩
        have b3 := bt b2 ((Below.refl w2.heap.size w2).alloc (Nat.le_refl _) (.cells #[.int .i64 0, .int .i64 (y : Nat)] 78))
        clear H2
        go_wp2_with fail
        go_ret2
        exact ⟨_, by rw [HQ2.out.1]; rfl, by rw [HQ2.out.2]; exact HB.out _ b3, bt b1 b3⟩
      · have HQ2 : Hid (Evt.parseE r = (Evt.wrongL l).1 ∧ Evt.parse r = []) := ⟨HQ.out.1, by rw [HQ.out.2, if_neg hE]⟩
        generalize (Evt.wrongL l).1 = x1 at H2 HQ2 hE
        generalize (Evt.wrongL l).2 = y at H2
        have hx' : ((x1 : Int) == 0) = false := by rw [beq_eq_false_iff_ne]; omega
        have hxn : ((x1 : Int) != 0) = true := by rw [bne, hx']; rfl
        clear hE HQ
        go_wp2_with fail
        refine H2.mono ?_
        rintro e w2 ⟨rfl, b2⟩
        have b3 := bt b2 ((Below.refl w2.heap.size w2).alloc (Nat.le_refl _) (.cells #[.int .i64 (x1 : Nat), .int .i64 (y : Nat)] 78))
        clear H2
        go_wp2_with fail
        go_quiet (fail)
        go_wp2_with fail
        go_ret2
        exact ⟨_, by rw [HQ2.out.1]; rfl, by rw [HQ2.out.2]; exact batsM_none _ _, ⟨(bt b1 b3).os, (bt b1 b3).tape, (bt b1 b3).output, (bt b1 b3).size, (bt b1 b3).block⟩⟩

end Go.Proofs.YtmcaejooaaahdaaGreat
