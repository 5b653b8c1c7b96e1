/-
  What event's reader does, call by call: events.
-/
import Derived.Test.YtniaffofeeieeadXRead
import Derived.Laws.OwnMore
namespace Go.Proofs.Ytniaffofeeieead
open Go.RowKit

/-- A row of m events that the call has made. -/
structure EvRow (w : World) (g m : Nat) (Q : Nat → EvC) : Prop where
  cs : ∀ i, i < m → w.cell? ⟨g, i * 3, none⟩ = some (.string (Q i).1) ∧ w.cell? ⟨g, i * 3 + 1, none⟩ = some (.int .i64 (Q i).2.1) ∧ w.cell? ⟨g, i * 3 + 2, none⟩ = some (.int .i64 (Q i).2.2)
  sz : ∀ i, i < m → (Q i).1.size ≤ 9223372036854775807
  fr : ∀ i, w.frozen? ⟨g, i, none⟩ = false
  lt : g < w.heap.size
theorem EvRow.off {S : Nat → Prop} {w w' : World} {g m : Nat} {Q : Nat → EvC} (h : EvRow w g m Q) (ho : Off S w w') (hS : ¬ S g) : EvRow w' g m Q := by
  have hb := ho.block g h.lt hS
  exact ⟨fun i hi => ⟨(World.cell?_of_block (w := w) (a := ⟨g, i * 3, none⟩) hb).trans (h.cs i hi).1, (World.cell?_of_block (w := w) (a := ⟨g, i * 3 + 1, none⟩) hb).trans (h.cs i hi).2.1, (World.cell?_of_block (w := w) (a := ⟨g, i * 3 + 2, none⟩) hb).trans (h.cs i hi).2.2⟩, h.sz, fun i => (World.frozen?_of_block (w := w) (a := ⟨g, i, none⟩) hb).trans (h.fr i), Nat.lt_of_lt_of_le h.lt ho.size⟩
/-- One of them is another one. -/
def upd {α : Type} (Q : Nat → α) (k : Nat) (e : α) (i : Nat) : α := if i = k then e else Q i
theorem upd_at {α : Type} (Q : Nat → α) (k : Nat) (e : α) : upd Q k e k = e := if_pos rfl
theorem upd_ne {α : Type} (Q : Nat → α) {k i : Nat} (e : α) (h : i ≠ k) : upd Q k e i = Q i := if_neg h
theorem addr_ne {g a b : Nat} (h : a ≠ b) : (⟨g, a, none⟩ : Addr) ≠ ⟨g, b, none⟩ := fun e => by
  cases e
  exact h rfl
theorem EvRow.set0 {w : World} {g m : Nat} {Q : Nat → EvC} (h : EvRow w g m Q) {k : Nat} (hk : k < m) (s : ByteArray) (hs : s.size ≤ 9223372036854775807) : EvRow (w.setCell ⟨g, k * 3, none⟩ (.string s)) g m (upd Q k (s, (Q k).2)) := by
  refine ⟨fun i hi => ?_, fun i hi => ?_, fun i => (World.frozen?_setCell _ _ _ _).trans (h.fr i), by rw [Deep.nblk_setCell]; exact h.lt⟩
  · obtain ⟨e0, e1, e2⟩ := h.cs i hi
    rw [World.cell?_setCell_other _ _ _ _ (addr_ne (show k * 3 ≠ i * 3 + 1 by omega)), World.cell?_setCell_other _ _ _ _ (addr_ne (show k * 3 ≠ i * 3 + 2 by omega))]
    by_cases e : i = k
    · subst e
      rw [World.cell?_setCell_same _ _ _ e0, upd_at]
      exact ⟨rfl, e1, e2⟩
    · rw [World.cell?_setCell_other _ _ _ _ (addr_ne (show k * 3 ≠ i * 3 by omega)), upd_ne _ _ e]
      exact ⟨e0, e1, e2⟩
  · by_cases e : i = k
    · rw [e, upd_at]
      exact hs
    · rw [upd_ne _ _ e]
      exact h.sz i hi
theorem EvRow.set1 {w : World} {g m : Nat} {Q : Nat → EvC} (h : EvRow w g m Q) {k : Nat} (hk : k < m) (n : Int) : EvRow (w.setCell ⟨g, k * 3 + 1, none⟩ (.int .i64 n)) g m (upd Q k ((Q k).1, n, (Q k).2.2)) := by
  refine ⟨fun i hi => ?_, fun i hi => ?_, fun i => (World.frozen?_setCell _ _ _ _).trans (h.fr i), by rw [Deep.nblk_setCell]; exact h.lt⟩
  · obtain ⟨e0, e1, e2⟩ := h.cs i hi
    rw [World.cell?_setCell_other _ _ _ _ (addr_ne (show k * 3 + 1 ≠ i * 3 by omega)), World.cell?_setCell_other _ _ _ _ (addr_ne (show k * 3 + 1 ≠ i * 3 + 2 by omega))]
    by_cases e : i = k
    · subst e
      rw [World.cell?_setCell_same _ _ _ e1, upd_at]
      exact ⟨e0, rfl, e2⟩
    · rw [World.cell?_setCell_other _ _ _ _ (addr_ne (show k * 3 + 1 ≠ i * 3 + 1 by omega)), upd_ne _ _ e]
      exact ⟨e0, e1, e2⟩
  · by_cases e : i = k
    · rw [e, upd_at]
      exact h.sz k hk
    · rw [upd_ne _ _ e]
      exact h.sz i hi
theorem EvRow.set2 {w : World} {g m : Nat} {Q : Nat → EvC} (h : EvRow w g m Q) {k : Nat} (hk : k < m) (n : Int) : EvRow (w.setCell ⟨g, k * 3 + 2, none⟩ (.int .i64 n)) g m (upd Q k ((Q k).1, (Q k).2.1, n)) := by
  refine ⟨fun i hi => ?_, fun i hi => ?_, fun i => (World.frozen?_setCell _ _ _ _).trans (h.fr i), by rw [Deep.nblk_setCell]; exact h.lt⟩
  · obtain ⟨e0, e1, e2⟩ := h.cs i hi
    rw [World.cell?_setCell_other _ _ _ _ (addr_ne (show k * 3 + 2 ≠ i * 3 by omega)), World.cell?_setCell_other _ _ _ _ (addr_ne (show k * 3 + 2 ≠ i * 3 + 1 by omega))]
    by_cases e : i = k
    · subst e
      rw [World.cell?_setCell_same _ _ _ e2, upd_at]
      exact ⟨e0, e1, rfl⟩
    · rw [World.cell?_setCell_other _ _ _ _ (addr_ne (show k * 3 + 2 ≠ i * 3 + 2 by omega)), upd_ne _ _ e]
      exact ⟨e0, e1, e2⟩
  · by_cases e : i = k
    · rw [e, upd_at]
      exact h.sz k hk
    · rw [upd_ne _ _ e]
      exact h.sz i hi
theorem made_at (z : Array Value) (n j : Nat) (hj : j < n) (u : Value) (hu : z[j % z.size]! = u) : (madeCells z n).toList[j]? = some u := by
  simp [madeCells, hj, hu]
theorem owns_frozen {w : World} {N : Nat} {t : TypeId} {s : Nat} {v : Value} {n g : Nat} {xs : List Value} (h : w.ownsRow N t s v n xs) (hg : v.ownBlock = some g) (i : Nat) : w.frozen? ⟨g, i, none⟩ = false := by
  obtain ⟨cur, e⟩ := owns_heap h hg
  have hr : w.rowIs g t cur.size (fun j => cur.getD j (.slice none 0 0)) := ⟨cur, e, rfl, fun i hi => by simp [hi]⟩
  exact hr.frozen i
theorem made_evs (w : World) (m : Nat) (hm : m < 256) : ∃ w', (Instr.makeSlice 29 (.int .i64 (m : Int)) (.int .i64 (m : Int))).run Try.prog w = .ok (.slice (some ⟨w.heap.size, 0, none⟩) m m) w' ∧ EvRow w' w.heap.size m (fun _ => (ByteArray.empty, 0, 0)) ∧ Below w.heap.size w w' := by
  obtain ⟨i3, hi3, hh3⟩ := Option.map_eq_some_iff.1 Try.infoEvent
  simp only [Prod.mk.injEq] at hh3
  obtain ⟨hy0, hy1, hy2⟩ := hh3
  obtain ⟨w', hrun, hown, hg⟩ := run_make_full (P := Try.prog) w w.heap.size 29 24 i3 _ 3 Try.underlying29 hi3 hy0 hy1 .i64 .i64 m (by rw [hy2]; omega) (by unfold maxLen; omega) (Nat.le_refl _)
  have hc : ∀ j u, (madeCells (Value.agg #[.string ByteArray.empty, .int .i64 0, .int .i64 0]).cells (m * 3)).toList[j]? = some u → w'.cell? ⟨w.heap.size, j, none⟩ = some u := fun j u hj => by
    have := hown.cells (g := w.heap.size) rfl j u hj
    rw [WideShapes.add_plain, Nat.zero_add] at this
    exact this
  refine ⟨w', hrun, ⟨fun i hi => ⟨?_, ?_, ?_⟩, fun i _ => Nat.zero_le _, owns_frozen hown rfl, (hown.lt _ rfl).2⟩, ⟨hg.os, hg.tape, hg.output, hg.size, fun k hk => hg.block k hk (by simp)⟩⟩
  · exact hc _ _ (made_at _ _ _ (by omega) _ (by rw [show (Value.agg #[.string ByteArray.empty, .int .i64 0, .int .i64 0]).cells = #[.string ByteArray.empty, .int .i64 0, .int .i64 0] from rfl, show (i * 3) % (#[Value.string ByteArray.empty, .int .i64 0, .int .i64 0]).size = 0 from show i * 3 % 3 = 0 by omega]; rfl))
  · exact hc _ _ (made_at _ _ _ (by omega) _ (by rw [show (Value.agg #[.string ByteArray.empty, .int .i64 0, .int .i64 0]).cells = #[.string ByteArray.empty, .int .i64 0, .int .i64 0] from rfl, show (i * 3 + 1) % (#[Value.string ByteArray.empty, .int .i64 0, .int .i64 0]).size = 1 from show (i * 3 + 1) % 3 = 1 by omega]; rfl))
  · exact hc _ _ (made_at _ _ _ (by omega) _ (by rw [show (Value.agg #[.string ByteArray.empty, .int .i64 0, .int .i64 0]).cells = #[.string ByteArray.empty, .int .i64 0, .int .i64 0] from rfl, show (i * 3 + 2) % (#[Value.string ByteArray.empty, .int .i64 0, .int .i64 0]).size = 2 from show (i * 3 + 2) % 3 = 2 by omega]; rfl))
theorem EvRow.evs {w : World} {g m : Nat} {Q : Nat → EvC} (h : EvRow w g m Q) (hm : m < 256) : Evs w (.slice (some ⟨g, 0, none⟩) m m) ((List.range m).map fun i => evOf (Q i)) := by
  refine ⟨some ⟨g, 0, none⟩, m, by simp, by simp, by unfold maxLen; omega, fun i e he => ⟨g, 0, rfl, ?_⟩⟩
  have hi : i < m := by
    have := (List.getElem?_eq_some_iff.1 he).1
    simpa using this
  simp [hi] at he
  subst he
  obtain ⟨e0, e1, e2⟩ := h.cs i hi
  rw [Nat.zero_add]
  exact ⟨(Q i).1, h.sz i hi, rfl, e0, e1, e2⟩

/-- The string of bytes. -/
def strL (t : List Nat) : ByteArray := strB (fun k => t.getD k 0) t.length
theorem strL_nb {t : List Nat} (h : Evt.Bytes t) : nb (strL t) = t := by
  unfold strL
  rw [nb_strB]
  · apply List.ext_getElem?
    intro i
    by_cases hi : i < t.length
    · rw [bl_get _ hi]
      simp [List.getD, hi]
    · rw [List.getElem?_eq_none (by rw [bl_len]; omega), List.getElem?_eq_none (by omega)]
  · intro k
    show t.getD k 0 < 256
    by_cases hk : k < t.length
    · have : t.getD k 0 ∈ t := by simp [List.getD, hk]
      exact h _ this
    · simp [List.getD, hk]
theorem convL {w : World} {v : Value} {t : List Nat} (h : BytL w v t) : (convert 25 9 v).run Try.prog w = .ok (.string (strL t)) w := conv_any h.byts

set_option maxHeartbeats 1000000 in
theorem events_any (W0 : World) (p : Nat) (st : Evt.St) (w : World) (h : Rd W0 w p st) :
    Calls Try.prog 29 #[.pointer (some ⟨p, 0, none⟩)] w fun e w' => ∃ g m, e = .returned (.slice (some ⟨g, 0, none⟩) m m) ∧ w.heap.size ≤ g ∧ Evs w' (.slice (some ⟨g, 0, none⟩) m m) (Evt.evlS st).1 ∧ Rd W0 w' p (Evt.evlS st).2 ∧ Off (fun k => k = p) w w' := by
  have H1 := number_any W0 p 1 st w h (by omega)
  have hm : (Evt.numS 1 st).1 < 256 := Evt.numS_lt 1 h.bytes
  unfold Evt.evlS
  generalize (Evt.numS 1 st).1 = m at H1 hm ⊢
  generalize (Evt.numS 1 st).2 = st1 at H1 ⊢
  clear h
  go_enter Try.func29, Try.ntmps29
  go_wp2_with fail
  refine H1.mono ?_
  rintro e w1 ⟨rfl, R1, O1⟩
  obtain ⟨w2, hmk, E2, b2⟩ := made_evs w1 m hm
  have O2 : Off (fun k => k = p) w w2 := O1.trans (Off.of_below b2)
  have R2 := R1.off (S := fun _ => False) (Off.of_below b2) (fun h => h) (fun k h => h.elim)
  have hg1 : w.heap.size ≤ w1.heap.size := O1.size
  have hpg : w1.heap.size ≠ p := fun e => by have := R1.lt; omega
  have hW1 : W0.heap.size ≤ w1.heap.size := R1.bel.size
  generalize w1.heap.size = g at hmk E2 hg1 hpg hW1
  clear H1 R1 O1 b2
  go_wp2_with fail
  clear hmk
  go_loopw [10] (fun x wr => ∃ (k : Nat) (Q : Nat → EvC), k ≤ m ∧ x = .int .i64 k ∧ EvRow wr g m Q ∧ Hid ((List.range k).map (fun i => evOf (Q i)) = (Evt.evsS k st1).1) ∧ Rd W0 wr p (Evt.evsS k st1).2 ∧ Off (fun k => k = p) w wr) (fun x _ => m - (intOf x).toNat)
  case atStart => exact ⟨0, _, Nat.zero_le _, rfl, E2, rfl, R2, O2⟩
  case round =>
    obtain ⟨k, Q, hk, rfl, ER, HS, RR, OR⟩ := hrel
    by_cases hlt : k < m
    · have hlt' : (k : Int) < (m : Int) := by omega
      have HN : Hid (Evt.evsS (k + 1) st1 = ((Evt.evsS k st1).1 ++ [(Evt.evS (Evt.evsS k st1).2).1], (Evt.evS (Evt.evsS k st1).2).2)) := Evt.evsS_succ k st1
      generalize (Evt.evsS k st1).2 = s0 at RR HN
      have K1 := number_any W0 p 1 s0 wr RR (by omega)
      have hn1 : (Evt.numS 1 s0).1 < 256 := Evt.numS_lt 1 RR.bytes
      have HE : Hid (Evt.evS s0 = (⟨(Evt.takS (Evt.numS 1 s0).1 (Evt.numS 1 s0).2).1, ((Evt.numS 1 (Evt.takS (Evt.numS 1 s0).1 (Evt.numS 1 s0).2).2).1 : Nat), ((Evt.numS 3 (Evt.numS 1 (Evt.takS (Evt.numS 1 s0).1 (Evt.numS 1 s0).2).2).2).1 : Nat)⟩, (Evt.numS 3 (Evt.numS 1 (Evt.takS (Evt.numS 1 s0).1 (Evt.numS 1 s0).2).2).2).2)) := rfl
      generalize (Evt.numS 1 s0).1 = a1 at K1 hn1 HE
      generalize (Evt.numS 1 s0).2 = s1 at K1 HE
      clear RR
      go_wp2_with fail
      refine K1.mono ?_
      rintro e w3 ⟨rfl, R3, O3⟩
      have E3 := ER.off O3 hpg
      have O3 := OR.trans O3
      have K2 := next_any W0 p a1 s1 w3 R3 (by omega)
      have ht := Evt.takS_len a1 s1
      generalize (Evt.takS a1 s1).1 = t at K2 HE ht
      generalize (Evt.takS a1 s1).2 = s2 at K2 HE
      clear K1 ER OR R3
      go_wp2_with fail
      refine K2.mono ?_
      rintro e w4 ⟨v4, rfl, T4, R4, O4⟩
      have E4 := E3.off O4 hpg
      have O4 := O3.trans O4
      have hcv := convL (T4.below R4.bel)
      have HST : Hid (nb (strL t) = t) := strL_nb T4.1
      have hss : (strL t).size ≤ 9223372036854775807 := by
        rw [← nb_len, HST.out]
        omega
      obtain ⟨d0, d1, d2⟩ := E4.cs k hlt
      have f0 := E4.fr (k * 3)
      have f1 := E4.fr (k * 3 + 1)
      have f2 := E4.fr (k * 3 + 2)
      generalize strL t = S at hcv HST hss
      have E5 := E4.set0 hlt S hss
      have R5 := R4.off (off_set w4 ⟨g, k * 3, none⟩ (.string S)) (fun e => hpg e.symm) (fun j e => by rw [e]; exact hW1)
      have O5 : Off (fun k => k = p) w (w4.setCell ⟨g, k * 3, none⟩ (.string S)) := O4.past (off_set w4 ⟨g, k * 3, none⟩ (.string S)) (fun y e hl => by rw [e] at hl; exact absurd hl (by show ¬ g < _; omega))
      obtain ⟨Q1, HQ1⟩ : ∃ Q1, Hid (Q1 = upd Q k (S, (Q k).2)) := ⟨_, rfl⟩
      rw [← HQ1.out] at E5
      have K3 := number_any W0 p 1 s2 _ R5 (by omega)
      generalize (Evt.numS 1 s2).1 = a3 at K3 HE
      generalize (Evt.numS 1 s2).2 = s3 at K3 HE
      clear K2 E3 O3 T4 E4 R4 O4 R5
      go_wp2_with fail
      refine K3.mono ?_
      rintro e w5 ⟨rfl, R5, O6⟩
      have E6 := E5.off O6 hpg
      have O6 := O5.trans O6
      obtain ⟨d0, d1, d2⟩ := E6.cs k hlt
      have f0 := E6.fr (k * 3)
      have f1 := E6.fr (k * 3 + 1)
      have f2 := E6.fr (k * 3 + 2)
      have E7 := E6.set1 hlt (a3 : Int)
      have R7 := R5.off (off_set w5 ⟨g, k * 3 + 1, none⟩ (.int .i64 (a3 : Int))) (fun e => hpg e.symm) (fun j e => by rw [e]; exact hW1)
      have O7 : Off (fun k => k = p) w (w5.setCell ⟨g, k * 3 + 1, none⟩ (.int .i64 (a3 : Int))) := O6.past (off_set w5 ⟨g, k * 3 + 1, none⟩ (.int .i64 (a3 : Int))) (fun y e hl => by rw [e] at hl; exact absurd hl (by show ¬ g < _; omega))
      obtain ⟨Q2, HQ2⟩ : ∃ Q2, Hid (Q2 = upd Q1 k ((Q1 k).1, (a3 : Int), (Q1 k).2.2)) := ⟨_, rfl⟩
      rw [← HQ2.out] at E7
      have K4 := number_any W0 p 3 s3 _ R7 (by omega)
      generalize (Evt.numS 3 s3).1 = a4 at K4 HE
      generalize (Evt.numS 3 s3).2 = s4 at K4 HE
      clear K3 E5 O5 E6 R5 O6 R7 hcv
      go_wp2_with fail
      refine K4.mono ?_
      rintro e w6 ⟨rfl, R8, O8⟩
      have E8 := E7.off O8 hpg
      have O8 := O7.trans O8
      obtain ⟨d0, d1, d2⟩ := E8.cs k hlt
      have f0 := E8.fr (k * 3)
      have f1 := E8.fr (k * 3 + 1)
      have f2 := E8.fr (k * 3 + 2)
      have E9 := E8.set2 hlt (a4 : Int)
      have R9 : Hid (Rd W0 (w6.setCell ⟨g, k * 3 + 2, none⟩ (.int .i64 (a4 : Int))) p s4) := R8.off (off_set w6 ⟨g, k * 3 + 2, none⟩ (.int .i64 (a4 : Int))) (fun e => hpg e.symm) (fun j e => by rw [e]; exact hW1)
      have O9 : Hid (Off (fun k => k = p) w (w6.setCell ⟨g, k * 3 + 2, none⟩ (.int .i64 (a4 : Int)))) := O8.past (off_set w6 ⟨g, k * 3 + 2, none⟩ (.int .i64 (a4 : Int))) (fun y e hl => by rw [e] at hl; exact absurd hl (by show ¬ g < _; omega))
      obtain ⟨Q3, HQ3⟩ : ∃ Q3, Hid (Q3 = upd Q2 k ((Q2 k).1, (Q2 k).2.1, (a4 : Int))) := ⟨_, rfl⟩
      rw [← HQ3.out] at E9
      have HZ : Hid (EvRow (w6.setCell ⟨g, k * 3 + 2, none⟩ (.int .i64 (a4 : Int))) g m Q3) := E9
      have HF : Hid ((List.range (k + 1)).map (fun i => evOf (Q3 i)) = (Evt.evsS (k + 1) st1).1) := by
        show (List.range (k + 1)).map (fun i => evOf (Q3 i)) = (Evt.evsS (k + 1) st1).1
        rw [HN.out, HE.out, List.range_succ, List.map_append, ← HS.out]
        congr 1
        · refine List.map_congr_left (fun i hi => ?_)
          have hi : i ≠ k := by have := List.mem_range.1 hi; omega
          rw [HQ3.out, upd_ne _ _ hi, HQ2.out, upd_ne _ _ hi, HQ1.out, upd_ne _ _ hi]
        · show [evOf (Q3 k)] = _
          rw [HQ3.out, upd_at, HQ2.out, upd_at, HQ1.out, upd_at]
          show [(⟨nb S, (a3 : Int), (a4 : Int)⟩ : Evt.Ev)] = _
          rw [HST.out]
      have HRR : Hid (Rd W0 (w6.setCell ⟨g, k * 3 + 2, none⟩ (.int .i64 (a4 : Int))) p (Evt.evsS (k + 1) st1).2) := by
        show Rd W0 _ p (Evt.evsS (k + 1) st1).2
        rw [HN.out, HE.out]
        exact R9.out
      clear K4 E7 O7 E8 O8 R8 E9
      go_wp2_with fail
      exact ⟨⟨k + 1, Q3, by omega, by go_num, HZ.out, HF.out, HRR.out, O9.out⟩, by simp [intOf]; omega⟩
    · obtain rfl : k = m := by omega
      have HE : Hid (Evs wr (.slice (some ⟨g, 0, none⟩) k k) (Evt.evsS k st1).1) := by
        have := ER.evs hm
        rw [HS.out] at this
        exact this
      clear ER
      go_wp2_with fail
      go_ret
      exact ⟨g, k, rfl, hg1, HE.out, RR, OR⟩

end Go.Proofs.Ytniaffofeeieead
