/-
  What the document's own SameView does, call by call.
-/
import Derived.Test.YtabolanakcmgfaeVMem
namespace Go.Proofs.Ytabolanakcmgfae
open Go.RowKit

set_option maxHeartbeats 2000000 in
set_option maxRecDepth 100000 in
theorem sameView_any (u u' : Int) (v v' : Value) (l l' : List Vw.Acc) (w : World) (h : Accs w v l) (h' : Accs w v' l') :
    Calls Try.prog 20 #[.agg #[.int .i64 u, v], .agg #[.int .i64 u', v']] w fun e w' => Tell e (u = u' ∧ l = l') ∧ Below w.heap.size w w' := by
  have hln := h.len
  obtain ⟨A, C, rfl, _, _, ha⟩ := h
  obtain ⟨A', C', rfl, _, _, ha'⟩ := h'
  have hgd : Try.prog.eqGuardType Try.prog.depth 39 = false := by kernel_rfl
  have h1 : Below w.heap.size w (w.alloc (.cells #[.int .i64 u, .slice A l.length C] 33)) := (Below.refl _ _).alloc (Nat.le_refl _) _
  have h2 := h1.alloc h1.size (.cells #[.int .i64 u', .slice A' l'.length C'] 33)
  have hb2 : Below (w.alloc (.cells #[.int .i64 u, .slice A l.length C] 33)).heap.size (w.alloc (.cells #[.int .i64 u, .slice A l.length C] 33)) ((w.alloc (.cells #[.int .i64 u, .slice A l.length C] 33)).alloc (.cells #[.int .i64 u', .slice A' l'.length C'] 33)) := (Below.refl _ _).alloc (Nat.le_refl _) _
  have VV := (varF_new w 33 (.int .i64 u) (.slice A l.length C)).below hb2
  have VW := varF_new (w.alloc (.cells #[.int .i64 u, .slice A l.length C] 33)) 33 (.int .i64 u') (.slice A' l'.length C')
  have z1 : (w.alloc (.cells #[.int .i64 u, .slice A l.length C] 33)).heap.size = w.heap.size + 1 := by simp
  rw [z1] at VW
  clear z1 hb2 h1
  have HA : Hid (∀ i a, l[i]? = some a → ∃ b o, A = some ⟨b, o, none⟩ ∧ AcIn w b (o + i * 4) a) := ha
  have HA' : Hid (∀ i a, l'[i]? = some a → ∃ b o, A' = some ⟨b, o, none⟩ ∧ AcIn w b (o + i * 4) a) := ha'
  clear ha ha'
  obtain ⟨c0, c1, _⟩ := VV
  obtain ⟨d0, d1, _⟩ := VW
  by_cases q0 : u = u'
  case neg =>
    have H : Hid (¬ (u = u' ∧ l = l')) := fun q => q0 q.1
    have q1 : (u != u') = true := by rw [bne_iff_ne]; exact q0
    clear q0
    go_enter Try.func20, Try.ntmps20
    go_wp2_with fail
    go_ret
    exact ⟨tell_no H.out, h2⟩
  have q1 : (u != u') = false := by rw [bne_eq_false_iff_eq]; exact q0
  have HU : Hid (u = u') := q0
  clear q0
  by_cases q2 : l.length = l'.length
  case neg =>
    have H : Hid (¬ (u = u' ∧ l = l')) := fun q => q2 (by rw [q.2])
    have q3 : ((l.length : Int) != (l'.length : Int)) = true := by rw [bne_iff_ne]; omega
    clear q2
    go_enter Try.func20, Try.ntmps20
    go_wp2_with fail
    go_ret
    exact ⟨tell_no H.out, h2⟩
  have HL : Hid (l.length = l'.length) := q2
  have q3 : ((l.length : Int) != (l'.length : Int)) = false := by rw [bne_eq_false_iff_eq]; omega
  have hl2 : l'.length = l.length := q2.symm
  rw [hl2] at d1 q3 h2 c0 c1 d0
  rw [hl2]
  clear q2 hl2
  go_enter Try.func20, Try.ntmps20
  go_wp2_with fail
  generalize (w.alloc (.cells #[.int .i64 u, .slice A l.length C] 33)).alloc (.cells #[.int .i64 u', .slice A' l.length C'] 33) = W0 at h2 c0 c1 d0 d1 ⊢
  go_loopw [23] (fun x wr => ∃ k : Nat, k ≤ l.length ∧ x = .int .i64 k ∧ Hid (∀ j, j < k → l[j]? = l'[j]?) ∧ Hid (∃ m, wr = W0.drewN m)) (fun x _ => l.length - (intOf x).toNat)
  case atStart => exact ⟨0, Nat.zero_le _, rfl, fun j hj => absurd hj (Nat.not_lt_zero j), ⟨0, rfl⟩⟩
  case round =>
    obtain ⟨k, hk, rfl, HS, HM⟩ := hrel
    have hbw : Below W0.heap.size W0 wr := by
      obtain ⟨m, e⟩ := HM.out
      rw [e]
      exact drewN_below W0 m
    have c1 := (hbw.cell (p := ⟨w.heap.size, 1, none⟩) (World.block_lt_of_cell? _ _ c1)).trans c1
    have d1 := (hbw.cell (p := ⟨w.heap.size + 1, 1, none⟩) (World.block_lt_of_cell? _ _ d1)).trans d1
    by_cases hlt : k < l.length
    · have hlt' : (k : Int) < (l.length : Int) := by omega
      obtain ⟨a, hak⟩ : ∃ a, l[k]? = some a := ⟨l[k], List.getElem?_eq_getElem hlt⟩
      obtain ⟨a', hak'⟩ : ∃ a, l'[k]? = some a := ⟨l'[k]'(by have := HL.out; omega), List.getElem?_eq_getElem (by have := HL.out; omega)⟩
      obtain ⟨b, o, rfl, hin⟩ := HA.out k a hak
      obtain ⟨b', o', rfl, hin'⟩ := HA'.out k a' hak'
      obtain ⟨s, hs1, hs2, x0, x1, x2, x3⟩ := hin.below (bt h2 hbw)
      obtain ⟨s', hs1', hs2', y0, y1, y2, y3⟩ := hin'.below (bt h2 hbw)
      obtain ⟨y, hy, _, hq⟩ := acc_eq ⟨s, hs1, hs2, rfl⟩ ⟨s', hs1', hs2', rfl⟩
      have HE : Hid (l[k]? = some a ∧ l'[k]? = some a') := ⟨hak, hak'⟩
      have HY : Hid (y = true ↔ a = a') := hy
      clear hak hak' hin hin' hs2 hs2' hs1 hs1' hy
      cases y with
      | true =>
        have HR : Hid (a = a') := HY.out.1 rfl
        clear HY
        go_wp2_with fail
        go_quiet (fail)
        go_wp2_with fail
        refine ⟨⟨k + 1, by omega, by go_num, fun j hj => ?_, dn_trans HM.out _⟩, by simp [intOf]; omega⟩
        by_cases e : j = k
        · rw [e, HE.out.1, HE.out.2, HR.out]
        · exact HS.out j (by omega)
      | false =>
        have HN : Hid (¬ (u = u' ∧ l = l')) := fun q => by
          have h1 := HE.out.1
          rw [q.2, HE.out.2, Option.some.injEq] at h1
          exact absurd (HY.out.2 h1.symm) (by decide)
        clear HY
        go_wp2_with fail
        go_quiet (fail)
        go_wp2_with fail
        go_ret
        exact ⟨tell_no HN.out, bdn (bt h2 hbw) _⟩
    · obtain rfl : k = l.length := by omega
      have HYES : Hid (u = u' ∧ l = l') := ⟨HU.out, list_eq_of HL.out (fun j hj => HS.out j hj)⟩
      go_wp2_with fail
      go_ret
      exact ⟨tell_yes HYES.out, bt h2 hbw⟩

end Go.Proofs.Ytabolanakcmgfae
