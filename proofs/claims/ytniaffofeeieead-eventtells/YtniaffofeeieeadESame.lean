/-
  What the document's own SameEvents and SameBatches do, call by call.
-/
import Derived.Test.YtniaffofeeieeadEMem
import Derived.Laws.StructEq
namespace Go.Proofs.Ytniaffofeeieead
open Go.RowKit

theorem nb_inj {s s' : ByteArray} : nb s = nb s' ↔ s.toList = s'.toList := by
  unfold nb
  rw [ByteArray.toList_eq, ByteArray.toList_eq]
  constructor
  · intro h
    exact List.map_inj_right (fun a b e => UInt8.toNat_inj.1 e) |>.1 h
  · intro h
    rw [h]
theorem Try.isAggInt : (Try.prog.info? 3).map (fun i => i.size) = some 1 := by kernel_rfl

theorem ev_neq (s s' : ByteArray) (k k' m m' : Int) (w : World) : (binOp .neq 24 (.agg #[.string s, .int .i64 k, .int .i64 m]) (.agg #[.string s', .int .i64 k', .int .i64 m'])).run Try.prog w = .ok (.bool (!(s.toList == s'.toList && (k == k' && m == m')))) w := by
  have u3 := Try.underlying3
  have u9 := Try.underlying9
  have a3 := Try.isAgg3
  have z3 := Try.sizeOf3
  have a9 := Try.isAgg9
  have z9 := Try.sizeOf9
  have hS : Try.prog.underlying 24 = some (.struct (Try.prog.fieldsOf 24)) := by kernel_rfl
  have hp : Try.prog.stoodInHeld 24 = false := by kernel_rfl
  rw [run_neq_struct, show (10000 : Nat) = 9999 + 1 from rfl, run_equalIn_agg w 9999 24 _ _ hS hp]
  simp only [Program.fieldsOf, Try.underlying24]
  go_simp
  by_cases h1 : s.toList = s'.toList <;> by_cases h2 : k = k' <;> by_cases h3 : m = m' <;> simp [h1, h2, h3]

theorem ev_eq {s s' : ByteArray} {e e' : Evt.Ev} (h : nb s = e.name) (h' : nb s' = e'.name) : (s.toList == s'.toList && (e.kind == e'.kind && e.num == e'.num)) = true ↔ e = e' := by
  rw [Bool.and_eq_true, Bool.and_eq_true, beq_iff_eq, beq_iff_eq, beq_iff_eq, ← nb_inj, h, h']
  obtain ⟨n, k, m⟩ := e
  obtain ⟨n', k', m'⟩ := e'
  simp
theorem drew_drew (w : World) (m q : Nat) : (w.drewN m).drewN q = w.drewN (m + q) := by
  simp [World.drewN, Nat.add_assoc]
theorem list_eq_of {α : Type} {l l' : List α} (hl : l.length = l'.length) (h : ∀ j, j < l.length → l[j]? = l'[j]?) : l = l' := by
  apply List.ext_getElem?
  intro j
  by_cases hj : j < l.length
  · exact h j hj
  · rw [List.getElem?_eq_none (by omega), List.getElem?_eq_none (by omega)]

set_option maxHeartbeats 1000000 in
theorem sameEv_some (b o b' o' n C C' : Nat) (es es' : List Evt.Ev) (w : World) (hn : n ≤ 9223372036854775807) (h : ∀ i e, es[i]? = some e → EvIn w b (o + i * 3) e) (h' : ∀ i e, es'[i]? = some e → EvIn w b' (o' + i * 3) e) (hl : es.length = n) (hl' : es'.length = n) :
    Calls Try.prog 26 #[.slice (some ⟨b, o, none⟩) n C, .slice (some ⟨b', o', none⟩) n C'] w fun e w' => Tell e (es = es') ∧ ∃ m, w' = w.drewN m := by
  have HL : Hid (es.length = n ∧ es'.length = n) := ⟨hl, hl'⟩
  have hgd : Try.prog.eqGuardType Try.prog.depth 24 = false := by kernel_rfl
  go_enter Try.func26, Try.ntmps26
  go_wp2_with fail
  go_loopw [13] (fun x wr => ∃ k : Nat, k ≤ n ∧ x = .int .i64 k ∧ Hid (∀ j, j < k → es[j]? = es'[j]?) ∧ ∃ m, wr = w.drewN m) (fun x _ => n - (intOf x).toNat)
  case atStart => exact ⟨0, Nat.zero_le _, rfl, fun j hj => absurd hj (Nat.not_lt_zero j), 0, rfl⟩
  case round =>
    obtain ⟨k, hk, rfl, HS, m, rfl⟩ := hrel
    by_cases hlt : k < n
    · have hlt' : (k : Int) < (n : Int) := by omega
      obtain ⟨ev, hev⟩ : ∃ ev, es[k]? = some ev := ⟨es[k], List.getElem?_eq_getElem (by omega)⟩
      obtain ⟨ev', hev'⟩ : ∃ ev, es'[k]? = some ev := ⟨es'[k], List.getElem?_eq_getElem (by omega)⟩
      obtain ⟨s, hs1, hs2, d0, d1, d2⟩ := h k ev hev
      obtain ⟨s', hs1', hs2', d0', d1', d2'⟩ := h' k ev' hev'
      have HE : Hid (es[k]? = some ev ∧ es'[k]? = some ev') := ⟨hev, hev'⟩
      have HQ := ev_eq hs2 hs2'
      have hq := ev_neq s s' ev.kind ev'.kind ev.num ev'.num
      generalize (s.toList == s'.toList && (ev.kind == ev'.kind && ev.num == ev'.num)) = y at HQ hq
      clear h h' hev hev' hs2 hs2' hl hl' hs1 hs1'
      cases y with
      | true =>
        have HR : Hid (ev = ev') := HQ.1 rfl
        clear HQ
        go_wp2_with fail
        go_quiet (fail)
        go_wp2_with fail
        refine ⟨⟨k + 1, by omega, by go_num, fun j hj => ?_, _, rfl⟩, by simp [intOf]; omega⟩
        by_cases e : j = k
        · rw [e, HE.out.1, HE.out.2, HR.out]
        · exact HS.out j (by omega)
      | false =>
        have HN : Hid (¬ es = es') := fun e => by
          have h1 := HE.out.1
          rw [e, HE.out.2, Option.some.injEq] at h1
          exact absurd (HQ.2 h1.symm) (by decide)
        clear HQ
        go_wp2_with fail
        go_quiet (fail)
        go_wp2_with fail
        go_ret
        exact ⟨tell_no HN.out, _, drew_drew w m _⟩
    · obtain rfl : k = n := by omega
      have HY : Hid (es = es') := list_eq_of (by omega) (fun j hj => HS.out j (by omega))
      clear h h' hl hl'
      go_wp2_with fail
      go_ret
      exact ⟨tell_yes HY.out, _, rfl⟩

set_option maxHeartbeats 400000 in
theorem sameEv_any (v v' : Value) (es es' : List Evt.Ev) (w : World) (h : Evs w v es) (h' : Evs w v' es') :
    Calls Try.prog 26 #[v, v'] w fun e w' => Tell e (es = es') ∧ ∃ m, w' = w.drewN m := by
  by_cases hl : es.length = es'.length
  · by_cases h0 : 1 ≤ es.length
    · obtain ⟨b, o, C, rfl, q1, q2, q3⟩ := h.some h0
      obtain ⟨b', o', C', rfl, q1', q2', q3'⟩ := h'.some (by omega)
      rw [← hl]
      exact sameEv_some b o b' o' es.length C C' es es' w (by omega) q3 q3' rfl hl.symm
    · obtain ⟨A, C, rfl⟩ := h.shape
      obtain ⟨A', C', rfl⟩ := h'.shape
      obtain rfl : es = [] := List.eq_nil_of_length_eq_zero (by omega)
      obtain rfl : es' = [] := List.eq_nil_of_length_eq_zero (by simpa using hl.symm)
      clear hl h0 h h'
      simp only [List.length_nil]
      go_enter Try.func26, Try.ntmps26
      go_wp2_with fail
      refine wp_loop_rounds 1 ?_
      rw [rounds_succ]
      go_wp2_with fail
      go_ret
      exact ⟨tell_yes trivial, 0, rfl⟩
  · obtain ⟨A, C, rfl⟩ := h.shape
    obtain ⟨A', C', rfl⟩ := h'.shape
    have hne : ((es.length : Int) != (es'.length : Int)) = true := by rw [bne_iff_ne]; omega
    have H : Hid (¬ es = es') := fun e => hl (by rw [e])
    clear hl h h'
    go_enter Try.func26, Try.ntmps26
    go_wp2_with fail
    go_ret
    exact ⟨tell_no H.out, 0, rfl⟩

theorem drewN_below (w : World) (m : Nat) : Below w.heap.size w (w.drewN m) := ⟨rfl, rfl, rfl, Nat.le_refl _, fun _ _ => rfl⟩
theorem dn_trans {w wr : World} (h : ∃ m, wr = w.drewN m) (q : Nat) : ∃ m, wr.drewN q = w.drewN m := by
  obtain ⟨m, rfl⟩ := h
  exact ⟨_, drew_drew w m q⟩
theorem sameEv_q {v v' : Value} {es es' : List Evt.Ev} {w : World} (h : Evs w v es) (h' : Evs w v' es') (y : Bool) (hy : y = true ↔ es = es') (n : Nat) :
    Calls Try.prog 26 #[v, v'] (w.drewN n) fun e w'' => e = .returned (.bool y) ∧ ∃ m, w'' = w.drewN m := by
  refine (sameEv_any v v' es es' (w.drewN n) (h.below (drewN_below w n)) (h'.below (drewN_below w n))).mono ?_
  rintro e w'' ⟨⟨x, rfl, hx⟩, m, rfl⟩
  have : x = y := by
    rw [Bool.eq_iff_iff]
    exact hx.trans hy.symm
  rw [this]
  exact ⟨rfl, _, drew_drew w n m⟩

set_option maxHeartbeats 1000000 in
theorem sameB_some (b o b' o' n C C' : Nat) (l l' : List Evt.Bat) (w : World) (hn : n ≤ 9223372036854775807) (h : ∀ i e, l[i]? = some e → BatIn w b (o + i * 2) e) (h' : ∀ i e, l'[i]? = some e → BatIn w b' (o' + i * 2) e) (hl : l.length = n) (hl' : l'.length = n) :
    Calls Try.prog 16 #[.slice (some ⟨b, o, none⟩) n C, .slice (some ⟨b', o', none⟩) n C'] w fun e w' => Tell e (l = l') ∧ ∃ m, w' = w.drewN m := by
  have HL : Hid (l.length = n ∧ l'.length = n) := ⟨hl, hl'⟩
  go_enter Try.func16, Try.ntmps16
  go_wp2_with fail
  go_loopw [13] (fun x wr => ∃ k : Nat, k ≤ n ∧ x = .int .i64 k ∧ Hid (∀ j, j < k → l[j]? = l'[j]?) ∧ Hid (∃ m, wr = w.drewN m)) (fun x _ => n - (intOf x).toNat)
  case atStart => exact ⟨0, Nat.zero_le _, rfl, fun j hj => absurd hj (Nat.not_lt_zero j), ⟨0, rfl⟩⟩
  case round =>
    obtain ⟨k, hk, rfl, HS, HM⟩ := hrel
    have hbw : Below w.heap.size w wr := by
      obtain ⟨m, e⟩ := HM.out
      rw [e]
      exact drewN_below w m
    by_cases hlt : k < n
    · have hlt' : (k : Int) < (n : Int) := by omega
      obtain ⟨x, hx⟩ : ∃ ev, l[k]? = some ev := ⟨l[k], List.getElem?_eq_getElem (by omega)⟩
      obtain ⟨x', hx'⟩ : ∃ ev, l'[k]? = some ev := ⟨l'[k], List.getElem?_eq_getElem (by omega)⟩
      obtain ⟨u, d0, d1, he⟩ := (h k x hx).below hbw
      obtain ⟨u', d0', d1', he'⟩ := (h' k x' hx').below hbw
      have HE : Hid (l[k]? = some x ∧ l'[k]? = some x') := ⟨hx, hx'⟩
      have HN0 : Hid (¬ x = x' → ¬ l = l') := fun q e => by
        rw [e, hx', Option.some.injEq] at hx
        exact q hx.symm
      clear h h' hx hx' hl hl'
      by_cases hc : x.cmd = x'.cmd
      · have hcn : (x.cmd != x'.cmd) = false := by rw [bne_eq_false_iff_eq]; exact hc
        have HC : Hid (x.cmd = x'.cmd) := hc
        clear hc
        by_cases hv : x.evs = x'.evs
        · have HQ := sameEv_q he he' true ⟨fun _ => hv, fun _ => rfl⟩
          have HR : Hid (x = x') := by
            obtain ⟨c1, e1⟩ := x
            obtain ⟨c2, e2⟩ := x'
            have := HC.out
            simp at this hv
            show _ = _
            rw [this, hv]
          clear hv he he'
          go_wp2_with fail
          go_quiet ((go_at_call 26; refine HQ _))
          go_wp2_with fail
          refine ⟨⟨k + 1, by omega, by go_num, fun j hj => ?_, dn_trans HM.out _⟩, by simp [intOf]; omega⟩
          by_cases e : j = k
          · rw [e, HE.out.1, HE.out.2, HR.out]
          · exact HS.out j (by omega)
        · have HQ := sameEv_q he he' false ⟨fun q => absurd q (by decide), fun q => absurd q hv⟩
          have HN : Hid (¬ l = l') := HN0.out (fun q => hv (by rw [q]))
          clear hv he he'
          go_wp2_with fail
          go_quiet ((go_at_call 26; refine HQ _))
          go_wp2_with fail
          go_ret
          exact ⟨tell_no HN.out, dn_trans HM.out _⟩
      · have hcn : (x.cmd != x'.cmd) = true := by rw [bne_iff_ne]; exact hc
        have HN : Hid (¬ l = l') := HN0.out (fun q => hc (by rw [q]))
        clear hc he he'
        go_wp2_with fail
        go_quiet (fail)
        go_wp2_with fail
        go_ret
        exact ⟨tell_no HN.out, dn_trans HM.out _⟩
    · obtain rfl : k = n := by omega
      have HY : Hid (l = l') := list_eq_of (by omega) (fun j hj => HS.out j (by omega))
      clear h h' hl hl'
      go_wp2_with fail
      go_ret
      exact ⟨tell_yes HY.out, HM.out⟩

set_option maxHeartbeats 400000 in
theorem sameB_any (v v' : Value) (l l' : List Evt.Bat) (w : World) (h : Bats w v l) (h' : Bats w v' l') :
    Calls Try.prog 16 #[v, v'] w fun e w' => Tell e (l = l') ∧ ∃ m, w' = w.drewN m := by
  by_cases hl : l.length = l'.length
  · by_cases h0 : 1 ≤ l.length
    · obtain ⟨b, o, C, rfl, q1, q2, q3⟩ := h.some h0
      obtain ⟨b', o', C', rfl, q1', q2', q3'⟩ := h'.some (by omega)
      rw [← hl]
      exact sameB_some b o b' o' l.length C C' l l' w (by omega) q3 q3' rfl hl.symm
    · obtain ⟨A, C, rfl, _⟩ := h
      obtain ⟨A', C', rfl, _⟩ := h'
      obtain rfl : l = [] := List.eq_nil_of_length_eq_zero (by omega)
      obtain rfl : l' = [] := List.eq_nil_of_length_eq_zero (by simpa using hl.symm)
      clear hl h0
      simp only [List.length_nil]
      go_enter Try.func16, Try.ntmps16
      go_wp2_with fail
      refine wp_loop_rounds 1 ?_
      rw [rounds_succ]
      go_wp2_with fail
      go_ret
      exact ⟨tell_yes trivial, 0, rfl⟩
  · obtain ⟨A, C, rfl, _⟩ := h
    obtain ⟨A', C', rfl, _⟩ := h'
    have hne : ((l.length : Int) != (l'.length : Int)) = true := by rw [bne_iff_ne]; omega
    have H : Hid (¬ l = l') := fun e => hl (by rw [e])
    clear hl
    go_enter Try.func16, Try.ntmps16
    go_wp2_with fail
    go_ret
    exact ⟨tell_no H.out, 0, rfl⟩

end Go.Proofs.Ytniaffofeeieead
