/-
  Whatever events that may come, and stream, there are: that stream's account is what its own events alone come to, and has as many events. No condition.
-/
import Derived.Test.YtabolanakcmgfaeRows
import Derived.Test.YtabolanakcmgfaeOpenV
import Derived.Test.YtabolanakcmgfaeVAlive
import Derived.Test.YtabolanakcmgfaeVSame
import Derived.ProofKit
import Derived.OpenShut
import Derived.Carry
import Derived.Deep.Cut
import Derived.Deep.CutRange
namespace Go.Proofs.Ytabolanakcmgfae.viewOthers
open Go.ChangeShapes Go.WideShapes Go.ChangeAt Go.RowKit
set_option linter.unusedVariables false

theorem own : ownKnob Try.prog.godebug = none := by kernel_rfl

theorem nb_ext {s s' : ByteArray} (h : nb s = nb s') : s = s' := by
  have := nb_inj.1 h
  rw [ByteArray.toList_eq, ByteArray.toList_eq] at this
  exact ByteArray.ext (Array.ext' this)
theorem ev_one (es : List EvC) : ∀ u ∈ es.flatMap evCells, u.oneCell' = true := fun u hu => by
  obtain ⟨x, _, hx⟩ := List.mem_flatMap.1 hu
  simp only [evCells, List.mem_cons, List.not_mem_nil, or_false] at hx
  rcases hx with rfl | rfl | rfl <;> rfl
/-- An event is appended to events of the call's own. -/
theorem app_ev (w : World) (N : Nat) (v : Value) (es : List EvC) (x : EvC) (h0 : EBuf w N v es) (hN : N ≤ w.heap.size) (hz : x.1.size ≤ 9223372036854775807) (hsz : es.length ≤ 100000) :
    ∃ v' w', (Builtin.append_ #[34, 34] 34 #[v, .slice (some ⟨w.heap.size, 0, none⟩) 1 1]).run Try.prog (w.alloc (.cells #[.string x.1, .int .i64 x.2.1, .int .i64 x.2.2] 42)) = .ok v' w' ∧ EBuf w' N v' (es ++ [x]) ∧ Below N w w' := by
  obtain ⟨i3, hi3, hh3⟩ := Option.map_eq_some_iff.1 Try.infoEvent
  simp only [Prod.mk.injEq] at hh3
  obtain ⟨hy0, hy1, hy2⟩ := hh3
  have bA : Below w.heap.size w (w.alloc (.cells #[.string x.1, .int .i64 x.2.1, .int .i64 x.2.2] 42)) := (Below.refl _ _).alloc (Nat.le_refl _) _
  have h1 := h0.below bA
  obtain ⟨v', w', hrun, ho, hg, _⟩ := run_append_own (P := Try.prog) (w.alloc (.cells #[.string x.1, .int .i64 x.2.1, .int .i64 x.2.2] 42)) N 34 34 42 i3 _ 3 32 Try.underlying34 hi3 hy0 hy1 hy2 rfl (by decide) v es.length _ h1.1 ⟨w.heap.size, 0, none⟩ 1 1 ([x].flatMap evCells) rfl (cells_new w _ 42) (ev_one [x]) (by unfold maxLen; omega) (by omega) (Nat.le_trans hN bA.size)
  refine ⟨v', w', hrun, ⟨?_, fun e he => ?_⟩, (bA.mono hN).trans ((Below.refl N _).grown hg (Nat.le_trans hN bA.size) (fun y hy => (h1.1.lt y hy).1))⟩
  · rw [List.length_append, List.flatMap_append]
    exact ho
  · rcases List.mem_append.1 he with q | q
    · exact h0.2 e q
    · rw [List.mem_singleton.1 q]
      exact hz
theorem own_next {es : List Evt.Ev} {k : Nat} {e : Evt.Ev} (h : es[k]? = some e) (p : Evt.Ev → Bool) : (es.take (k + 1)).filter p = (es.take k).filter p ++ (if p e = true then [e] else []) := by
  obtain ⟨hk, rfl⟩ := List.getElem?_eq_some_iff.1 h
  rw [List.take_succ_eq_append_getElem hk, List.filter_append]
  congr 1
  by_cases q : p es[k] = true
  · rw [if_pos q]
    simp [q]
  · rw [if_neg q]
    simp [q]

theorem two_below {w0 wX : World} {F : Nat} (hb : Below w0.heap.size w0 wX) (hF : w0.heap.size ≤ F) (a b : Value) : Below w0.heap.size w0 ((wX.setCell ⟨F, 0, none⟩ a).setCell ⟨F, 1, none⟩ b) := (hb.setCell hF _).setCell hF _
/-- The view's variable is made behind the call. -/
theorem cutA {w2 w5 : World} {F : Nat} {t : TypeId} {a b c d p v : Value} {l : List Vw.Acc} (W5 : VarF w5 F a b) (A5 : Accs w5 v l) (P5 : Past (F + 1) v) (hb : Below w2.heap.size w2 w5) (hF : w2.heap.size ≤ F) {G : Nat} {r s : Value} (hG : VarF w5 G r s) (hGF : G ≠ F) :
    VarF (((w5.setCell ⟨F, 0, none⟩ c).setCell ⟨F, 1, none⟩ d).alloc (.cells #[p, v] t)) G r s ∧ VarF (((w5.setCell ⟨F, 0, none⟩ c).setCell ⟨F, 1, none⟩ d).alloc (.cells #[p, v] t)) w5.heap.size p v ∧ VarF (((w5.setCell ⟨F, 0, none⟩ c).setCell ⟨F, 1, none⟩ d).alloc (.cells #[p, v] t)) F c d ∧ Accs (((w5.setCell ⟨F, 0, none⟩ c).setCell ⟨F, 1, none⟩ d).alloc (.cells #[p, v] t)) v l ∧ Below w2.heap.size w2 (((w5.setCell ⟨F, 0, none⟩ c).setCell ⟨F, 1, none⟩ d).alloc (.cells #[p, v] t)) := by
  have hs : ((w5.setCell ⟨F, 0, none⟩ c).setCell ⟨F, 1, none⟩ d).heap.size = w5.heap.size := by rw [Deep.nblk_setCell, Deep.nblk_setCell]
  have ba : Below ((w5.setCell ⟨F, 0, none⟩ c).setCell ⟨F, 1, none⟩ d).heap.size ((w5.setCell ⟨F, 0, none⟩ c).setCell ⟨F, 1, none⟩ d) (((w5.setCell ⟨F, 0, none⟩ c).setCell ⟨F, 1, none⟩ d).alloc (.cells #[p, v] t)) := (Below.refl _ _).alloc (Nat.le_refl _) _
  have h1 := varF_new ((w5.setCell ⟨F, 0, none⟩ c).setCell ⟨F, 1, none⟩ d) t p v
  rw [hs] at h1
  exact ⟨(hG.off (off_two w5 F c d) hGF).below ba, h1, (W5.set2 c d).below ba, (A5.off (off_two w5 F c d) (fun g hg e => by have := P5 g hg; omega)).below ba, bt (two_below hb hF c d) ba⟩
theorem keepG {F A B : Nat} {f a a' b b' : Value} {w0 wX w3 : World} (b3 : Below wX.heap.size wX w3) (h : wX.cell? ⟨F, 0, none⟩ = some f ∧ wX.cell? ⟨A, 0, none⟩ = some a ∧ wX.cell? ⟨A, 1, none⟩ = some a' ∧ wX.cell? ⟨B, 0, none⟩ = some b ∧ wX.cell? ⟨B, 1, none⟩ = some b' ∧ Below w0.heap.size w0 wX) :
    w3.cell? ⟨F, 0, none⟩ = some f ∧ w3.cell? ⟨A, 0, none⟩ = some a ∧ w3.cell? ⟨A, 1, none⟩ = some a' ∧ w3.cell? ⟨B, 0, none⟩ = some b ∧ w3.cell? ⟨B, 1, none⟩ = some b' ∧ Below w0.heap.size w0 w3 := by
  obtain ⟨h0, h1, h2, h3, h4, hb⟩ := h
  exact ⟨(b3.cell (p := ⟨F, 0, none⟩) (World.block_lt_of_cell? _ _ h0)).trans h0, (b3.cell (p := ⟨A, 0, none⟩) (World.block_lt_of_cell? _ _ h1)).trans h1, (b3.cell (p := ⟨A, 1, none⟩) (World.block_lt_of_cell? _ _ h2)).trans h2, (b3.cell (p := ⟨B, 0, none⟩) (World.block_lt_of_cell? _ _ h3)).trans h3, (b3.cell (p := ⟨B, 1, none⟩) (World.block_lt_of_cell? _ _ h4)).trans h4, bt hb b3⟩

set_option maxHeartbeats 8000000 in
set_option maxRecDepth 100000 in
theorem walk (w : World) (ve : Value) (es : List Evt.Ev) (he : Evs w ve es) (t : ByteArray) (ht0 : t.size ≤ maxLen) :
    Calls Try.prog 7 #[ve, .string t] w fun e w' => e = .returned (.bool true) ∧ Below w.heap.size w w' := by
  have ht : t.size ≤ 9223372036854775807 := by unfold maxLen at ht0; exact ht0
  have hel : es.length ≤ 9223372036854775807 := by
    obtain ⟨_, _, _, q1, q2, _⟩ := he
    unfold maxLen at q2
    omega
  have HFO := fun w' (hb : Below w.heap.size w w') => fold_any 0 (.slice none 0 0) _ [] es w' (Accs.nil w') (he.below hb)
  have HNM := fun w' => named_any t w' ht
  have HEV : Hid (∀ i e, es[i]? = some e → ∀ A C, ve = .slice A es.length C → ∃ b o, A = some ⟨b, o, none⟩ ∧ EvIn w b (o + i * 3) e) := fun i e hi A C hv => by
    obtain ⟨A', C', hv', _, _, h3⟩ := he
    rw [hv] at hv'
    cases hv'
    exact h3 i e hi
  obtain ⟨E, D, rfl⟩ := he.shape
  have HEV : Hid (∀ i e, es[i]? = some e → ∃ b o, E = some ⟨b, o, none⟩ ∧ EvIn w b (o + i * 3) e) := fun i e hi => HEV.out i e hi E D rfl
  clear he ht0
  go_enter Try.func7, Try.ntmps7
  go_wp2_with fail
  refine (alive7_any w).mono ?_
  rintro e w1 ⟨rfl, b1⟩
  go_wp2_with fail
  refine (HFO _ b1).mono ?_
  rintro e w2 ⟨⟨v2, rfl, A2, _⟩, b2⟩
  have b2 := bt b1 b2
  have HOT : Hid ((Vw.fold 0 [] es).1.1 = 0 → (Vw.fold 0 [] (es.filter fun e => decide (e.name = nb t))).1.1 = 0 ∧ Vw.get (Vw.fold 0 [] es).2.2 (nb t) = Vw.get (Vw.fold 0 [] (es.filter fun e => decide (e.name = nb t))).2.2 (nb t) ∧ (Vw.get (Vw.fold 0 [] es).2.2 (nb t)).cnt = ((es.filter fun e => decide (e.name = nb t)).length : Int)) := fun h => Vw.fold_others (nb t) h
  have HLN : Hid ((Vw.fold 0 [] es).1.1 = 0 → es.length ≤ 150) := fun h => by
    obtain ⟨h1, h2, _⟩ := Vw.fold_keeps h
    have := h1.hi
    omega
  unfold faultV
  generalize (Vw.fold 0 [] es).1.1 = x at HOT HLN ⊢
  generalize (Vw.fold 0 [] es).1.2 = y
  generalize (Vw.fold 0 [] es).2.1 = u2
  generalize (Vw.fold 0 [] es).2.2 = l2 at A2 HOT
  obtain ⟨Q2, C2, rfl⟩ := A2.shape
  clear HFO b1
  have h1 : Below w2.heap.size w2 (w2.alloc (.cells #[.int .i64 u2, .slice Q2 l2.length C2] 33)) := (Below.refl _ _).alloc (Nat.le_refl _) _
  have h2 := h1.alloc h1.size (.cells #[.int .i64 (x : Nat), .int .i64 (y : Nat)] 36)
  have hb2 : Below (w2.alloc (.cells #[.int .i64 u2, .slice Q2 l2.length C2] 33)).heap.size (w2.alloc (.cells #[.int .i64 u2, .slice Q2 l2.length C2] 33)) ((w2.alloc (.cells #[.int .i64 u2, .slice Q2 l2.length C2] 33)).alloc (.cells #[.int .i64 (x : Nat), .int .i64 (y : Nat)] 36)) := (Below.refl _ _).alloc (Nat.le_refl _) _
  have VA := (varF_new w2 33 (.int .i64 u2) (.slice Q2 l2.length C2)).below hb2
  have VF := varF_new (w2.alloc (.cells #[.int .i64 u2, .slice Q2 l2.length C2] 33)) 36 (.int .i64 (x : Nat)) (.int .i64 (y : Nat))
  rw [show (w2.alloc (.cells #[.int .i64 u2, .slice Q2 l2.length C2] 33)).heap.size = w2.heap.size + 1 by simp] at VF
  have A3 := A2.below h2
  have b3 := bt b2 h2
  have hroom0 : w2.heap.size + 1 < ((w2.alloc (.cells #[.int .i64 u2, .slice Q2 l2.length C2] 33)).alloc (.cells #[.int .i64 (x : Nat), .int .i64 (y : Nat)] 36)).heap.size := World.block_lt_of_cell? _ _ VF.c0
  have bz2 := h2
  clear h1 h2 hb2
  by_cases hx : x = 0
  case neg =>
    have hxe : ((x : Int) != 0) = true := by rw [bne_iff_ne]; omega
    clear hx
    go_wp2_with fail
    go_ret
    exact ⟨rfl, b3⟩
  have hxe : ((x : Int) != 0) = false := by rw [bne_eq_false_iff_eq]; omega
  have HOT : Hid ((Vw.fold 0 [] (es.filter fun e => decide (e.name = nb t))).1.1 = 0 ∧ Vw.get l2 (nb t) = Vw.get (Vw.fold 0 [] (es.filter fun e => decide (e.name = nb t))).2.2 (nb t) ∧ (Vw.get l2 (nb t)).cnt = ((es.filter fun e => decide (e.name = nb t)).length : Int)) := HOT.out hx
  have hl150 : es.length ≤ 150 := HLN.out hx
  clear hx HLN
  go_wp2_with fail
  generalize (w2.alloc (.cells #[.int .i64 u2, .slice Q2 l2.length C2] 33)).alloc (.cells #[.int .i64 (x : Nat), .int .i64 (y : Nat)] 36) = wz at VA VF A3 b3 hroom0 bz2 ⊢
  refine (HNM wz).mono ?_
  rintro e w3 ⟨⟨yn, rfl, hyn⟩, rfl⟩
  clear HNM hyn
  cases yn with
  | false =>
    go_wp2_with fail
    go_ret
    exact ⟨rfl, b3⟩
  | true =>
    go_wp2_with fail
    go_loopw [7, 29] (fun yv x wr => ∃ (k : Nat) (os : List EvC), k ≤ es.length ∧ x = .int .i64 k ∧ EBuf wr w3.heap.size yv os ∧ Hid (os.map evOf = (es.take k).filter fun e => decide (e.name = nb t)) ∧ Below w3.heap.size w3 wr) (fun _ x _ => es.length - (intOf x).toNat)
    case atStart => exact ⟨0, [], Nat.zero_le _, rfl, EBuf.nil w3 _, rfl, Below.refl _ _⟩
    case round =>
      obtain ⟨k, os, hk, rfl, BO, HO, hbr⟩ := hrel
      have hos : os.length ≤ 150 := by
        have h1 := congrArg List.length HO.out
        have h2 := List.length_filter_le (fun e : Evt.Ev => decide (e.name = nb t)) (es.take k)
        rw [List.length_map] at h1
        rw [List.length_take] at h2
        omega
      by_cases hlt : k < es.length
      · have hlt' : (k : Int) < (es.length : Int) := by omega
        obtain ⟨ev, hev⟩ : ∃ ev, es[k]? = some ev := ⟨es[k], List.getElem?_eq_getElem hlt⟩
        obtain ⟨b, o, rfl, hin⟩ := HEV.out k ev hev
        obtain ⟨s, hs1, hs2, d0, d1, d2⟩ := hin.below (bt b3 hbr)
        have HNX := own_next hev (fun e : Evt.Ev => decide (e.name = nb t))
        have HEE : Hid (evOf (s, ev.kind, ev.num) = ev) := by
          show (⟨nb s, ev.kind, ev.num⟩ : Evt.Ev) = ev
          rw [hs2]
        have HSE : Hid ((s.toList == t.toList) = decide (ev.name = nb t)) := by
          show _ = _
          rw [same_nb, hs2]
        have bA : Below wr.heap.size wr (wr.alloc (.cells #[.string s, .int .i64 ev.kind, .int .i64 ev.num] 42)) := (Below.refl _ _).alloc (Nat.le_refl _) _
        have BO := BO.below bA
        have hbr := bt hbr bA
        have VE := varE_new wr (.string s) (.int .i64 ev.kind) (.int .i64 ev.num)
        clear hev hs2 hin
        by_cases hq : ev.name = nb t
        · have HNX : Hid ((es.take (k + 1)).filter (fun e : Evt.Ev => decide (e.name = nb t)) = (es.take k).filter (fun e : Evt.Ev => decide (e.name = nb t)) ++ [ev]) := by
            show _ = _
            rw [HNX, if_pos (by simpa using hq)]
          have hse : (s.toList == t.toList) = true := by
            rw [HSE.out]
            simpa using hq
          obtain ⟨v', w', hrun, B', b'⟩ := app_ev _ w3.heap.size _ os (s, ev.kind, ev.num) BO hbr.size hs1 (by omega)
          have HB' : Hid (EBuf w' w3.heap.size v' (os ++ [(s, ev.kind, ev.num)]) ∧ Below w3.heap.size w3 w') := ⟨B', hbr.trans b'⟩
          have HM : Hid ((os ++ [(s, ev.kind, ev.num)]).map evOf = (es.take (k + 1)).filter (fun e : Evt.Ev => decide (e.name = nb t))) := by
            show _ = _
            rw [List.map_append, HO.out, HNX.out]
            show _ ++ [evOf (s, ev.kind, ev.num)] = _
            rw [HEE.out]
          obtain ⟨g0, g1, g2⟩ := VE
          rw [show (wr.alloc (.cells #[.string s, .int .i64 ev.kind, .int .i64 ev.num] 42)).heap.size = wr.heap.size + 1 by simp] at hrun
          clear hq B' b' BO
          go_wp2_with (at_builtin; refine Lib.wpList_append_run _ rfl _ _ _ _ rfl _ _ rfl rfl _ _ hrun ?_)
          exact ⟨⟨k + 1, _, by omega, by go_num, HB'.out.1, HM.out, HB'.out.2⟩, by simp [intOf]; omega⟩
        · have HNX : Hid ((es.take (k + 1)).filter (fun e : Evt.Ev => decide (e.name = nb t)) = (es.take k).filter (fun e : Evt.Ev => decide (e.name = nb t))) := by
            show _ = _
            rw [HNX, if_neg (by simpa using hq), List.append_nil]
          have hse : (s.toList == t.toList) = false := by
            rw [HSE.out]
            simpa using hq
          have HM : Hid (os.map evOf = (es.take (k + 1)).filter (fun e : Evt.Ev => decide (e.name = nb t))) := by
            show _ = _
            rw [HO.out, HNX.out]
          clear hq
          go_wp2_with fail
          exact ⟨⟨k + 1, os, by omega, by go_num, BO, HM.out, hbr⟩, by simp [intOf]; omega⟩
      · obtain rfl : k = es.length := by omega
        rw [List.take_length] at HO
        have hol : os.length = (es.filter fun e => decide (e.name = nb t)).length := by rw [← HO.out, List.length_map]
        have VA := VA.below hbr
        have VF := VF.below hbr
        have A3 := A3.below hbr
        have bz := bt b3 hbr
        have HF3 := fold_any 0 (.slice none 0 0) _ [] _ wr (Accs.nil wr) BO.evs
        rw [HO.out] at HF3
        obtain ⟨Ao, Co, hvo⟩ := BO.evs.shape
        rw [HO.out] at hvo
        subst hvo
        obtain ⟨⟨⟨x5, y5⟩, u5, l5⟩, hr5⟩ : ∃ q, Vw.fold 0 [] (es.filter fun e => decide (e.name = nb t)) = q := ⟨_, rfl⟩
        have hot := HOT.out
        rw [hr5] at HF3 hot
        obtain ⟨p1, p2, p30⟩ := hot
        have p1 : x5 = 0 := p1
        subst p1
        have p2 : Vw.get l2 (nb t) = Vw.get l5 (nb t) := p2
        have hgn : (Vw.get l2 (nb t)).name = nb t := Vw.get_name l2 (nb t)
        obtain ⟨g, hg⟩ : ∃ g, Vw.get l2 (nb t) = g := ⟨_, rfl⟩
        have hg5 : Vw.get l5 (nb t) = g := p2.symm.trans hg
        rw [hg] at p30 hgn
        have p3 : Hid (g.cnt = ((es.filter fun e => decide (e.name = nb t)).length : Int)) := p30
        clear p30
        generalize (es.filter fun e => decide (e.name = nb t)).length = m at p3 hol HF3 ⊢
        clear HOT hr5 p2 BO HO
        have hF3 : w2.heap.size + 1 < w3.heap.size := by
          exact hroom0
        go_wp2_with fail
        refine HF3.mono ?_
        rintro e w5 ⟨⟨v5, rfl, A5, P5⟩, b5⟩
        have A5 : Accs w5 v5 l5 := A5
        obtain ⟨Q5, C5, rfl⟩ := A5.shape
        have hsz := hbr.size
        have VA5 := VA.below b5
        have VF5 := VF.below b5
        have A35 := A3.below b5
        obtain ⟨q0, q1, q2, q3, q4⟩ := cutA (t := 33) (c := .int .i64 0) (d := .int .i64 (y5 : Nat)) (p := .int .i64 u5) (w2 := w2) VF5 A5 (P5.mono (by omega)) (bt (bt bz2 hbr) b5) (by omega) VA5 (by omega)
        have A36 := A2.below q4
        have q4 := bt b2 q4
        obtain ⟨c0, c1, fr⟩ := VF5
        have f0 := fr 0
        have f1 := fr 1
        have hn5 : w2.heap.size + 1 < w5.heap.size := World.block_lt_of_cell? _ _ c0
        have hn6 : w2.heap.size + 1 ≠ w5.heap.size := by omega
        have hn7 : w5.heap.size ≠ w2.heap.size + 1 := by omega
        clear HF3 b5 A5 VA5 A35 P5
        unfold faultV
        go_wp2_with fail
        generalize ((w5.setCell ⟨w2.heap.size + 1, 0, none⟩ (.int .i64 0)).setCell ⟨w2.heap.size + 1, 1, none⟩ (.int .i64 (y5 : Nat))).alloc (.cells #[.int .i64 u5, .slice Q5 l5.length C5] 33) = w6 at q0 q1 q2 q3 q4 A36 ⊢
        have HG : ∀ (u' : Int) (v' : Value), (u' = u2 ∧ v' = .slice Q2 l2.length C2) ∨ (u' = u5 ∧ v' = .slice Q5 l5.length C5) → ∀ w', w'.cell? ⟨w2.heap.size + 1, 0, none⟩ = some (.int .i64 0) ∧ w'.cell? ⟨w2.heap.size, 0, none⟩ = some (.int .i64 u2) ∧ w'.cell? ⟨w2.heap.size, 1, none⟩ = some (.slice Q2 l2.length C2) ∧ w'.cell? ⟨w5.heap.size, 0, none⟩ = some (.int .i64 u5) ∧ w'.cell? ⟨w5.heap.size, 1, none⟩ = some (.slice Q5 l5.length C5) ∧ Below w6.heap.size w6 w' → Calls Try.prog 13 #[.agg #[.int .i64 u', v'], .string t] w' fun e w'' => e = .returned (.agg #[.string t, .int .i64 g.sum, .int .i64 g.cnt, .bool g.opn]) ∧ Below w'.heap.size w' w'' := fun u' v' hx w' hS => by
          have told : ∀ e, GetO e g → e = .returned (.agg #[.string t, .int .i64 g.sum, .int .i64 g.cnt, .bool g.opn]) := fun e ⟨v, he, s, _, h2, h3⟩ => by
            rw [he, h3, nb_ext (h2.trans hgn)]
          rcases hx with ⟨rfl, rfl⟩ | ⟨rfl, rfl⟩
          · have h := get_any u' t (.slice Q2 l2.length C2) l2 w' (A36.below hS.2.2.2.2.2) ht
            rw [hg] at h
            exact h.mono (fun e w'' q => ⟨told e q.1, q.2⟩)
          · have h := get_any u' t (.slice Q5 l5.length C5) l5 w' (q3.below hS.2.2.2.2.2) ht
            rw [hg5] at h
            exact h.mono (fun e w'' q => ⟨told e q.1, q.2⟩)
        have TD : w6.drew.cell? ⟨w2.heap.size + 1, 0, none⟩ = some (.int .i64 0) ∧ w6.drew.cell? ⟨w2.heap.size, 0, none⟩ = some (.int .i64 u2) ∧ w6.drew.cell? ⟨w2.heap.size, 1, none⟩ = some (.slice Q2 l2.length C2) ∧ w6.drew.cell? ⟨w5.heap.size, 0, none⟩ = some (.int .i64 u5) ∧ w6.drew.cell? ⟨w5.heap.size, 1, none⟩ = some (.slice Q5 l5.length C5) ∧ Below w6.heap.size w6 w6.drew := ⟨q2.c0, q0.c0, q0.c1, q1.c0, q1.c1, (Below.refl _ _).drew⟩
        have hgd : Try.prog.eqGuardType Try.prog.depth 39 = false := by kernel_rfl
        have fA := field_acc2 t g.sum g.cnt g.opn
        obtain ⟨yq, hyq, hqe, _⟩ := acc_eq (a := g) (a' := g) ⟨t, ht, hgn.symm, rfl⟩ ⟨t, ht, hgn.symm, rfl⟩
        have hyt : yq = true := hyq.2 rfl
        subst hyt
        clear hyq hgn
        have hcm : (g.cnt == (m : Int)) = true := by rw [beq_iff_eq]; exact p3.out
        clear c0 c1 fr f0 f1 q0 q1 q2 q3 A36 hg hg5 p3 HEV hbr VA VF A3 A2 b3 bz bz2 b2 hol hos hroom0 hF3 hsz hn5 hn6 hn7 hxe hl150 hel
        go_region_held3 (fun w' => w'.cell? ⟨w2.heap.size + 1, 0, none⟩ = some (.int .i64 0) ∧ w'.cell? ⟨w2.heap.size, 0, none⟩ = some (.int .i64 u2) ∧ w'.cell? ⟨w2.heap.size, 1, none⟩ = some (.slice Q2 l2.length C2) ∧ w'.cell? ⟨w5.heap.size, 0, none⟩ = some (.int .i64 u5) ∧ w'.cell? ⟨w5.heap.size, 1, none⟩ = some (.slice Q5 l5.length C5) ∧ Below w6.heap.size w6 w')
          (first | with_reducible exact TD | with_reducible assumption | with_reducible exact keepG (by assumption) (by assumption))
          (first | (go_at_call 13; refine (HG _ _ (by first | exact Or.inl ⟨rfl, rfl⟩ | exact Or.inr ⟨rfl, rfl⟩) _ (by assumption)).mono ?_; rintro e7 w7 ⟨rfl, b7⟩; have S7 := keepG b7 (by assumption)))
        have bf := bt q4 S7.2.2.2.2.2
        go_wp2_with fail
        go_ret
        exact ⟨rfl, bf⟩

set_option maxRecDepth 100000 in
theorem lifted (os : Os) (started : os.Started) (H : Type) (enc : TypeId × Value → H) :
    ReturnsInHanded {} Try.checked os 7 .any (Rows.viewOthersSpec.pre6 enc Try.prog Try.f7 Rows.viewOthersRow.domain false) (Rows.viewOthersSpec.post enc Try.prog Try.f7 false true false false) := by
  refine returnsInHanded_of_change (C := Try.checked) own started (by kernel_rfl) Try.func7
    (ChangeSpec.witness6 (enc := enc) (C := Try.checked) false ⟨#[], #[.slice none 0 0, .string ByteArray.empty], []⟩ 8 (by kernel_rfl) (by kernel_rfl) (by kernel_rfl) (by kernel_rfl)) ?_
  intro W base args ds gs before hval0 hW hcnd _
  have hval : ∀ (j : Nat) t v, Try.f7.params[j]? = some t → args[j]? = some v → Value.okWide Try.prog W .any base t v := hval0
  have hW' := hW
  obtain ⟨p, q, hA0, hV, rfl, hfz, hnd⟩ := hW
  have hA : DataW.TrodAll enc Try.prog W 0 (fun _ => true) true Try.f7.params.toList args.toList ds p := hA0
  rw [Try.params7] at hA hval
  obtain ⟨v0, vs0, d0, ds0, p0, q0, hargs, rfl, rfl, h0, r0⟩ := trodAll_cons hA
  obtain ⟨v1, vs1, d1, ds1, p1, q1, rfl, rfl, rfl, h1, r1⟩ := trodAll_cons r0
  obtain ⟨rfl, rfl, rfl⟩ := trodAll_nil r1
  obtain rfl : args = #[v0, v1] := by cases args; simp_all
  obtain ⟨rfl, rfl⟩ := trodVars_none hV
  obtain ⟨a0, l0, c0, rfl⟩ := okWide_slice Try.underlying34 (hval 0 34 v0 rfl rfl)
  have k0 := h0
  have lt0 : ∀ x ∈ p0, x.block < W.heap.size := by obtain ⟨m, hm⟩ := k0; exact DataW.trod_lt m _ _ _ hm
  obtain ⟨f0, g0⟩ := evs_of h0
  have k1 := h1
  have lt1 : ∀ x ∈ p1, x.block < W.heap.size := by obtain ⟨m, hm⟩ := k1; exact DataW.trod_lt m _ _ _ hm
  obtain ⟨s1, rfl, g1⟩ := string_of (hval 1 9 v1 rfl rfl) h1
  clear hA0 hval0
  refine (walk W _ _ g0 s1 g1).mono fun e W' ⟨he, bel⟩ => ?_
  subst he
  exact ⟨_, rfl, _, _, _, [], _, [], hW', trodAll_mk1 (shut_bool Try.underlying4 _), (trodAll_cons_mk (Below.trod Try.laidOut (by kernel_rfl) (of_decide_eq_true (by kernel_rfl)) k0 bel lt0) (trodAll_cons_mk (Below.trod Try.laidOut (by kernel_rfl) (of_decide_eq_true (by kernel_rfl)) k1 bel lt1) trodAll_mk0)), rfl, bel.frame _, fun h => by cases h⟩

theorem over : Rows.viewOthersRow.holds Try.pinned (OpenSpec.ofChange Rows.viewOthersSpec) :=
  OpenClaim.holds_of_wide 7 Try.f7 rfl rfl rfl rfl rfl rfl rfl ⟨rfl, rfl, rfl, rfl, rfl⟩ rfl rfl rfl rfl rfl (by kernel_rfl) Try.func7 (by kernel_rfl)
    (of_decide_eq_true (by kernel_rfl)) (by unfold Func.isWrapper; first | (rw [if_pos (by decide +kernel)]; kernel_rfl) | (rw [if_neg (by decide +kernel)]; exact ⟨rfl, rfl⟩))
    (fun os started H enc _ => lifted os started H enc)
end Go.Proofs.Ytabolanakcmgfae.viewOthers

namespace Go.Proofs.Ytabolanakcmgfae
theorem viewOthers_holds : Rows.ViewOthersSaid := viewOthers.over
#print axioms viewOthers_holds
end Go.Proofs.Ytabolanakcmgfae
