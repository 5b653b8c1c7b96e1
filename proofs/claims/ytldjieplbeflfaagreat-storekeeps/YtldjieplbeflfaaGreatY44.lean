/-
  Texts of the proof, joined: HOnceW, HAnsw, HPutL.
-/
import Derived.Test.YtldjieplbeflfaaGreatY43
import Derived.Laws.AppendOwn
import Derived.Test.YtldjieplbeflfaaGreatY42
namespace Go.Proofs.YtldjieplbeflfaaGreat
open Go.RowKit Go.Maps

set_option maxHeartbeats 2000000 in
set_option maxRecDepth 100000 in
theorem once_any (l : List Sto.Do) (v : Value) (w : World) (hD : Dos w v l) (hz : ∀ d, d ∈ l → RngD d) (hl : l.length ≤ 80) :
    Calls Tryz.prog 11 #[v] w fun e w' => OnceY e l ∧ Below w.heap.size w w' := by
  obtain ⟨A, C, rfl, hA1, hA2, hdo⟩ := hD
  have hA2' : C ≤ 9223372036854775807 := by unfold maxLen at hA2; exact hA2
  have HDO : Hid (∀ i d, l[i]? = some d → ∃ b o, A = some ⟨b, o, none⟩ ∧ DoAt w b (o + i * 9) d) := hdo
  have HZ : Hid (∀ d, d ∈ l → RngD d) := hz
  have H0 : ∃ m, OnceS w (w.alloc (.map #[] 0)) l 0 m := ⟨0, hadP_start w, fun j d hj => absurd hj (Nat.not_lt_zero j), (Below.refl _ _).alloc (Nat.le_refl _) _, Nat.le_refl _⟩
  obtain ⟨n, hn⟩ : ∃ n, n = l.length := ⟨_, rfl⟩
  rw [← hn] at hl hA1 ⊢
  have HN : Hid (n = l.length) := hn
  have hmm := @run_makeMap Tryz.prog
  clear hdo hz hA2 hn
  go_enter Tryz.func11, Tryz.ntmps11
  go_wp2_with fail
  generalize w.alloc (.map #[] 0) = w1 at *
  go_loopw [10] (fun x wr => ∃ k : Nat, k ≤ n ∧ x = .int .i64 k ∧ Hid (∃ m, OnceS w wr l k m)) (fun x _ => n - (intOf x).toNat)
  case atStart => exact ⟨0, Nat.zero_le _, rfl, H0⟩
  case round =>
    obtain ⟨k, hk, rfl, HS⟩ := hrel
    by_cases hlt : k < n
    · have hlt' : (k : Int) < (n : Int) := by omega
      obtain ⟨m, hS⟩ := HS.out
      obtain ⟨d, hx⟩ : ∃ d, l[k]? = some d := ⟨l[k]'(by rw [← HN.out]; exact hlt), List.getElem?_eq_getElem _⟩
      obtain ⟨b, o, rfl, ve, t, hdin, hcs⟩ := HDO.out k d hx
      obtain ⟨Ae, Ce, rfl⟩ := hdin.evs.shape
      obtain ⟨hr1, hr2⟩ := HZ.out d (List.mem_of_getElem? hx)
      have hc : ∀ j u, (doCells d (.slice Ae d.bat.evs.length Ce) t)[j]? = some u → wr.cell? ⟨b, o + k * 9 + j, none⟩ = some u := fun j u hj => (hS.bel.cell (p := ⟨b, o + k * 9 + j, none⟩) (World.block_lt_of_cell? _ _ (hcs j u hj))).trans (hcs j u hj)
      have c0 : wr.cell? ⟨b, o + k * 9, none⟩ = some (.int .i64 d.kind) := hc 0 _ rfl
      have c1 := hc 1 _ rfl
      have c2 := hc 2 _ rfl
      have c3 := hc 3 _ rfl
      have c4 := hc 4 _ rfl
      have c5 := hc 5 _ rfl
      have c6 := hc 6 _ rfl
      have c7 := hc 7 _ rfl
      have c8 := hc 8 _ rfl
      have bB : Below wr.heap.size wr ((wr.alloc (.cells #[.int .i64 d.kind, .int .i64 d.n, .int .i64 d.seg, .int .i64 d.pos, .int .u8 (d.turn : Int), .int .i64 d.bat.cmd, .slice Ae d.bat.evs.length Ce, .string t, .int .i64 d.ver] 43)).alloc (.cells #[.int .i64 d.n, .int .i64 d.seg] 72)) := ((Below.refl _ _).alloc (Nat.le_refl _) _).alloc ((Below.refl _ _).alloc (Nat.le_refl _) _).size _
      by_cases k7 : d.kind = 7
      · have kb : (d.kind == 7) = true := beq_iff_eq.2 k7
        by_cases t0 : d.turn = 0
        · have tb : ((d.turn : Int) != 0) = false := by rw [t0]; rfl
          have HNX : ∃ m, OnceS w _ l (k + 1) m := ⟨m, hS.skip bB hx fun z => z.2 t0⟩
          clear hS hcs hdin hx k7 t0 HS hc bB hr1 hr2
          go_wp2_with fail
          exact ⟨⟨k + 1, by omega, by go_num, HNX⟩, by simp [intOf]; omega⟩
        · have tb : ((d.turn : Int) != 0) = true := by rw [bne_iff_ne]; omega
          have hlook := (hS.had.below bB).look d.n d.seg hr1 hr2
          by_cases hm : (d.n, d.seg) ∈ hads (l.take k) []
          · rw [decide_eq_true hm] at hlook
            have HF : Hid (OnceY (.returned (.bool false)) l ∧ Below w.heap.size w ((wr.alloc (.cells #[.int .i64 d.kind, .int .i64 d.n, .int .i64 d.seg, .int .i64 d.pos, .int .u8 (d.turn : Int), .int .i64 d.bat.cmd, .slice Ae d.bat.evs.length Ce, .string t, .int .i64 d.ver] 43)).alloc (.cells #[.int .i64 d.n, .int .i64 d.seg] 72))) := ⟨⟨false, rfl, fun q => by cases q⟩, bt hS.bel bB⟩
            clear hS hcs hdin hx k7 t0 HS hc bB hr1 hr2 hm
            go_wp2_with fail
            go_ret
            exact HF.out
          · rw [decide_eq_false hm] at hlook
            obtain ⟨D, hoM, hat⟩ := hS.had.below bB
            have hisM := isMapP hoM
            have hm80 := hS.num
            have HS2 : Hid (OnceS w wr l k m) := hS
            have HAT : Hid (∀ i j : Int, In64 i → In64 j → D.atKey (keyP i j) (.lit (.bool false)) = .lit (.bool (decide ((i, j) ∈ hads (l.take k) [])))) := hat
            have HXX : Hid (l[k]? = some d ∧ (d.kind = 7 ∧ d.turn ≠ 0) ∧ (d.n, d.seg) ∉ hads (l.take k) []) := ⟨hx, ⟨k7, t0⟩, hm⟩
            have HRR : Hid (In64 d.n ∧ In64 d.seg) := ⟨hr1, hr2⟩
            have HBB : Hid (Below wr.heap.size wr ((wr.alloc (.cells #[.int .i64 d.kind, .int .i64 d.n, .int .i64 d.seg, .int .i64 d.pos, .int .u8 (d.turn : Int), .int .i64 d.bat.cmd, .slice Ae d.bat.evs.length Ce, .string t, .int .i64 d.ver] 43)).alloc (.cells #[.int .i64 d.n, .int .i64 d.seg] 72))) := bB
            clear hS hcs hdin hx k7 t0 HS hm hat hc bB hr1 hr2
            go_wp2_with (at_mapUpdate; refine wpList_mapUpdate_own _ rfl (.tmp 30) (.tmp 31) (.const (.bool true)) 71 rfl 72 4 keyedP Tryz.mapPB (plainElem Tryz.prog 4) w.heap.size m D rfl hoM (by unfold maxLen; omega) (.agg #[.int .i64 d.n, .int .i64 d.seg]) (.bool true) (keyP d.n d.seg) rfl rfl (keyP_of _ _ HRR.out.1 HRR.out.2) (.lit (.bool true)) [] (plainElem_bool Tryz.underlying4 true) ?_; intro w2 hM2 hgM)
            have hS := HS2.out
            have b01 := bt hS.bel HBB.out
            have b02 : Below w.heap.size w w2 := b01.grown hgM b01.size (fun y hy => by cases hy; exact Nat.le_refl _)
            have hh2 := HadP.put HRR.out.1 HRR.out.2 HAT.out hisM hM2
            refine ⟨⟨k + 1, by omega, by go_num, ⟨_, hS.more b02 HXX.out.1 HXX.out.2.1 HXX.out.2.2 hh2 (by omega)⟩⟩, by simp [intOf]; omega⟩
      · have kb : (d.kind == 7) = false := by rw [beq_eq_false_iff_ne]; exact k7
        have HNX : ∃ m, OnceS w _ l (k + 1) m := ⟨m, hS.skip bB hx fun z => k7 z.1⟩
        clear hS hcs hdin hx k7 HS hc bB hr1 hr2
        go_wp2_with fail
        exact ⟨⟨k + 1, by omega, by go_num, HNX⟩, by simp [intOf]; omega⟩
    · obtain rfl : k = n := by omega
      obtain ⟨m, hS⟩ := HS.out
      have HF : Hid (OnceY (.returned (.bool true)) l ∧ Below w.heap.size w wr) := ⟨⟨true, rfl, fun _ => once_of l [] fun j d hj => hS.ok j d (by
        have := (List.getElem?_eq_some_iff.1 hj).1
        rw [HN.out]
        exact this) hj⟩, hS.bel⟩
      clear hS HS
      go_wp2_with fail
      go_ret
      exact HF.out

end Go.Proofs.YtldjieplbeflfaaGreat

namespace Go.Proofs.YtldjieplbeflfaaGreat
open Go.RowKit

/-- The variables of answers: what was done, what was told. -/
structure AnsW (w w2 : World) (d : Sto.Do) (Ae : Option Addr) (Ce : Nat) (t : ByteArray) (a : Sto.Ans) (ve va : Value) : Prop where
  vd : VarN w2 w.heap.size 43 (doCells d (.slice Ae d.bat.evs.length Ce) t)
  va : VarN w2 (w.heap.size + 1) 45 [.int .i64 (a.err : Nat), .int .i64 a.n, ve, .int .i64 a.vu, va]
  bel : Below w.heap.size w w2
theorem AnsW.below {w w2 w' : World} {d : Sto.Do} {Ae : Option Addr} {Ce : Nat} {t : ByteArray} {a : Sto.Ans} {ve va : Value} (h : AnsW w w2 d Ae Ce t a ve va) (hb : Below w2.heap.size w2 w') : AnsW w w' d Ae Ce t a ve va := ⟨h.vd.below hb, h.va.below hb, bt h.bel hb⟩
theorem ansW_new (w : World) (d : Sto.Do) (Ae : Option Addr) (Ce : Nat) (t : ByteArray) (a : Sto.Ans) (ve va : Value) : AnsW w ((w.alloc (.cells #[.int .i64 d.kind, .int .i64 d.n, .int .i64 d.seg, .int .i64 d.pos, .int .u8 (d.turn : Int), .int .i64 d.bat.cmd, .slice Ae d.bat.evs.length Ce, .string t, .int .i64 d.ver] 43)).alloc (.cells #[.int .i64 (a.err : Nat), .int .i64 a.n, ve, .int .i64 a.vu, va] 45)) d Ae Ce t a ve va := by
  have b1 : Below w.heap.size w (w.alloc (.cells #[.int .i64 d.kind, .int .i64 d.n, .int .i64 d.seg, .int .i64 d.pos, .int .u8 (d.turn : Int), .int .i64 d.bat.cmd, .slice Ae d.bat.evs.length Ce, .string t, .int .i64 d.ver] 43)) := (Below.refl _ _).alloc (Nat.le_refl _) _
  have V := varN_new (w.alloc (.cells #[.int .i64 d.kind, .int .i64 d.n, .int .i64 d.seg, .int .i64 d.pos, .int .u8 (d.turn : Int), .int .i64 d.bat.cmd, .slice Ae d.bat.evs.length Ce, .string t, .int .i64 d.ver] 43)) #[.int .i64 (a.err : Nat), .int .i64 a.n, ve, .int .i64 a.vu, va] 45
  rw [show (w.alloc (.cells #[.int .i64 d.kind, .int .i64 d.n, .int .i64 d.seg, .int .i64 d.pos, .int .u8 (d.turn : Int), .int .i64 d.bat.cmd, .slice Ae d.bat.evs.length Ce, .string t, .int .i64 d.ver] 43)).heap.size = w.heap.size + 1 by simp] at V
  exact ⟨(varN_new w #[.int .i64 d.kind, .int .i64 d.n, .int .i64 d.seg, .int .i64 d.pos, .int .u8 (d.turn : Int), .int .i64 d.bat.cmd, .slice Ae d.bat.evs.length Ce, .string t, .int .i64 d.ver] 43).below ((Below.refl _ _).alloc (Nat.le_refl _) _), V, b1.alloc b1.size _⟩
section
variable (d : Sto.Do) (Ae : Option Addr) (Ce : Nat) (t : ByteArray) (a : Sto.Ans) (ve va v : Value) (N : Nat) (es : List EvC) (w : World)
/-- The call. -/
abbrev AnsC (d : Sto.Do) (Ae : Option Addr) (Ce : Nat) (t : ByteArray) (a : Sto.Ans) (ve va v : Value) (w : World) : Prop := Calls Tryz.prog 12 #[.agg #[.int .i64 d.kind, .int .i64 d.n, .int .i64 d.seg, .int .i64 d.pos, .int .u8 (d.turn : Int), .int .i64 d.bat.cmd, .slice Ae d.bat.evs.length Ce, .string t, .int .i64 d.ver], .agg #[.int .i64 (a.err : Nat), .int .i64 a.n, ve, .int .i64 a.vu, va], v] w fun e w' => e = .returned (.bool true) ∧ Below w.heap.size w w'
set_option maxHeartbeats 2000000 in
set_option maxRecDepth 100000 in
/-- None of those that ask. -/
theorem answers_else (h2 : d.kind ≠ 2) (h3 : d.kind ≠ 3) (h4 : d.kind ≠ 4) (A' : Option Addr) (n' C' : Nat) : AnsC d Ae Ce t a ve va (.slice A' n' C') w := by
  have HW := ansW_new w d Ae Ce t a ve va
  have k2 : (d.kind == 2) = false := by rw [beq_eq_false_iff_ne]; exact h2
  have k3 : (d.kind == 3) = false := by rw [beq_eq_false_iff_ne]; exact h3
  have k4 : (d.kind == 4) = false := by rw [beq_eq_false_iff_ne]; exact h4
  clear h2 h3 h4
  go_enter Tryz.func12, Tryz.ntmps12
  go_upto_region 1 with fail
  generalize (w.alloc (.cells #[.int .i64 d.kind, .int .i64 d.n, .int .i64 d.seg, .int .i64 d.pos, .int .u8 (d.turn : Int), .int .i64 d.bat.cmd, .slice Ae d.bat.evs.length Ce, .string t, .int .i64 d.ver] 43)).alloc (.cells #[.int .i64 (a.err : Nat), .int .i64 a.n, ve, .int .i64 a.vu, va] 45) = w2 at *
  have c0 := HW.vd.cell (i := 0) rfl
  have hb := HW.bel
  clear HW
  go_wp2_with fail
  go_ret
  exact ⟨rfl, hb⟩
set_option maxHeartbeats 2000000 in
set_option maxRecDepth 100000 in
/-- All events from a number on. -/
theorem answers_all (h3 : d.kind = 3) (hB : EBuf w N v es) (hes : es.length ≤ 1000) (hev : Evs w ve a.evs)
    (h : if d.n < 0 ∨ ((es.map evOf).length : Int) < d.n then a.err = 3 else a.err = 0 ∧ a.n = (es.map evOf).length ∧ a.evs = (es.map evOf).drop d.n.toNat) : AnsC d Ae Ce t a ve va v w := by
  have HW := ansW_new w d Ae Ce t a ve va
  have k3 : (d.kind == 3) = true := beq_iff_eq.2 h3
  obtain ⟨L, hL⟩ : ∃ L, L = es.length := ⟨_, rfl⟩
  rw [List.length_map, ← hL] at h
  by_cases q : d.n < 0 ∨ (L : Int) < d.n
  · rw [if_pos q] at h
    have he3 : ((a.err : Int) == 3) = true := by rw [h]; rfl
    obtain ⟨A, C, rfl⟩ := hB.shape
    rw [← hL]
    by_cases q0 : d.n < 0
    · clear hB hev h q h3 hL
      go_enter Tryz.func12, Tryz.ntmps12
      go_upto_region 1 with fail
      generalize (w.alloc (.cells #[.int .i64 d.kind, .int .i64 d.n, .int .i64 d.seg, .int .i64 d.pos, .int .u8 (d.turn : Int), .int .i64 d.bat.cmd, .slice Ae d.bat.evs.length Ce, .string t, .int .i64 d.ver] 43)).alloc (.cells #[.int .i64 (a.err : Nat), .int .i64 a.n, ve, .int .i64 a.vu, va] 45) = w2 at *
      have c0 := HW.vd.cell (i := 0) rfl
      have c1 := HW.vd.cell (i := 1) rfl
      have a0 := HW.va.cell (i := 0) rfl
      have hb := HW.bel
      clear HW
      go_wp2_with fail
      go_ret
      exact ⟨rfl, hb⟩
    · have q1 : (L : Int) < d.n := by omega
      clear hB hev h q h3 hL
      go_enter Tryz.func12, Tryz.ntmps12
      go_upto_region 1 with fail
      generalize (w.alloc (.cells #[.int .i64 d.kind, .int .i64 d.n, .int .i64 d.seg, .int .i64 d.pos, .int .u8 (d.turn : Int), .int .i64 d.bat.cmd, .slice Ae d.bat.evs.length Ce, .string t, .int .i64 d.ver] 43)).alloc (.cells #[.int .i64 (a.err : Nat), .int .i64 a.n, ve, .int .i64 a.vu, va] 45) = w2 at *
      have c0 := HW.vd.cell (i := 0) rfl
      have c1 := HW.vd.cell (i := 1) rfl
      have a0 := HW.va.cell (i := 0) rfl
      have hb := HW.bel
      clear HW
      go_wp2_with fail
      go_ret
      exact ⟨rfl, hb⟩
  · rw [if_neg q] at h
    obtain ⟨e1, e2, e3⟩ := h
    obtain ⟨m, hm⟩ : ∃ m : Nat, d.n = (m : Int) := ⟨d.n.toNat, by omega⟩
    rw [hm, Int.toNat_natCast] at e3
    have hmL : m ≤ L := by omega
    have x1 : ((a.err : Int) == 0) = true := by rw [e1]; rfl
    have x2 : (a.n == (L : Int)) = true := by rw [e2]; exact beq_iff_eq.2 rfl
    have q1 : ¬ (m : Int) < 0 := by omega
    have q2 : ¬ (L : Int) < (m : Int) := by omega
    have bW := HW.bel
    obtain ⟨A', C', hve⟩ := hev.shape
    obtain ⟨M, hM⟩ : ∃ M, M = a.evs.length := ⟨_, rfl⟩
    rw [← hM] at hve
    subst hve
    have HEV : Hid (∀ w', Below w.heap.size w w' → Evs w' (.slice A' M C') a.evs) := fun w' hb => hev.below hb
    have HE3 : Hid (a.evs = (es.map evOf).drop m) := e3
    have HM9 : Hid (d.n = (m : Int)) := hm
    clear hm
    rcases hB.1.2 with ⟨rfl, h0⟩ | ⟨g, cap, cur, hv, hNg, _, hc, hmx, _⟩
    · obtain rfl : L = 0 := by omega
      obtain rfl : m = 0 := by omega
      have he : es = [] := List.eq_nil_of_length_eq_zero h0
      subst he
      have x2 : (a.n == 0) = true := x2
      clear hB hev h3 hL e1 e2 e3 q hM hmL
      go_enter Tryz.func12, Tryz.ntmps12
      go_upto_region 1 with fail
      generalize (w.alloc (.cells #[.int .i64 d.kind, .int .i64 d.n, .int .i64 d.seg, .int .i64 d.pos, .int .u8 (d.turn : Int), .int .i64 d.bat.cmd, .slice Ae d.bat.evs.length Ce, .string t, .int .i64 d.ver] 43)).alloc (.cells #[.int .i64 (a.err : Nat), .int .i64 a.n, .slice A' M C', .int .i64 a.vu, va] 45) = w2 at *
      have c0 := HW.vd.cell (i := 0) rfl
      have c1 := HW.vd.cell (i := 1) rfl
      rw [HM9.out] at c1
      have a0 := HW.va.cell (i := 0) rfl
      have a1 := HW.va.cell (i := 1) rfl
      have a2 := HW.va.cell (i := 2) rfl
      have HQ := sameEv_q (HEV.out w2 bW) (evs_empty w2 none 0 (Nat.zero_le _)) true ⟨fun _ => HE3.out, fun _ => rfl⟩
      clear HW
      go_upto_region 5 with fail
      go_quiet ((go_at_call 21; refine HQ _))
      go_wp2_with fail
      go_ret
      exact ⟨rfl, bdn bW _⟩
    · subst hv
      have hm' : cap ≤ 9223372036854775807 := by unfold maxLen at hmx; exact hmx
      have hrest := hB.rest (n := m) (by omega)
      rw [← hL] at hrest hB hc ⊢
      have HRE : Hid (∀ w', Below w.heap.size w w' → Evs w' (.slice (some ⟨g, m * 3, none⟩) (L - m) (cap - m)) ((es.map evOf).drop m)) := fun w' hb => hrest.below hb
      have HLD : Hid (((es.map evOf).drop m).length = L - m) := by
        show ((es.map evOf).drop m).length = L - m
        rw [List.length_drop, List.length_map, hL]
      have hcm : m ≤ cap := by omega
      have hmL' : (m : Int) ≤ (L : Int) := by omega
      have hcm' : (m : Int) ≤ (cap : Int) := by omega
      by_cases hcc : cap = m
      · obtain rfl : L = m := by omega
        subst hcc
        have HE4 : Hid (a.evs = []) := by
          show a.evs = []
          rw [HE3.out]
          exact List.eq_nil_of_length_eq_zero (by rw [HLD.out]; omega)
        clear hB hev h3 hL e1 e2 e3 q hM hrest HRE
        go_enter Tryz.func12, Tryz.ntmps12
        go_upto_region 1 with fail
        generalize (w.alloc (.cells #[.int .i64 d.kind, .int .i64 d.n, .int .i64 d.seg, .int .i64 d.pos, .int .u8 (d.turn : Int), .int .i64 d.bat.cmd, .slice Ae d.bat.evs.length Ce, .string t, .int .i64 d.ver] 43)).alloc (.cells #[.int .i64 (a.err : Nat), .int .i64 a.n, .slice A' M C', .int .i64 a.vu, va] 45) = w2 at *
        have c0 := HW.vd.cell (i := 0) rfl
        have c1 := HW.vd.cell (i := 1) rfl
        rw [HM9.out] at c1
        have a0 := HW.va.cell (i := 0) rfl
        have a1 := HW.va.cell (i := 1) rfl
        have a2 := HW.va.cell (i := 2) rfl
        have HQ := fun B => sameEv_q (HEV.out w2 bW) (evs_empty w2 B 0 (Nat.zero_le _)) true ⟨fun _ => HE4.out, fun _ => rfl⟩
        clear HW
        go_upto_region 5 with fail
        go_quiet ((go_at_call 21; refine HQ _ _))
        go_wp2_with fail
        go_ret
        exact ⟨rfl, bdn bW _⟩
      · clear hB hev h3 hL e1 e2 e3 q hM hrest
        go_enter Tryz.func12, Tryz.ntmps12
        go_upto_region 1 with fail
        generalize (w.alloc (.cells #[.int .i64 d.kind, .int .i64 d.n, .int .i64 d.seg, .int .i64 d.pos, .int .u8 (d.turn : Int), .int .i64 d.bat.cmd, .slice Ae d.bat.evs.length Ce, .string t, .int .i64 d.ver] 43)).alloc (.cells #[.int .i64 (a.err : Nat), .int .i64 a.n, .slice A' M C', .int .i64 a.vu, va] 45) = w2 at *
        have c0 := HW.vd.cell (i := 0) rfl
        have c1 := HW.vd.cell (i := 1) rfl
        rw [HM9.out] at c1
        have a0 := HW.va.cell (i := 0) rfl
        have a1 := HW.va.cell (i := 1) rfl
        have a2 := HW.va.cell (i := 2) rfl
        have HQ := sameEv_q (HEV.out w2 bW) (HRE.out w2 bW) true ⟨fun _ => HE3.out, fun _ => rfl⟩
        clear HW
        go_upto_region 5 with fail
        go_quiet ((go_at_call 21; refine HQ _))
        go_wp2_with fail
        go_ret
        exact ⟨rfl, bdn bW _⟩
def keepN (t : ByteArray) (e : EvC) : Bool := e.1.toList == t.toList
theorem filter_keepN (t : ByteArray) (es : List EvC) : (es.map evOf).filter (fun e => decide (e.name = nb t)) = (es.filter (keepN t)).map evOf := by
  rw [List.filter_map]
  congr 1
  apply List.filter_congr
  intro e _
  show decide (nb e.1 = nb t) = (e.1.toList == t.toList)
  rw [same_nb]
theorem take_keepN {es : List EvC} {k : Nat} {q : EvC} (h : es[k]? = some q) (t : ByteArray) : (es.take (k + 1)).filter (keepN t) = (es.take k).filter (keepN t) ++ (if keepN t q = true then [q] else []) := by
  rw [List.take_add_one, h, List.filter_append]
  congr 1
  show [q].filter (keepN t) = _
  by_cases e : keepN t q = true
  · simp [e]
  · simp [e]
set_option maxHeartbeats 4000000 in
set_option maxRecDepth 100000 in
/-- The events of a stream. -/
theorem answers_read (h2 : d.kind = 2) (hB : EBuf w N v es) (hes : es.length ≤ 1000) (hev : Evs w ve a.evs) (hnm : nb t = d.name) (hsz : t.size ≤ 9223372036854775807)
    (h : if ¬ Evt.named d.name then a.err = 7 else a.err = 0 ∧ a.n = ((es.map evOf).filter fun e => decide (e.name = d.name)).length ∧ a.evs = (es.map evOf).filter fun e => decide (e.name = d.name)) : AnsC d Ae Ce t a ve va v w := by
  have HW := ansW_new w d Ae Ce t a ve va
  have k2 : (d.kind == 2) = true := beq_iff_eq.2 h2
  have k3 : (d.kind == 3) = false := by rw [h2]; rfl
  obtain ⟨L, hL⟩ : ∃ L, L = es.length := ⟨_, rfl⟩
  obtain ⟨A', C', hve⟩ := hev.shape
  obtain ⟨M, hM⟩ : ∃ M, M = a.evs.length := ⟨_, rfl⟩
  rw [← hM] at hve
  subst hve
  have HEV : Hid (∀ w', Below w.heap.size w w' → Evs w' (.slice A' M C') a.evs) := fun w' hb => hev.below hb
  obtain ⟨A, C, hv⟩ := hB.shape
  rw [← hL] at hv
  subst hv
  have hC : L ≤ C ∧ C ≤ 9223372036854775807 := by
    obtain ⟨A9, C9, h9, h91, h92, _⟩ := hB.evs
    rw [List.length_map, ← hL] at h9 h91
    cases h9
    exact ⟨h91, h92⟩
  rw [← hnm] at h
  by_cases q : ¬ Evt.named (nb t)
  · rw [if_pos q] at h
    have HNM : Hid (∀ w', Calls Tryz.prog 22 #[.string t] w' fun e w2 => e = .returned (.bool false) ∧ Below w'.heap.size w' w2) := fun w' => (refNamed_any t w' hsz).mono fun e w2 z => ⟨by
      obtain ⟨y, rfl, hy⟩ := z.1
      have : y = false := by
        cases y
        · rfl
        · exact absurd (hy.1 rfl) q
      rw [this], z.2⟩
    have he : ((a.err : Int) == 7) = true := by rw [h]; rfl
    clear hB hev h q h2 hL hM HEV
    go_enter Tryz.func12, Tryz.ntmps12
    go_upto_region 1 with fail
    generalize (w.alloc (.cells #[.int .i64 d.kind, .int .i64 d.n, .int .i64 d.seg, .int .i64 d.pos, .int .u8 (d.turn : Int), .int .i64 d.bat.cmd, .slice Ae d.bat.evs.length Ce, .string t, .int .i64 d.ver] 43)).alloc (.cells #[.int .i64 (a.err : Nat), .int .i64 a.n, .slice A' M C', .int .i64 a.vu, va] 45) = w2 at *
    have c0 := HW.vd.cell (i := 0) rfl
    have c7 := HW.vd.cell (i := 7) rfl
    have HN2 := HNM.out w2
    go_wp2_with fail
    refine HN2.mono ?_
    rintro e w3 ⟨rfl, b3⟩
    have a0 := (HW.below b3).va.cell (i := 0) rfl
    have hb := (HW.below b3).bel
    clear HW HN2 c0 c7
    go_wp2_with fail
    go_ret
    exact ⟨rfl, hb⟩
  · rw [if_neg q, filter_keepN, List.length_map] at h
    obtain ⟨e1, e2, e3⟩ := h
    have q : Evt.named (nb t) := Decidable.not_not.1 q
    have HNM : Hid (∀ w', Calls Tryz.prog 22 #[.string t] w' fun e w2 => e = .returned (.bool true) ∧ Below w'.heap.size w' w2) := fun w' => (refNamed_any t w' hsz).mono fun e w2 z => ⟨by
      obtain ⟨y, rfl, hy⟩ := z.1
      rw [hy.2 q], z.2⟩
    have x1 : ((a.err : Int) == 0) = true := by rw [e1]; rfl
    have HE2 : Hid (a.n = ((es.filter (keepN t)).length : Int)) := e2
    have HE3 : Hid (a.evs = (es.filter (keepN t)).map evOf) := e3
    have HBB : Hid (∀ w', Below w.heap.size w w' → EBuf w' N (.slice A L C) es) := fun w' hb => hB.below hb
    have HL : Hid (L = es.length) := hL
    rw [← hL] at hes
    clear hB hev e1 e2 e3 q h2 hL hM
    go_enter Tryz.func12, Tryz.ntmps12
    go_upto_region 1 with fail
    generalize (w.alloc (.cells #[.int .i64 d.kind, .int .i64 d.n, .int .i64 d.seg, .int .i64 d.pos, .int .u8 (d.turn : Int), .int .i64 d.bat.cmd, .slice Ae d.bat.evs.length Ce, .string t, .int .i64 d.ver] 43)).alloc (.cells #[.int .i64 (a.err : Nat), .int .i64 a.n, .slice A' M C', .int .i64 a.vu, va] 45) = w2 at *
    have c0 := HW.vd.cell (i := 0) rfl
    have c7 := HW.vd.cell (i := 7) rfl
    have HN2 := HNM.out w2
    go_wp2_with fail
    refine HN2.mono ?_
    rintro e w3 ⟨rfl, b3⟩
    have HW3 : Hid (AnsW w w3 d Ae Ce t a (.slice A' M C') va) := HW.below b3
    clear HW HN2 c0 c7 b3 HNM
    go_wp2_with fail
    go_loopw [7, 59] (fun y x wr => ∃ k : Nat, k ≤ L ∧ x = .int .i64 k ∧ Hid (EBuf wr w3.heap.size y ((es.take k).filter (keepN t)) ∧ Below w3.heap.size w3 wr)) (fun _ x _ => L - (intOf x).toNat)
    case atStart => exact ⟨0, Nat.zero_le _, rfl, by rw [List.take_zero]; exact EBuf.nil _ _, Below.refl _ _⟩
    case round =>
      obtain ⟨k, hk, rfl, HS⟩ := hrel
      have b3r := HS.out.2
      have HWr := HW3.out.below b3r
      by_cases hlt : k < L
      · have hlt' : (k : Int) < (L : Int) := by omega
        obtain ⟨⟨s, kd, nm⟩, hq⟩ : ∃ x, es[k]? = some x := ⟨es[k]'(by rw [← HL.out]; exact hlt), List.getElem?_eq_getElem _⟩
        have hBr := HBB.out wr HWr.bel
        obtain ⟨g, cap, cur, hv, _⟩ : ∃ g cap cur, Value.slice A L C = .slice (some ⟨g, 0, none⟩) L cap ∧ cur = () := by
          rcases hBr.1.2 with ⟨h1, h0⟩ | ⟨g, cap, cur, h1, _⟩
          · have := HL.out
            omega
          · exact ⟨g, cap, (), by rw [h1, HL.out], rfl⟩
        cases hv
        have r0 : wr.cell? ⟨g, k * 3, none⟩ = some (.string s) := row_cell (f := evCells) hBr.1 (fun _ _ => rfl) (g := g) rfl (j := 0) hq rfl
        have r1 : wr.cell? ⟨g, k * 3 + 1, none⟩ = some (.int .i64 kd) := row_cell (f := evCells) hBr.1 (fun _ _ => rfl) (g := g) rfl (j := 1) hq rfl
        have r2 : wr.cell? ⟨g, k * 3 + 2, none⟩ = some (.int .i64 nm) := row_cell (f := evCells) hBr.1 (fun _ _ => rfl) (g := g) rfl (j := 2) hq rfl
        have p7 := HWr.vd.cell (i := 7) rfl
        have hlt7 : w.heap.size < wr.heap.size := World.block_lt_of_cell? _ _ p7
        have hn7 : w.heap.size ≠ wr.heap.size := Nat.ne_of_lt hlt7
        have bE : Below wr.heap.size wr (wr.alloc (.cells #[.string s, .int .i64 kd, .int .i64 nm] 59)) := (Below.refl _ _).alloc (Nat.le_refl _) _
        have hsq : s.size ≤ 9223372036854775807 := hBr.2 _ (List.mem_of_getElem? hq)
        have HTK := take_keepN hq t
        by_cases hkp : (s.toList == t.toList) = true
        · rw [if_pos (show keepN t (s, kd, nm) = true from hkp)] at HTK
          have bF : Below wr.heap.size wr ((wr.alloc (.cells #[.string s, .int .i64 kd, .int .i64 nm] 59)).alloc (.cells #[.string s, .int .i64 kd, .int .i64 nm] 59)) := bE.alloc bE.size _
          have VT := varN_new (wr.alloc (.cells #[.string s, .int .i64 kd, .int .i64 nm] 59)) #[.string s, .int .i64 kd, .int .i64 nm] 59
          rw [show (wr.alloc (.cells #[.string s, .int .i64 kd, .int .i64 nm] 59)).heap.size = wr.heap.size + 1 by simp] at VT
          have hfl : ((es.take k).filter (keepN t)).length ≤ 1000 := Nat.le_trans (List.length_filter_le ..) (by rw [List.length_take]; omega)
          obtain ⟨v', w', hrun, hB', hof', hat'⟩ := app_evs ((wr.alloc (.cells #[.string s, .int .i64 kd, .int .i64 nm] 59)).alloc (.cells #[.string s, .int .i64 kd, .int .i64 nm] 59)) w3.heap.size u7 ((es.take k).filter (keepN t)) [(s, kd, nm)] (HS.out.1.below bF) (Nat.le_trans b3r.size bF.size) ⟨wr.heap.size + 1, 0, none⟩ 1 (fun j u hj => by
            rw [WideShapes.add_plain, Nat.zero_add]
            exact VT.cell hj) (fun e he => by
            simp only [List.mem_singleton] at he
            subst he
            exact hsq) (by show _ + 1 ≤ 4000000; omega)
          rw [← HTK] at hB'
          have HNX : Hid (EBuf w' w3.heap.size v' ((es.take (k + 1)).filter (keepN t)) ∧ Below w3.heap.size w3 w') := ⟨hB', (bt b3r bF).trans (hof'.below (bt b3r bF).size fun x hx => (HS.out.1.1.lt x hx).1)⟩
          clear HS hBr HWr HTK bE bF VT hfl hB' hof' hat' hq hsq b3r
          go_wp2_with (at_builtin; refine Lib.wpList_append_run _ rfl _ _ _ _ rfl _ _ rfl rfl _ _ hrun ?_)
          exact ⟨⟨k + 1, by omega, by go_num, HNX⟩, by simp [intOf]; omega⟩
        · have hkf : (s.toList == t.toList) = false := by simpa using hkp
          rw [if_neg (show ¬ keepN t (s, kd, nm) = true from hkp), List.append_nil] at HTK
          have HNX : Hid (EBuf (wr.alloc (.cells #[.string s, .int .i64 kd, .int .i64 nm] 59)) w3.heap.size u7 ((es.take (k + 1)).filter (keepN t)) ∧ Below w3.heap.size w3 (wr.alloc (.cells #[.string s, .int .i64 kd, .int .i64 nm] 59))) := ⟨by rw [HTK]; exact HS.out.1.below bE, bt b3r bE⟩
          clear HS hBr HWr HTK bE hq hsq b3r hkp
          go_wp2_with fail
          exact ⟨⟨k + 1, by omega, by go_num, HNX⟩, by simp [intOf]; omega⟩
      · obtain rfl : k = L := by omega
        have HFB : EBuf wr w3.heap.size u7 (es.filter (keepN t)) := by
          have := HS.out.1
          rw [HL.out, List.take_length] at this
          exact this
        obtain ⟨Ao, Co, hvo⟩ := HFB.shape
        subst hvo
        have x2 : (a.n == ((es.filter (keepN t)).length : Int)) = true := beq_iff_eq.2 HE2.out
        have HQ := sameEv_any (.slice A' M C') (.slice Ao (es.filter (keepN t)).length Co) a.evs ((es.filter (keepN t)).map evOf) wr (HEV.out wr HWr.bel) HFB.evs
        have a0 := HWr.va.cell (i := 0) rfl
        have a1 := HWr.va.cell (i := 1) rfl
        have a2 := HWr.va.cell (i := 2) rfl
        have hb := HWr.bel
        obtain ⟨F, hF⟩ : ∃ F, F = (es.filter (keepN t)).length := ⟨_, rfl⟩
        rw [← hF] at HQ x2
        rw [← hF]
        clear HS HWr HFB hF b3r
        go_wp2_with fail
        refine HQ.mono ?_
        rintro e w5 ⟨hT, m, rfl⟩
        obtain rfl := hT.yes HE3.out
        clear HQ hT
        go_wp2_with fail
        go_ret
        exact ⟨rfl, bdn hb _⟩
set_option maxHeartbeats 4000000 in
set_option maxRecDepth 100000 in
/-- The view of all events. -/
theorem answers_view (h4 : d.kind = 4) (hB : EBuf w N v es) (hac : Accs w va a.vl)
    (h : (Vw.fold 0 [] (es.map evOf)).1.1 = 0 ∧ a.err = 0 ∧ a.n = (es.map evOf).length ∧ (a.vu, a.vl) = (Vw.fold 0 [] (es.map evOf)).2) : AnsC d Ae Ce t a ve va v w := by
  have HW := ansW_new w d Ae Ce t a ve va
  have k4 : (d.kind == 4) = true := beq_iff_eq.2 h4
  have k2 : (d.kind == 2) = false := by rw [h4]; rfl
  have k3 : (d.kind == 3) = false := by rw [h4]; rfl
  obtain ⟨L, hL⟩ : ∃ L, L = es.length := ⟨_, rfl⟩
  rw [List.length_map, ← hL] at h
  obtain ⟨e0, e1, e2, e3⟩ := h
  obtain ⟨A, C, hv⟩ := hB.shape
  rw [← hL] at hv
  subst hv
  have HFO : Hid (∀ w', Below w.heap.size w w' → Calls Tryz.prog 16 #[.agg #[.int .i64 0, .slice none 0 0], .slice A L C] w' fun e w2 => FoO e w2 w'.heap.size (Vw.fold 0 [] (es.map evOf)) ∧ Below w'.heap.size w' w2) := fun w' hb => fold_any 0 (.slice none 0 0) (.slice A L C) [] (es.map evOf) w' (Accs.nil _) (hB.below hb).evs
  have x1 : ((a.err : Int) == 0) = true := by rw [e1]; rfl
  have x2 : (a.n == (L : Int)) = true := beq_iff_eq.2 e2
  obtain ⟨Av, Cv, hva⟩ := hac.shape
  have HAC : Hid (∀ w', Below w.heap.size w w' → Accs w' va a.vl) := fun w' hb => hac.below hb
  obtain ⟨r, hr⟩ : ∃ r, r = Vw.fold 0 [] (es.map evOf) := ⟨_, rfl⟩
  rw [← hr] at e0 e3 HFO
  obtain ⟨⟨fe, fx⟩, fu, fl⟩ := r
  have e0 : fe = 0 := e0
  subst e0
  obtain ⟨e3u, e3l⟩ : a.vu = fu ∧ a.vl = fl := Prod.mk.inj e3
  have HSV : Hid (∀ w' v', Below w.heap.size w w' → Accs w' v' fl → Calls Tryz.prog 17 #[.agg #[.int .i64 a.vu, va], .agg #[.int .i64 fu, v']] w' fun e w2 => e = .returned (.bool true) ∧ Below w'.heap.size w' w2) := fun w' v' hb hv => (sameView_any a.vu fu va v' a.vl fl w' (hac.below hb) hv).mono fun e w2 q => ⟨q.1.yes ⟨e3u, e3l⟩, q.2⟩
  obtain ⟨M, hM⟩ : ∃ M, M = a.vl.length := ⟨_, rfl⟩
  rw [← hM] at hva
  subst hva
  clear hB h4 hL e1 e2 e3 e3u e3l hM hac HAC hr
  go_enter Tryz.func12, Tryz.ntmps12
  go_upto_region 1 with fail
  generalize (w.alloc (.cells #[.int .i64 d.kind, .int .i64 d.n, .int .i64 d.seg, .int .i64 d.pos, .int .u8 (d.turn : Int), .int .i64 d.bat.cmd, .slice Ae d.bat.evs.length Ce, .string t, .int .i64 d.ver] 43)).alloc (.cells #[.int .i64 (a.err : Nat), .int .i64 a.n, ve, .int .i64 a.vu, .slice Av M Cv] 45) = w2 at *
  have c0 := HW.vd.cell (i := 0) rfl
  have HF2 := HFO.out w2 HW.bel
  have HW2 : Hid (AnsW w w2 d Ae Ce t a ve (.slice Av M Cv)) := HW
  clear HW HFO
  go_wp2_with fail
  refine HF2.mono ?_
  rintro e w3 ⟨⟨v3, rfl, hA3, _⟩, b3⟩
  have HW3 := HW2.out.below b3
  obtain ⟨A3, C3, hv3⟩ := hA3.shape
  obtain ⟨M3, hM3⟩ : ∃ M, M = fl.length := ⟨_, rfl⟩
  have hv3 : v3 = .slice A3 M3 C3 := by rw [hM3]; exact hv3
  subst hv3
  unfold faultV
  have t1 : Below w3.heap.size w3 (w3.alloc (.cells #[.int .i64 fu, .slice A3 M3 C3] 31)) := (Below.refl _ _).alloc (Nat.le_refl _) _
  have t2 := t1.alloc t1.size (.cells #[.int .i64 0, .int .i64 (fx : Int)] 62)
  have b5 := bt HW3.bel t2
  have HS5 := HSV.out _ (.slice A3 M3 C3) b5 (hA3.below t2)
  have a0 := (HW3.below t2).va.cell (i := 0) rfl
  have a1 := (HW3.below t2).va.cell (i := 1) rfl
  have a3 := (HW3.below t2).va.cell (i := 3) rfl
  have a4 := (HW3.below t2).va.cell (i := 4) rfl
  clear c0 HF2 HW3 HW2 hA3 hM3 HSV b3 t1 t2
  go_wp2_with fail
  refine HS5.mono ?_
  rintro e w7 ⟨rfl, b7⟩
  clear HS5
  go_wp2_with fail
  go_ret
  exact ⟨rfl, bt b5 b7⟩
/-- Whatever is asked, where the answer is what is asked of all events. -/
theorem answers_any (hd : DoIn w d (.slice Ae d.bat.evs.length Ce) t) (hA : Sto.Answers d a (es.map evOf)) (hB : EBuf w N v es) (hes : es.length ≤ 1000) (hev : Evs w ve a.evs) (hac : Accs w va a.vl) : AnsC d Ae Ce t a ve va v w := by
  obtain ⟨q3, q2, q4⟩ := hA
  by_cases k2 : d.kind = 2
  · exact answers_read d Ae Ce t a ve va v N es w k2 hB hes hev hd.name hd.sz (q2 k2)
  by_cases k3 : d.kind = 3
  · exact answers_all d Ae Ce t a ve va v N es w k3 hB hes hev (q3 k3)
  by_cases k4 : d.kind = 4
  · exact answers_view d Ae Ce t a ve va v N es w k4 hB hac (q4 k4)
  obtain ⟨A', C', hv⟩ := hB.shape
  rw [hv]
  exact answers_else d Ae Ce t a ve va w k2 k3 k4 A' es.length C'
end
/-- No more than ten events for each thing that was done. -/
theorem told_len : ∀ (l : List (Sto.Do × Sto.Ans)) (had : List Int), (∀ d a, (d, a) ∈ l → d.kind = 1 → a.err = 0 → d.bat.evs.length ≤ 10) → (Sto.toldOf l had).length ≤ l.length * 10
  | [], _, _ => Nat.zero_le _
  | (d, a) :: r, had, h => by
    rw [Sto.toldOf, List.length_cons]
    split
    · rename_i q
      have h1 := told_len r (d.bat.cmd :: had) fun x y hx => h x y (List.mem_cons_of_mem _ hx)
      have h2 := h d a (List.mem_cons_self ..) q.1 q.2.1
      rw [List.length_append]
      omega
    · have h1 := told_len r had fun x y hx => h x y (List.mem_cons_of_mem _ hx)
      omega
theorem told_few {X : Sto.Six} {c : Sto.Cfg} (l : List Sto.Do) (n : Nat) (hl : l.length ≤ 80) : (Sto.toldOf ((l.zip (Sto.steps X c (Sto.start c) l).2).take n) []).length ≤ 1000 := by
  have h1 := told_len ((l.zip (Sto.steps X c (Sto.start c) l).2).take n) [] fun d a hm hk he => by
    obtain ⟨i, hi⟩ := List.mem_iff_getElem?.1 (List.mem_of_mem_take hm)
    obtain ⟨q1, q2⟩ := List.getElem?_zip_eq_some.1 hi
    obtain ⟨_, hw⟩ := Sto.steps_done q1 q2 hk he
    exact (Evt.wrongB_inv hw).2.2.2.1
  have h2 : ((l.zip (Sto.steps X c (Sto.start c) l).2).take n).length ≤ l.length := by
    rw [List.length_take, List.length_zip]
    omega
  omega

end Go.Proofs.YtldjieplbeflfaaGreat

namespace Go.Proofs.YtldjieplbeflfaaGreat
open Go.RowKit

set_option maxHeartbeats 400000 in
set_option maxRecDepth 100000 in
theorem putL_any (cmd : Int) (A : Option Addr) (n C : Nat) (w : World) :
    Calls Tryz.prog 18 #[.int .i64 cmd, .slice A n C] w fun e w' => e = .returned (.agg #[.int .i64 1, .int .i64 0, .int .i64 0, .int .i64 0, .int .u8 0, .int .i64 cmd, .slice A n C, .string ByteArray.empty, .int .i64 (-1)]) ∧ Below w.heap.size w w' := by
  have bA : ∀ o, Below w.heap.size w (w.alloc o) := fun o => (Below.refl _ _).alloc (Nat.le_refl _) _
  go_enter Tryz.func18, Tryz.ntmps18
  go_wp2_with fail
  refine bodyPost_ret (v := .agg #[.int .i64 1, .int .i64 0, .int .i64 0, .int .i64 0, .int .u8 0, .int .i64 cmd, .slice A n C, .string ByteArray.empty, .int .i64 (-1)]) (by simp [results, Tryz.results18, go_sem]; rfl) rfl ⟨rfl, ?_⟩
  exact bA _

end Go.Proofs.YtldjieplbeflfaaGreat
