/-
  Texts of the proof, joined: HOnceW, HMore, HPutL, HAlvP, HAlv, HAlvW.
-/
import Derived.Test.YtldjieplbeflfaaGreatX42
import Derived.Laws.OwnMore
import Derived.Deep.RegionHeld3
import Derived.Deep.Cut
namespace Go.Proofs.YtldjieplbeflfaaGreat
open Go.RowKit Go.Maps

set_option maxHeartbeats 2000000 in
set_option maxRecDepth 100000 in
theorem once_any (l : List Sto.Do) (v : Value) (w : World) (hD : Dos w v l) (hz : ∀ d, d ∈ l → RngD d) (hl : l.length ≤ 80) :
    Calls Tryz.prog 11 #[v] w fun e w' => OnceY e l ∧ Below w.heap.size w w' := by
  obtain ⟨A, C, rfl, hA1, hA2, hdo⟩ := hD
  have hA2' : C ≤ 9223372036854775807 := by unfold maxLen at hA2; exact hA2
  have HDO : Hid (∀ i d, l[i]? = some d → ∃ b o, A = some ⟨b, o, none⟩ ∧ DoAt w b (o + i * 9) d) := hdo
  have HZ : Hid (∀ d, d ∈ l → RngD d) := hz
  have H0 : ∃ m, OnceS w (w.alloc (.map #[] 0)) l 0 m := ⟨0, hadP_start w, fun j d hj => absurd hj (Nat.not_lt_zero j), (Below.refl _ _).alloc (Nat.le_refl _) _, Nat.le_refl _⟩
  obtain ⟨n, hn⟩ : ∃ n, n = l.length := ⟨_, rfl⟩
  rw [← hn] at hl hA1 ⊢
  have HN : Hid (n = l.length) := hn
  have hmm := @run_makeMap Tryz.prog
  clear hdo hz hA2 hn
  go_enter Tryz.func11, Tryz.ntmps11
  go_wp2_with fail
  generalize w.alloc (.map #[] 0) = w1 at *
  go_loopw [10] (fun x wr => ∃ k : Nat, k ≤ n ∧ x = .int .i64 k ∧ Hid (∃ m, OnceS w wr l k m)) (fun x _ => n - (intOf x).toNat)
  case atStart => exact ⟨0, Nat.zero_le _, rfl, H0⟩
  case round =>
    obtain ⟨k, hk, rfl, HS⟩ := hrel
    by_cases hlt : k < n
    · have hlt' : (k : Int) < (n : Int) := by omega
      obtain ⟨m, hS⟩ := HS.out
      obtain ⟨d, hx⟩ : ∃ d, l[k]? = some d := ⟨l[k]'(by rw [← HN.out]; exact hlt), List.getElem?_eq_getElem _⟩
      obtain ⟨b, o, rfl, ve, t, hdin, hcs⟩ := HDO.out k d hx
      obtain ⟨Ae, Ce, rfl⟩ := hdin.evs.shape
      obtain ⟨hr1, hr2⟩ := HZ.out d (List.mem_of_getElem? hx)
      have hc : ∀ j u, (doCells d (.slice Ae d.bat.evs.length Ce) t)[j]? = some u → wr.cell? ⟨b, o + k * 9 + j, none⟩ = some u := fun j u hj => (hS.bel.cell (p := ⟨b, o + k * 9 + j, none⟩) (World.block_lt_of_cell? _ _ (hcs j u hj))).trans (hcs j u hj)
      have c0 : wr.cell? ⟨b, o + k * 9, none⟩ = some (.int .i64 d.kind) := hc 0 _ rfl
      have c1 := hc 1 _ rfl
      have c2 := hc 2 _ rfl
      have c3 := hc 3 _ rfl
      have c4 := hc 4 _ rfl
      have c5 := hc 5 _ rfl
      have c6 := hc 6 _ rfl
      have c7 := hc 7 _ rfl
      have c8 := hc 8 _ rfl
      have bB : Below wr.heap.size wr ((wr.alloc (.cells #[.int .i64 d.kind, .int .i64 d.n, .int .i64 d.seg, .int .i64 d.pos, .int .u8 (d.turn : Int), .int .i64 d.bat.cmd, .slice Ae d.bat.evs.length Ce, .string t, .int .i64 d.ver] 43)).alloc (.cells #[.int .i64 d.n, .int .i64 d.seg] 72)) := ((Below.refl _ _).alloc (Nat.le_refl _) _).alloc ((Below.refl _ _).alloc (Nat.le_refl _) _).size _
      by_cases k7 : d.kind = 7
      · have kb : (d.kind == 7) = true := beq_iff_eq.2 k7
        by_cases t0 : d.turn = 0
        · have tb : ((d.turn : Int) != 0) = false := by rw [t0]; rfl
          have HNX : ∃ m, OnceS w _ l (k + 1) m := ⟨m, hS.skip bB hx fun z => z.2 t0⟩
          clear hS hcs hdin hx k7 t0 HS hc bB hr1 hr2
          go_wp2_with fail
          exact ⟨⟨k + 1, by omega, by go_num, HNX⟩, by simp [intOf]; omega⟩
        · have tb : ((d.turn : Int) != 0) = true := by rw [bne_iff_ne]; omega
          have hlook := (hS.had.below bB).look d.n d.seg hr1 hr2
          by_cases hm : (d.n, d.seg) ∈ hads (l.take k) []
          · rw [decide_eq_true hm] at hlook
            have HF : Hid (OnceY (.returned (.bool false)) l ∧ Below w.heap.size w ((wr.alloc (.cells #[.int .i64 d.kind, .int .i64 d.n, .int .i64 d.seg, .int .i64 d.pos, .int .u8 (d.turn : Int), .int .i64 d.bat.cmd, .slice Ae d.bat.evs.length Ce, .string t, .int .i64 d.ver] 43)).alloc (.cells #[.int .i64 d.n, .int .i64 d.seg] 72))) := ⟨⟨false, rfl, fun q => by cases q⟩, bt hS.bel bB⟩
            clear hS hcs hdin hx k7 t0 HS hc bB hr1 hr2 hm
            go_wp2_with fail
            go_ret
            exact HF.out
          · rw [decide_eq_false hm] at hlook
            obtain ⟨D, hoM, hat⟩ := hS.had.below bB
            have hisM := isMapP hoM
            have hm80 := hS.num
            have HS2 : Hid (OnceS w wr l k m) := hS
            have HAT : Hid (∀ i j : Int, In64 i → In64 j → D.atKey (keyP i j) (.lit (.bool false)) = .lit (.bool (decide ((i, j) ∈ hads (l.take k) [])))) := hat
            have HXX : Hid (l[k]? = some d ∧ (d.kind = 7 ∧ d.turn ≠ 0) ∧ (d.n, d.seg) ∉ hads (l.take k) []) := ⟨hx, ⟨k7, t0⟩, hm⟩
            have HRR : Hid (In64 d.n ∧ In64 d.seg) := ⟨hr1, hr2⟩
            have HBB : Hid (Below wr.heap.size wr ((wr.alloc (.cells #[.int .i64 d.kind, .int .i64 d.n, .int .i64 d.seg, .int .i64 d.pos, .int .u8 (d.turn : Int), .int .i64 d.bat.cmd, .slice Ae d.bat.evs.length Ce, .string t, .int .i64 d.ver] 43)).alloc (.cells #[.int .i64 d.n, .int .i64 d.seg] 72))) := bB
            clear hS hcs hdin hx k7 t0 HS hm hat hc bB hr1 hr2
            go_wp2_with (at_mapUpdate; refine wpList_mapUpdate_own _ rfl (.tmp 30) (.tmp 31) (.const (.bool true)) 71 rfl 72 4 keyedP Tryz.mapPB (plainElem Tryz.prog 4) w.heap.size m D rfl hoM (by unfold maxLen; omega) (.agg #[.int .i64 d.n, .int .i64 d.seg]) (.bool true) (keyP d.n d.seg) rfl rfl (keyP_of _ _ HRR.out.1 HRR.out.2) (.lit (.bool true)) [] (plainElem_bool Tryz.underlying4 true) ?_; intro w2 hM2 hgM)
            have hS := HS2.out
            have b01 := bt hS.bel HBB.out
            have b02 : Below w.heap.size w w2 := b01.grown hgM b01.size (fun y hy => by cases hy; exact Nat.le_refl _)
            have hh2 := HadP.put HRR.out.1 HRR.out.2 HAT.out hisM hM2
            refine ⟨⟨k + 1, by omega, by go_num, ⟨_, hS.more b02 HXX.out.1 HXX.out.2.1 HXX.out.2.2 hh2 (by omega)⟩⟩, by simp [intOf]; omega⟩
      · have kb : (d.kind == 7) = false := by rw [beq_eq_false_iff_ne]; exact k7
        have HNX : ∃ m, OnceS w _ l (k + 1) m := ⟨m, hS.skip bB hx fun z => k7 z.1⟩
        clear hS hcs hdin hx k7 HS hc bB hr1 hr2
        go_wp2_with fail
        exact ⟨⟨k + 1, by omega, by go_num, HNX⟩, by simp [intOf]; omega⟩
    · obtain rfl : k = n := by omega
      obtain ⟨m, hS⟩ := HS.out
      have HF : Hid (OnceY (.returned (.bool true)) l ∧ Below w.heap.size w wr) := ⟨⟨true, rfl, fun _ => once_of l [] fun j d hj => hS.ok j d (by
        have := (List.getElem?_eq_some_iff.1 hj).1
        rw [HN.out]
        exact this) hj⟩, hS.bel⟩
      clear hS HS
      go_wp2_with fail
      go_ret
      exact HF.out

end Go.Proofs.YtldjieplbeflfaaGreat

namespace Go.Proofs.YtldjieplbeflfaaGreat
open Go.RowKit

abbrev DoC := Sto.Do × Value × ByteArray
def doC (q : DoC) : List Value := doCells q.1 q.2.1 q.2.2
theorem Tryz.infoDo : (Tryz.prog.info? 43).map (fun i => (i.zero, i.size, i.bytes)) = some (some (.agg #[.int .i64 0, .int .i64 0, .int .i64 0, .int .i64 0, .int .u8 0, .int .i64 0, .slice none 0 0, .string ByteArray.empty, .int .i64 0]), 9, 96) := by kernel_rfl
theorem doC_len (qs : List DoC) : (qs.flatMap doC).length = qs.length * 9 := flat_len doC 9 _ (fun _ _ => rfl)
theorem doC_one (qs : List DoC) (h : ∀ q, q ∈ qs → q.2.1.oneCell' = true) : ∀ u ∈ qs.flatMap doC, u.oneCell' = true := fun u hu => by
  obtain ⟨x, hm, hx⟩ := List.mem_flatMap.1 hu
  simp only [doC, doCells, List.mem_cons, List.not_mem_nil, or_false] at hx
  rcases hx with rfl | rfl | rfl | rfl | rfl | rfl | rfl | rfl | rfl
  all_goals first | rfl | exact h x hm
/-- The cells of things to do, as they came. -/
theorem dos_cells {w : World} {v : Value} {l : List Sto.Do} (h : Dos w v l) :
    ∃ qs : List DoC, qs.map (fun q => q.1) = l ∧ (∀ q, q ∈ qs → DoIn w q.1 q.2.1 q.2.2 ∧ q.2.1.oneCell' = true) ∧ ∀ A C, v = .slice (some A) l.length C → ∀ j u, (qs.flatMap doC)[j]? = some u → w.cell? (A.add j) = some u := by
  obtain ⟨A, C, rfl, _, _, hc⟩ := h
  have each : ∀ i, i < l.length → ∃ q : DoC, ∀ x, l[i]? = some x → q.1 = x ∧ DoIn w q.1 q.2.1 q.2.2 ∧ q.2.1.oneCell' = true ∧ ∀ b o, A = some ⟨b, o, none⟩ → ∀ j u, (doC q)[j]? = some u → w.cell? ⟨b, o + i * 9 + j, none⟩ = some u := by
    intro i hi
    obtain ⟨b, o, rfl, ve, t, h1, h2⟩ := hc i l[i] (List.getElem?_eq_getElem hi)
    refine ⟨(l[i], ve, t), fun x hx => ?_⟩
    rw [List.getElem?_eq_getElem hi, Option.some.injEq] at hx
    subst hx
    refine ⟨rfl, h1, ?_, fun b' o' e j u hj => ?_⟩
    · obtain ⟨Ae, Ce, hv⟩ := h1.evs.shape
      show ve.oneCell' = true
      rw [hv]
      rfl
    · cases e
      exact h2 j u hj
  obtain ⟨q, hq⟩ := choose_any (α := DoC) (do0, .bool false, ByteArray.empty) each
  have hL : ∀ i, i < l.length → ((List.range l.length).map q)[i]? = some (q i) := fun i hi => by simp [hi]
  refine ⟨(List.range l.length).map q, ?_, fun e he => ?_, fun A' C' hv j u hj => ?_⟩
  · apply List.ext_getElem?
    intro i
    by_cases hi : i < l.length
    · rw [List.getElem?_map, hL i hi, List.getElem?_eq_getElem hi, Option.map_some, (hq i hi l[i] (List.getElem?_eq_getElem hi)).1]
    · rw [List.getElem?_eq_none (by simpa using hi), List.getElem?_eq_none (by omega)]
  · obtain ⟨i, hi, rfl⟩ := List.mem_map.1 he
    have hi := List.mem_range.1 hi
    exact ⟨(hq i hi l[i] (List.getElem?_eq_getElem hi)).2.1, (hq i hi l[i] (List.getElem?_eq_getElem hi)).2.2.1⟩
  · cases hv
    have hlen : (((List.range l.length).map q).flatMap doC).length = l.length * 9 := by
      rw [doC_len]
      simp
    have hj2 : j < l.length * 9 := by
      have := (List.getElem?_eq_some_iff.1 hj).1
      omega
    have hi : j / 9 < l.length := by omega
    have hf := flat_get doC 9 ((List.range l.length).map q) (fun _ _ => rfl) (j / 9) (j % 9) (by omega) (q (j / 9)) (hL _ hi)
    rw [show j / 9 * 9 + j % 9 = j by omega, hj] at hf
    obtain ⟨b, o, e, _⟩ := hc (j / 9) l[j / 9] (List.getElem?_eq_getElem hi)
    cases e
    have := (hq (j / 9) hi l[j / 9] (List.getElem?_eq_getElem hi)).2.2.2 b o rfl (j % 9) u hf.symm
    rw [WideShapes.add_plain]
    rw [show o + j / 9 * 9 + j % 9 = o + j by omega] at this
    exact this

/-- A list of the call's own that is appended to, since world W. -/
structure RD (W w : World) (v : Value) (qs : List DoC) : Prop where
  bel : Below W.heap.size W w
  own : w.ownsRow W.heap.size 43 9 v qs.length (qs.flatMap doC)
theorem RD.below {W w w' : World} {v : Value} {qs : List DoC} (h : RD W w v qs) (hb : Below w.heap.size w w') : RD W w' v qs := ⟨bt h.bel hb, owns_below h.own hb⟩
theorem RD.alloc {W w : World} {v : Value} {qs : List DoC} (h : RD W w v qs) (o : Obj) : RD W (w.alloc o) v qs := h.below ((Below.refl _ _).alloc (Nat.le_refl _) o)
theorem rd_new {W w : World} (h : Below W.heap.size W w) : RD W (w.alloc (.cells #[] 43)) (.slice (some ⟨w.heap.size, 0, none⟩) 0 0) [] :=
  ⟨h.alloc h.size _, World.ownsRow_made w #[] 0 h.size (by unfold maxLen; omega) rfl⟩
theorem RD.dos {W w : World} {v : Value} {qs : List DoC} (h : RD W w v qs) (hi : ∀ q, q ∈ qs → DoIn W q.1 q.2.1 q.2.2) : Dos w v (qs.map fun q => q.1) := by
  obtain ⟨A, C, hv, h1, h2, h3⟩ := row_shape h.own
  refine ⟨A, C, by rw [List.length_map]; exact hv, by rw [List.length_map]; exact h1, h2, fun i d hd => ?_⟩
  rw [List.getElem?_map] at hd
  obtain ⟨q, hq, rfl⟩ := Option.map_eq_some_iff.1 hd
  obtain ⟨g, rfl⟩ := h3 (by have := (List.getElem?_eq_some_iff.1 hq).1; omega)
  refine ⟨g, 0, rfl, q.2.1, q.2.2, (hi q (List.mem_of_getElem? hq)).below h.bel, fun j u hj => ?_⟩
  have := row_cell (f := doC) h.own (fun _ _ => rfl) (g := g) (by rw [hv]; rfl) hq hj
  rw [Nat.zero_add]
  exact this
/-- A variable, or a short list, beside it. -/
structure Td (w : World) (v : Value) (g : Nat) (t : TypeId) (us : List Value) : Prop where
  row : VarN w g t us
  ne : v.ownBlock ≠ some g
theorem Td.below {w w' : World} {v : Value} {g : Nat} {t : TypeId} {us : List Value} (h : Td w v g t us) (hb : Below w.heap.size w w') : Td w' v g t us := ⟨h.row.below hb, h.ne⟩
theorem Td.alloc {w : World} {v : Value} {g : Nat} {t : TypeId} {us : List Value} (h : Td w v g t us) (o : Obj) : Td (w.alloc o) v g t us := h.below ((Below.refl _ _).alloc (Nat.le_refl _) o)
theorem Td.cells {w : World} {v : Value} {g : Nat} {t : TypeId} {us : List Value} (h : Td w v g t us) : ∀ j x, us[j]? = some x → w.cell? ((⟨g, 0, none⟩ : Addr).add j) = some x := fun j x hj => by
  rw [WideShapes.add_plain, Nat.zero_add]
  exact h.row.cell hj
theorem VarN.lt8 {w : World} {g : Nat} {t : TypeId} {us : List Value} (h : VarN w g t us) : g < w.heap.size := RowC.lt h
theorem size1 (w : World) (o : Obj) : (w.alloc o).heap.size = w.heap.size + 1 := by simp
section
variable {W w : World} {v : Value} {qs : List DoC} {cs : Array Value} {t : TypeId}
theorem td_n0 (h : RD W w v qs) : Td (w.alloc (.cells cs t)) v w.heap.size t cs.toList :=
  ⟨varN_new w cs t, fun e => Nat.lt_irrefl _ (h.own.lt _ e).2⟩
theorem td_n1 (h : RD W w v qs) (p : Obj) : Td ((w.alloc p).alloc (.cells cs t)) v (w.heap.size + 1) t cs.toList := by
  have := td_n0 (cs := cs) (t := t) (h.alloc p)
  rw [size1] at this
  exact this
theorem rd_at (hb : Below W.heap.size W w) {m : Nat} (hm : w.heap.size = m) : RD W (w.alloc (.cells #[] 43)) (.slice (some ⟨m, 0, none⟩) 0 0) [] := by
  subst hm
  exact rd_new hb
theorem belA1 (W : World) (o : Obj) : Below W.heap.size W (W.alloc o) := (Below.refl _ _).alloc (Nat.le_refl _) _
theorem belA2 (W : World) (o p : Obj) : Below W.heap.size W ((W.alloc o).alloc p) := (belA1 W o).alloc (belA1 W o).size _
theorem belA3 (W : World) (o p q : Obj) : Below W.heap.size W (((W.alloc o).alloc p).alloc q) := (belA2 W o p).alloc (belA2 W o p).size _
theorem belD (w : World) : Below w.heap.size w w.drew := (Below.refl _ _).drew
theorem rdE : RD W (W.alloc (.cells #[] 43)).drew (.slice (some ⟨W.heap.size, 0, none⟩) 0 0) [] := (rd_at (Below.refl _ _) rfl).below (belD _)
theorem rdEo {o : Obj} : RD W ((W.alloc (.cells #[] 43)).alloc o).drew (.slice (some ⟨W.heap.size, 0, none⟩) 0 0) [] := ((rd_at (Below.refl _ _) rfl).alloc o).below (belD _)
theorem rdoE {o : Obj} : RD W ((W.alloc o).alloc (.cells #[] 43)).drew (.slice (some ⟨W.heap.size + 1, 0, none⟩) 0 0) [] := (rd_at (belA1 W o) (size1 W o)).below (belD _)
theorem rdEop {o p : Obj} : RD W (((W.alloc (.cells #[] 43)).alloc o).alloc p).drew (.slice (some ⟨W.heap.size, 0, none⟩) 0 0) [] := (((rd_at (Below.refl _ _) rfl).alloc o).alloc p).below (belD _)
theorem rdoEp {o p : Obj} : RD W (((W.alloc o).alloc (.cells #[] 43)).alloc p).drew (.slice (some ⟨W.heap.size + 1, 0, none⟩) 0 0) [] := ((rd_at (belA1 W o) (size1 W o)).alloc p).below (belD _)
theorem size2 (w : World) (o p : Obj) : ((w.alloc o).alloc p).heap.size = w.heap.size + 1 + 1 := by rw [size1, size1]
theorem rdopE {o p : Obj} : RD W (((W.alloc o).alloc p).alloc (.cells #[] 43)).drew (.slice (some ⟨W.heap.size + 1 + 1, 0, none⟩) 0 0) [] := (rd_at (belA2 W o p) (size2 W o p)).below (belD _)
theorem td_of {g m : Nat} {c : Nat} (h : VarN w g t cs.toList) (hm : m ≠ g) : Td w.drew (.slice (some ⟨m, 0, none⟩) 0 c) g t cs.toList := ⟨h.below (belD _), fun e => hm (by simpa [Value.ownBlock] using e)⟩
theorem vn1 (w : World) (o : Obj) (cs : Array Value) (t : TypeId) : VarN ((w.alloc o).alloc (.cells cs t)) (w.heap.size + 1) t cs.toList := by
  have := varN_new (w.alloc o) cs t
  rw [size1] at this
  exact this
theorem vn2 (w : World) (o p : Obj) (cs : Array Value) (t : TypeId) : VarN (((w.alloc o).alloc p).alloc (.cells cs t)) (w.heap.size + 1 + 1) t cs.toList := by
  have := varN_new ((w.alloc o).alloc p) cs t
  rw [size2] at this
  exact this
theorem vn_al {g : Nat} (h : VarN w g t cs.toList) (o : Obj) : VarN (w.alloc o) g t cs.toList := h.below ((Below.refl _ _).alloc (Nat.le_refl _) o)
theorem td_Eo : Td ((W.alloc (.cells #[] 43)).alloc (.cells cs t)).drew (.slice (some ⟨W.heap.size, 0, none⟩) 0 0) (W.heap.size + 1) t cs.toList := td_of (vn1 _ _ _ _) (by omega)
theorem td_oE : Td ((W.alloc (.cells cs t)).alloc (.cells #[] 43)).drew (.slice (some ⟨W.heap.size + 1, 0, none⟩) 0 0) W.heap.size t cs.toList := td_of (vn_al (varN_new W cs t) _) (by omega)
theorem td_Eop {p : Obj} : Td (((W.alloc (.cells #[] 43)).alloc (.cells cs t)).alloc p).drew (.slice (some ⟨W.heap.size, 0, none⟩) 0 0) (W.heap.size + 1) t cs.toList := td_of (vn_al (vn1 _ _ _ _) _) (by omega)
theorem td_Epo {p : Obj} : Td (((W.alloc (.cells #[] 43)).alloc p).alloc (.cells cs t)).drew (.slice (some ⟨W.heap.size, 0, none⟩) 0 0) (W.heap.size + 1 + 1) t cs.toList := td_of (vn2 _ _ _ _ _) (by omega)
theorem td_oEp {p : Obj} : Td (((W.alloc (.cells cs t)).alloc (.cells #[] 43)).alloc p).drew (.slice (some ⟨W.heap.size + 1, 0, none⟩) 0 0) W.heap.size t cs.toList := td_of (vn_al (vn_al (varN_new W cs t) _) _) (by omega)
theorem td_pEo {p : Obj} : Td (((W.alloc p).alloc (.cells #[] 43)).alloc (.cells cs t)).drew (.slice (some ⟨W.heap.size + 1, 0, none⟩) 0 0) (W.heap.size + 1 + 1) t cs.toList := td_of (vn2 _ _ _ _ _) (by omega)
theorem td_opE {p : Obj} : Td (((W.alloc (.cells cs t)).alloc p).alloc (.cells #[] 43)).drew (.slice (some ⟨W.heap.size + 1 + 1, 0, none⟩) 0 0) W.heap.size t cs.toList := td_of (vn_al (vn_al (varN_new W cs t) _) _) (by omega)
theorem td_poE {p : Obj} : Td (((W.alloc p).alloc (.cells cs t)).alloc (.cells #[] 43)).drew (.slice (some ⟨W.heap.size + 1 + 1, 0, none⟩) 0 0) (W.heap.size + 1) t cs.toList := td_of (vn_al (vn1 _ _ _ _) _) (by omega)
end
theorem run_append_none {P : Program} {w : World} (base : Nat) (t ty e : TypeId) (i : TypeInfo) (size c : Nat) (ht : P.underlying t = some (.slice e)) (hi : P.info? e = some i)
    (v : Value) (n : Nat) (xs : List Value) (hown : w.ownsRow base e size v n xs) :
    (Builtin.append_ #[t, t] ty #[v, .slice none 0 c]).run P w = .ok v w := by
  rcases hown.2 with ⟨rfl, rfl⟩ | ⟨g, cap, cur, rfl, _, _, hnc, _⟩
  · simp [Builtin.append_, run_underlying ht, sizeOf, typeInfo, hi, Builtin.lenOf, Builtin.firstCells]
  · simp [Builtin.append_, run_underlying ht, sizeOf, typeInfo, hi, Builtin.lenOf, Builtin.firstCells, hnc, storeCells]
/-- An append to it, inside a statement that leaves its order open. -/
theorem app_rd {ops : Array Oper} {o : Oper} {a : Act} {w : World} {K : Act → World → Prop} {Q : Exit → Act → World → Prop} {E : Prop}
    (hg : o.guard = none) (s x : Operand) (hop : o.op = Op.call { callee := Callee.builtin Builtin.append, args := #[s, x], argTypes := #[24, 24] })
    {W : World} {v : Value} {qs ys : List DoC} {A : Option Addr} {m c : Nat} (hs : a.eval s = v) (hx : a.eval x = .slice A m c) (hA : A = none → m = 0) (hR : RD W w v qs) (hy : ys.length = m) (hc : ∀ A', A = some A' → ∀ j u, (ys.flatMap doC)[j]? = some u → w.cell? (A'.add j) = some u) (h1 : ∀ q, q ∈ ys → q.2.1.oneCell' = true) (hl : qs.length + m ≤ 1000)
    (hK : ∀ v' w', RD W w' v' (qs ++ ys) → (∀ g t u, Td w v g t u → Td w' v' g t u) → K (a.put o.dst v') w') :
    if Region.wanted o (yielded ops a.tmps) = true then Oper.wp Tryz.prog o a w K Q else E := by
  have hw : Region.wanted o (yielded ops a.tmps) = true := by simp [Region.wanted, hg]
  rw [if_pos hw]
  obtain ⟨i0, hi, hh⟩ := Option.map_eq_some_iff.1 Tryz.infoDo
  simp only [Prod.mk.injEq] at hh
  obtain ⟨hz0, hz1, hz2⟩ := hh
  cases A with
  | none =>
    obtain rfl : m = 0 := hA rfl
    obtain rfl : ys = [] := List.eq_nil_of_length_eq_zero hy
    have hr := run_append_none (P := Tryz.prog) (w := w) W.heap.size 24 o.type 43 i0 9 c Tryz.underlying24 hi v qs.length _ hR.own
    unfold Oper.wp execOp
    simp only [hop, resolve, invoke, builtin, Sem.run_bind, Sem.run_pure, Result.andThen_ok, List.map_toArray, List.map_cons, List.map_nil, hs, hx, hr]
    exact hK v w (by rw [List.append_nil]; exact hR) (fun g t u ht => ht)
  | some A =>
    obtain ⟨v', w', hr, h2, h3, _, h5⟩ := run_append_own_at (P := Tryz.prog) w W.heap.size 24 o.type 43 i0 _ 9 96 Tryz.underlying24 hi hz0 hz1 hz2 rfl (by decide) v qs.length _ hR.own A m c (ys.flatMap doC) (by rw [doC_len, hy]) (hc A rfl) (doC_one ys h1) (by unfold maxLen; omega) (by omega) hR.bel.size
    unfold Oper.wp execOp
    simp only [hop, resolve, invoke, builtin, Sem.run_bind, Sem.run_pure, Result.andThen_ok, List.map_toArray, List.map_cons, List.map_nil, hs, hx, hr]
    refine hK v' w' ⟨hR.bel.grown h3 hR.bel.size (fun y hy => (hR.own.lt y hy).1), ?_⟩ (fun g t u ht => ⟨RowC.of_block ht.row (h3.block g (RowC.lt ht.row) (fun e => ht.ne e.symm)), fun e => ?_⟩)
    · rw [List.length_append, List.flatMap_append, hy]
      exact h2
    · rcases h5 with h5 | h5
      · rw [h5] at e
        exact ht.ne e
      · rw [h5] at e
        have := RowC.lt ht.row
        simp at e
        omega

/-! ### Play, inside such a statement -/
/-- What Play told lies in a variable at P, and in v. -/
def PlayV (W wx : World) (c : Sto.Cfg) (r : Sto.St × List Sto.Ans) (p v e : Value) : Prop := ∃ P vd vt vs va, p = .pointer (some ⟨P, 0, none⟩) ∧ e = .int .i64 0 ∧ VarN wx P 33 [.int .i64 (c.d : Int), .int .i64 (c.s : Int), .int .i64 (c.b : Int), vd, .int .i64 (r.1.segs : Int), vt, vs, .int .i64 r.1.u, va] ∧ StIn wx vd vt vs va r.1 ∧ Anss wx v r.2 ∧ Below W.heap.size W wx
/-- The zero of a store. -/
abbrev zSt : Array Value := #[.int .i64 0, .int .i64 0, .int .i64 0, .slice none 0 0, .int .i64 0, .slice none 0 0, .slice none 0 0, .int .i64 0, .slice none 0 0]
theorem playV_new {W w8 : World} {c : Sto.Cfg} {r : Sto.St × List Sto.Ans} {vd vt vs va vr : Value} (hS : StIn w8 vd vt vs va r.1) (hR : Anss w8 vr r.2) (hb : Below W.heap.size W w8) : PlayV W (w8.alloc (.cells #[.int .i64 (c.d : Int), .int .i64 (c.s : Int), .int .i64 (c.b : Int), vd, .int .i64 (r.1.segs : Int), vt, vs, .int .i64 r.1.u, va] 33)) c r (.pointer (some ⟨w8.heap.size, 0, none⟩)) vr (.int .i64 0) :=
  ⟨_, vd, vt, vs, va, rfl, rfl, varN_new w8 _ _, hS.below ((Below.refl _ _).alloc (Nat.le_refl _) _), hR.below ((Below.refl _ _).alloc (Nat.le_refl _) _), hb.alloc hb.size _⟩
theorem var_nine {w : World} {P : Nat} {t : TypeId} {x0 x1 x2 x3 x4 x5 x6 x7 x8 a b c d e f g h i : Value} (hv : VarN w P t [x0, x1, x2, x3, x4, x5, x6, x7, x8]) : VarN (((((((((w.setCell ⟨P, 0, none⟩ a).setCell ⟨P, 1, none⟩ b).setCell ⟨P, 2, none⟩ c).setCell ⟨P, 3, none⟩ d).setCell ⟨P, 4, none⟩ e).setCell ⟨P, 5, none⟩ f).setCell ⟨P, 6, none⟩ g).setCell ⟨P, 7, none⟩ h).setCell ⟨P, 8, none⟩ i) P t [a, b, c, d, e, f, g, h, i] :=
  ((((((((hv.set 0 a (by simp)).set 1 b (by simp)).set 2 c (by simp)).set 3 d (by simp)).set 4 e (by simp)).set 5 f (by simp)).set 6 g (by simp)).set 7 h (by simp)).set 8 i (by simp)
theorem playV_set {W wc w8 : World} {c : Sto.Cfg} {r : Sto.St × List Sto.Ans} {vd vt vs va vr : Value} {P : Nat} (hF : ∀ w'', Off (fun k => k < wc.heap.size) w8 w'' → StIn w'' vd vt vs va r.1 ∧ Anss w'' vr r.2) (hb : Below W.heap.size W w8) (hP : VarN w8 P 33 zSt.toList) (h1 : P < wc.heap.size) (h2 : W.heap.size ≤ P) : PlayV W (((((((((w8.setCell ⟨P, 0, none⟩ (.int .i64 (c.d : Int))).setCell ⟨P, 1, none⟩ (.int .i64 (c.s : Int))).setCell ⟨P, 2, none⟩ (.int .i64 (c.b : Int))).setCell ⟨P, 3, none⟩ vd).setCell ⟨P, 4, none⟩ (.int .i64 (r.1.segs : Int))).setCell ⟨P, 5, none⟩ vt).setCell ⟨P, 6, none⟩ vs).setCell ⟨P, 7, none⟩ (.int .i64 r.1.u)).setCell ⟨P, 8, none⟩ va) c r (.pointer (some ⟨P, 0, none⟩)) vr (.int .i64 0) := by
  have ho := off_nine w8 P (.int .i64 (c.d : Int)) (.int .i64 (c.s : Int)) (.int .i64 (c.b : Int)) vd (.int .i64 (r.1.segs : Int)) vt vs (.int .i64 r.1.u) va
  obtain ⟨q1, q2⟩ := hF _ (ho.wider fun k (e : k = P) => by rw [e]; exact h1)
  exact ⟨P, vd, vt, vs, va, rfl, rfl, var_nine hP, q1, q2, hb.trans (ho.below hb.size fun k e => by omega)⟩
theorem bel_al {W w : World} {o : Obj} (h : Below W.heap.size W w) : Below W.heap.size W (w.alloc o) := h.alloc h.size o
theorem bel_nine {W w : World} {P : Nat} {a b c d e f g i j : Value} (h : Below W.heap.size W w) (hP : W.heap.size ≤ P) : Below W.heap.size W (((((((((w.setCell ⟨P, 0, none⟩ a).setCell ⟨P, 1, none⟩ b).setCell ⟨P, 2, none⟩ c).setCell ⟨P, 3, none⟩ d).setCell ⟨P, 4, none⟩ e).setCell ⟨P, 5, none⟩ f).setCell ⟨P, 6, none⟩ g).setCell ⟨P, 7, none⟩ i).setCell ⟨P, 8, none⟩ j) :=
  h.trans ((off_nine w P a b c d e f g i j).below h.size fun k e => by omega)

end Go.Proofs.YtldjieplbeflfaaGreat

namespace Go.Proofs.YtldjieplbeflfaaGreat
open Go.RowKit

set_option maxHeartbeats 400000 in
set_option maxRecDepth 100000 in
theorem putL_any (cmd : Int) (A : Option Addr) (n C : Nat) (w : World) :
    Calls Tryz.prog 18 #[.int .i64 cmd, .slice A n C] w fun e w' => e = .returned (.agg #[.int .i64 1, .int .i64 0, .int .i64 0, .int .i64 0, .int .u8 0, .int .i64 cmd, .slice A n C, .string ByteArray.empty, .int .i64 (-1)]) ∧ Below w.heap.size w w' := by
  have bA : ∀ o, Below w.heap.size w (w.alloc o) := fun o => (Below.refl _ _).alloc (Nat.le_refl _) _
  go_enter Tryz.func18, Tryz.ntmps18
  go_wp2_with fail
  refine bodyPost_ret (v := .agg #[.int .i64 1, .int .i64 0, .int .i64 0, .int .i64 0, .int .u8 0, .int .i64 cmd, .slice A n C, .string ByteArray.empty, .int .i64 (-1)]) (by simp [results, Tryz.results18, go_sem]; rfl) rfl ⟨rfl, ?_⟩
  exact bA _

end Go.Proofs.YtldjieplbeflfaaGreat

namespace Go.Proofs.YtldjieplbeflfaaGreat

abbrev cA : Sto.Cfg := ⟨2, 1, 1⟩
abbrev evA : Evt.Ev := ⟨[97], 1, 0⟩
abbrev dA1 : Sto.Do := ⟨1, 0, 0, 0, 0, ⟨1, [evA]⟩, [], -1⟩
abbrev dA2 : Sto.Do := ⟨5, 0, 0, 0, 0, ⟨0, []⟩, [], 0⟩
abbrev dA3 : Sto.Do := ⟨3, 0, 0, 0, 0, ⟨0, []⟩, [], 0⟩
set_option maxRecDepth 100000 in
theorem putA {X : Sto.Six} (hX : Sto.SixOk X) : ∃ L acc, Sto.put X cA (Sto.start cA) dA1 = (⟨Sto.write 0 L 0 (Sto.start cA).disks, 1, [], [1], 1, acc⟩, Sto.told 1) := by
  have hl : (X.lay (Evt.encL [⟨1, [evA]⟩]) 0 cA).1 = 0 := by
    rw [hX.lay]
    unfold Sto.layX
    rw [if_pos (by decide)]
  have h1 : ¬ (Evt.wrongB dA1.bat).1 ≠ 0 := by decide
  have h4 : ¬ (Vw.fold (Sto.start cA).u (Sto.start cA).acc dA1.bat.evs).1.1 ≠ 0 := by decide
  have h5 : (Vw.fold (Sto.start cA).u (Sto.start cA).acc dA1.bat.evs).2.1 = 1 := by decide
  have h6 : ¬ (Evt.wrongL [⟨1, [evA]⟩]).1 ≠ 0 := by decide
  have hd : Sto.laid X cA (Sto.start cA) dA1.bat (Vw.fold (Sto.start cA).u (Sto.start cA).acc dA1.bat.evs).2 = (0, ⟨Sto.write 0 (X.lay (Evt.encL [⟨1, [evA]⟩]) 0 cA).2 0 (Sto.start cA).disks, 1, [], [1], 1, (Vw.fold (Sto.start cA).u (Sto.start cA).acc dA1.bat.evs).2.2⟩) := by
    rw [laid_keep]
    have hk : keepS X cA (Sto.start cA) dA1.bat = (0, { Sto.start cA with disks := Sto.write 0 (X.lay (Evt.encL [⟨1, [evA]⟩]) 0 cA).2 0 (Sto.start cA).disks, segs := 1, tail := [] }) := by
      unfold keepS
      rw [if_neg (by decide)]
      refine (if_neg h6).trans ?_
      exact if_neg fun z => z hl
    rw [hk, h5]
    rfl
  refine ⟨(X.lay (Evt.encL [⟨1, [evA]⟩]) 0 cA).2, (Vw.fold (Sto.start cA).u (Sto.start cA).acc dA1.bat.evs).2.2, ?_⟩
  unfold Sto.put
  rw [if_neg h1, if_neg (by decide), if_neg (by decide), if_neg h4, hd, if_neg (fun z => z rfl), h5]
theorem aliveA {X : Sto.Six} (hX : Sto.SixOk X) : (Sto.steps X cA (Sto.start cA) [dA1, dA2, dA3]).1.segs = 1 ∧ ∃ a1 a2, (Sto.steps X cA (Sto.start cA) [dA1, dA2, dA3]).2 = [a1, a2, ⟨0, 1, [evA], 0, []⟩] := by
  obtain ⟨L, acc, hp⟩ := putA hX
  have hg : Sto.Good X cA := Sto.six_good hX
  obtain ⟨BL, i1, i2, i3⟩ := Sto.put_inv (Sto.inv_start X cA) dA1
  have w1 := i3 [] (Sto.whole_start X cA)
  rw [hp] at i1 i2 w1
  have e1 : Sto.step X cA (Sto.start cA) dA1 = (⟨Sto.write 0 L 0 (Sto.start cA).disks, 1, [], [1], 1, acc⟩, Sto.told 1) := by
    rw [Sto.step_put rfl, hp]
  obtain ⟨s1, hs1⟩ : ∃ s1 : Sto.St, s1 = ⟨Sto.write 0 L 0 (Sto.start cA).disks, 1, [], [1], 1, acc⟩ := ⟨_, rfl⟩
  rw [← hs1] at i1 i2 w1 e1
  have e2 : Sto.step X cA s1 dA2 = Sto.harm s1 dA2 := step_harm (Or.inl rfl)
  have w2 := Sto.harm_whole w1 dA2
  have j2 := Sto.harm_inv i1 dA2 (by decide) (Or.inl rfl) (fun z => absurd z.1 (by decide))
  have hsame := Sto.harm_same s1 dA2
  have hH : (if (Sto.harm s1 dA2).2.err = 0 ∧ dA2.n.toNat ∉ ([] : List Nat) then dA2.n.toNat :: [] else []).length ≤ cA.s := by
    split
    · exact Nat.le_refl 1
    · exact Nat.zero_le _
  have hall := Sto.all_kept hg j2 w2 hH
  rw [hsame.tail] at hall
  have hev : Sto.evsOf BL.flatten ++ Sto.evsOf s1.tail = [evA] := by
    have z : Sto.evsOf BL.flatten ++ Sto.evsOf s1.tail = _ := i2
    rw [z]
    rfl
  rw [hev] at hall
  have e3 : Sto.step X cA (Sto.harm s1 dA2).1 dA3 = ((Sto.harm s1 dA2).1, ⟨0, 1, [evA], 0, []⟩) := by
    rw [step_all rfl, hall]
    rfl
  have hst : Sto.steps X cA (Sto.start cA) [dA1, dA2, dA3] = ((Sto.harm s1 dA2).1, [Sto.told 1, (Sto.harm s1 dA2).2, ⟨0, 1, [evA], 0, []⟩]) := by
    simp only [Sto.steps, e1, e2, e3]
  rw [hst]
  exact ⟨by show (Sto.harm s1 dA2).1.segs = 1; rw [hsame.segs, hs1], _, _, rfl⟩

end Go.Proofs.YtldjieplbeflfaaGreat

namespace Go.Proofs.YtldjieplbeflfaaGreat
open Go.RowKit

theorem nb_empty : nb ByteArray.empty = [] := by decide
theorem nb_a : nb ⟨#[97]⟩ = [97] := by decide
theorem dos_A {w : World} {p q : Nat} (hp : VarN w p 59 [.string ⟨#[97]⟩, .int .i64 1, .int .i64 0]) (hq : VarN w q 43 #[.int .i64 1, .int .i64 0, .int .i64 0, .int .i64 0, .int .u8 0, .int .i64 1, .slice (some ⟨p, 0, none⟩) 1 1, .string ByteArray.empty, .int .i64 (-1), .int .i64 5, .int .i64 0, .int .i64 0, .int .i64 0, .int .u8 0, .int .i64 0, .slice none 0 0, .string ByteArray.empty, .int .i64 0, .int .i64 3, .int .i64 0, .int .i64 0, .int .i64 0, .int .u8 0, .int .i64 0, .slice none 0 0, .string ByteArray.empty, .int .i64 0].toList) : Dos w (.slice (some ⟨q, 0, none⟩) 3 3) [dA1, dA2, dA3] := by
  have nil : Evs w (.slice none 0 0) [] := ⟨none, 0, rfl, Nat.le_refl _, Nat.zero_le _, fun i e he => (by cases he)⟩
  have one : Evs w (.slice (some ⟨p, 0, none⟩) 1 1) [evA] := by
    refine ⟨some ⟨p, 0, none⟩, 1, rfl, Nat.le_refl _, by decide, fun i e he => ⟨p, 0, rfl, ?_⟩⟩
    match i, he with
    | 0, he =>
      cases he
      exact ⟨⟨#[97]⟩, by decide, nb_a, hp.cell (i := 0) rfl, hp.cell (i := 1) rfl, hp.cell (i := 2) rfl⟩
  refine ⟨some ⟨q, 0, none⟩, 3, rfl, Nat.le_refl _, by decide, fun i d hd => ⟨q, 0, rfl, ?_⟩⟩
  match i, hd with
  | 0, hd =>
    cases hd
    refine ⟨.slice (some ⟨p, 0, none⟩) 1 1, ByteArray.empty, ⟨one, nb_empty, by decide, by decide⟩, fun j u hj => hq.cell ?_⟩
    match j, hj with
    | 0, hj => exact hj
    | 1, hj => exact hj
    | 2, hj => exact hj
    | 3, hj => exact hj
    | 4, hj => exact hj
    | 5, hj => exact hj
    | 6, hj => exact hj
    | 7, hj => exact hj
    | 8, hj => exact hj
  | 1, hd =>
    cases hd
    refine ⟨.slice none 0 0, ByteArray.empty, ⟨nil, nb_empty, by decide, by decide⟩, fun j u hj => hq.cell ?_⟩
    match j, hj with
    | 0, hj => exact hj
    | 1, hj => exact hj
    | 2, hj => exact hj
    | 3, hj => exact hj
    | 4, hj => exact hj
    | 5, hj => exact hj
    | 6, hj => exact hj
    | 7, hj => exact hj
    | 8, hj => exact hj
  | 2, hd =>
    cases hd
    refine ⟨.slice none 0 0, ByteArray.empty, ⟨nil, nb_empty, by decide, by decide⟩, fun j u hj => hq.cell ?_⟩
    match j, hj with
    | 0, hj => exact hj
    | 1, hj => exact hj
    | 2, hj => exact hj
    | 3, hj => exact hj
    | 4, hj => exact hj
    | 5, hj => exact hj
    | 6, hj => exact hj
    | 7, hj => exact hj
    | 8, hj => exact hj

end Go.Proofs.YtldjieplbeflfaaGreat

namespace Go.Proofs.YtldjieplbeflfaaGreat
open Go.RowKit

set_option maxHeartbeats 2000000 in
set_option maxRecDepth 100000 in
theorem alive_any (w : World) : Calls Tryz.prog 9 #[] w fun e w' => e = .returned (.bool true) ∧ Below w.heap.size w w' := by
  obtain ⟨X, hX⟩ := Sto.six
  have b1 : Below w.heap.size w (w.alloc (.cells #[.string ⟨#[97]⟩, .int .i64 1, .int .i64 0] 59)) := (Below.refl _ _).alloc (Nat.le_refl _) _
  have VE := varN_new w #[.string ⟨#[97]⟩, .int .i64 1, .int .i64 0] 59
  have HP1 := putL_any 1 (some ⟨w.heap.size, 0, none⟩) 1 1 (w.alloc (.cells #[.string ⟨#[97]⟩, .int .i64 1, .int .i64 0] 59))
  go_enter Tryz.func9, Tryz.ntmps9
  go_wp2_with fail
  refine HP1.mono ?_
  rintro e w2 ⟨rfl, b2⟩
  have b3 : Below w2.heap.size w2 (w2.alloc (.cells #[.int .i64 1, .int .i64 0, .int .i64 0, .int .i64 0, .int .u8 0, .int .i64 1, .slice (some ⟨w.heap.size, 0, none⟩) 1 1, .string ByteArray.empty, .int .i64 (-1), .int .i64 5, .int .i64 0, .int .i64 0, .int .i64 0, .int .u8 0, .int .i64 0, .slice none 0 0, .string ByteArray.empty, .int .i64 0, .int .i64 3, .int .i64 0, .int .i64 0, .int .i64 0, .int .u8 0, .int .i64 0, .slice none 0 0, .string ByteArray.empty, .int .i64 0] 43)) := (Below.refl _ _).alloc (Nat.le_refl _) _
  have hdo := dos_A ((VE.below b2).below b3) (varN_new w2 #[.int .i64 1, .int .i64 0, .int .i64 0, .int .i64 0, .int .u8 0, .int .i64 1, .slice (some ⟨w.heap.size, 0, none⟩) 1 1, .string ByteArray.empty, .int .i64 (-1), .int .i64 5, .int .i64 0, .int .i64 0, .int .i64 0, .int .u8 0, .int .i64 0, .slice none 0 0, .string ByteArray.empty, .int .i64 0, .int .i64 3, .int .i64 0, .int .i64 0, .int .i64 0, .int .u8 0, .int .i64 0, .slice none 0 0, .string ByteArray.empty, .int .i64 0] 43)
  have HPL : Calls Tryz.prog 10 #[.agg #[.int .i64 2, .int .i64 1, .int .i64 1], .slice (some ⟨w2.heap.size, 0, none⟩) 3 3] (w2.alloc (.cells #[.int .i64 1, .int .i64 0, .int .i64 0, .int .i64 0, .int .u8 0, .int .i64 1, .slice (some ⟨w.heap.size, 0, none⟩) 1 1, .string ByteArray.empty, .int .i64 (-1), .int .i64 5, .int .i64 0, .int .i64 0, .int .i64 0, .int .u8 0, .int .i64 0, .slice none 0 0, .string ByteArray.empty, .int .i64 0, .int .i64 3, .int .i64 0, .int .i64 0, .int .i64 0, .int .u8 0, .int .i64 0, .slice none 0 0, .string ByteArray.empty, .int .i64 0] 43)) fun e w' => PlayO e (w2.alloc (.cells #[.int .i64 1, .int .i64 0, .int .i64 0, .int .i64 0, .int .u8 0, .int .i64 1, .slice (some ⟨w.heap.size, 0, none⟩) 1 1, .string ByteArray.empty, .int .i64 (-1), .int .i64 5, .int .i64 0, .int .i64 0, .int .i64 0, .int .u8 0, .int .i64 0, .slice none 0 0, .string ByteArray.empty, .int .i64 0, .int .i64 3, .int .i64 0, .int .i64 0, .int .i64 0, .int .u8 0, .int .i64 0, .slice none 0 0, .string ByteArray.empty, .int .i64 0] 43)) w' X cA [dA1, dA2, dA3] := play_ok hX cA (by decide) (by decide) (by decide) (by decide) (by decide) _ _ _ hdo (by decide)
  have b03 := bt (bt b1 b2) b3
  clear HP1 VE b1 b2 b3 hdo
  go_wp2_with fail
  refine HPL.mono ?_
  rintro e w4 ⟨N, R, F, E, D, V, U, vt, vs, va, tc, vr, qs, rfl, hS, hA, hb4, _⟩
  obtain ⟨hseg, a1, a2, hans⟩ := aliveA hX
  rw [hans] at hA
  have b04 := bt b03 hb4
  have hq3 : qs.length = 3 := hA.len
  obtain ⟨q, hq⟩ : ∃ q, qs[2]? = some q := ⟨qs[2], List.getElem?_eq_getElem (by omega)⟩
  obtain ⟨ve, va', hag, hev, _⟩ := hA.ans 2 q _ hq rfl
  obtain ⟨Ae, Ce, hve⟩ := hev.1.shape
  have hcell : ∀ j u, j < 5 → (anCells q)[j]? = some u → ∀ g, vr.ownBlock = some g → w4.cell? ⟨g, 10 + j, none⟩ = some u := fun j u hj hu g hg => by
    have hf := flat_get anCells 5 qs (fun _ _ => rfl) 2 j hj q hq
    have := hA.own.cells (g := g) hg (2 * 5 + j) u (hf.trans hu)
    rw [WideShapes.add_plain, Nat.zero_add] at this
    exact this
  obtain ⟨g, cap, rfl, hc1, hc2⟩ : ∃ g cap, vr = .slice (some ⟨g, 0, none⟩) 3 cap ∧ 3 ≤ cap ∧ cap ≤ 9223372036854775807 := by
    rcases hA.own.2 with ⟨rfl, h0⟩ | ⟨g, cap, cur, rfl, _, _, h1, h2, _⟩
    · omega
    · rw [hq3] at h1
      exact ⟨g, cap, by rw [hq3], h1, by unfold maxLen at h2; exact h2⟩
  have hcs : (anCells q).toArray = #[.int .i64 ((0 : Nat) : Int), .int .i64 1, ve, .int .i64 0, va'] := Value.agg.inj hag
  have hcl : anCells q = [.int .i64 ((0 : Nat) : Int), .int .i64 1, ve, .int .i64 0, va'] := by
    have := congrArg Array.toList hcs
    exact this
  have k0 : w4.cell? ⟨g, 10, none⟩ = some (.int .i64 0) := hcell 0 _ (by decide) (by rw [hcl]; rfl) g rfl
  have k2 : w4.cell? ⟨g, 12, none⟩ = some (.slice Ae 1 Ce) := hcell 2 _ (by decide) (by rw [hcl, hve]; rfl) g rfl
  obtain ⟨At, n5, Ct, rfl⟩ : ∃ At n Ct, vt = .slice At n Ct := by
    rcases hS.tail.own.2 with ⟨rfl, _⟩ | ⟨g, cap, cur, rfl, _⟩
    · exact ⟨_, _, _, rfl⟩
    · exact ⟨_, _, _, rfl⟩
  obtain ⟨As, n6, Cs, rfl⟩ : ∃ At n Ct, vs = .slice At n Ct := by
    rcases hS.seen.2 with ⟨rfl, _⟩ | ⟨g, cap, cur, rfl, _⟩
    · exact ⟨_, _, _, rfl⟩
    · exact ⟨_, _, _, rfl⟩
  obtain ⟨Aa, n8, Ca, rfl⟩ : ∃ At n Ct, va = .slice At n Ct := by
    obtain ⟨A, C, h⟩ := hS.acc.1.shape
    exact ⟨_, _, _, h⟩
  have hgl : g < w4.heap.size := World.block_lt_of_cell? _ _ k0
  have hgn : g ≠ w4.heap.size := Nat.ne_of_lt hgl
  rw [hseg]
  obtain ⟨sd, hsd⟩ : ∃ x, x = (Sto.steps X cA (Sto.start cA) [dA1, dA2, dA3]).1.disks.length := ⟨_, rfl⟩
  obtain ⟨su, hsu⟩ : ∃ x, x = (Sto.steps X cA (Sto.start cA) [dA1, dA2, dA3]).1.u := ⟨_, rfl⟩
  rw [← hsd, ← hsu]
  have b5 : ∀ o, Below w.heap.size w (w4.alloc o) := fun o => b04.alloc b04.size _
  simp only [stCells]
  clear HPL hS hA hcell hcs hcl hag hev hve hans hseg hsd hsu hX
  go_wp2_with fail
  go_ret
  exact ⟨rfl, b5 _⟩

end Go.Proofs.YtldjieplbeflfaaGreat
