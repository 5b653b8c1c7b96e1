/-
  Texts of the proof, joined: HBlks, VSearch.
-/
import Derived.Test.YtmcaejooaaahdaaGreatZ19
import Derived.Test.YtmcaejooaaahdaaGreatZ06
import Derived.Test.YtmcaejooaaahdaaGreatZ18
import Derived.Deep.SlicePairs
import Derived.Lib.AppendZeros
namespace Go.Proofs.YtmcaejooaaahdaaGreat
open Go.RowKit

/-- What disks may have: segments rise, none is beyond; a disk that is gone has nothing. -/
def WfD (ds : List Sto.Disk) (m : Nat) : Prop := ∀ (i : Nat) (d : Sto.Disk), ds[i]? = some d → Sto.Up d.bl ∧ (∀ h, h ∈ d.bl → 0 ≤ h.1 ∧ h.1 < (m : Int)) ∧ (d.gone = true → d.bl = [])
theorem upI_len : ∀ {l : List Int} {a m : Int}, UpI l → (∀ x, x ∈ l → a ≤ x ∧ x < m) → a ≤ m → (l.length : Int) ≤ m - a
  | [], a, m, _, _, h => by
    simp
    omega
  | x :: r, a, m, hu, hm, h => by
    obtain ⟨h1, h2⟩ := List.pairwise_cons.1 hu
    have hx := hm x List.mem_cons_self
    have := upI_len (a := x + 1) (m := m) h2 (fun y hy => ⟨by have := h1 y hy; omega, (hm y (List.mem_cons_of_mem _ hy)).2⟩) (by omega)
    rw [List.length_cons]
    omega
theorem keys_of (hs : List HeC) : (hs.map heOf).map (·.1) = hs.map (·.1) := by
  rw [List.map_map]
  rfl
section
variable {w : World} {N D m : Nat} {V : Nat → Value} {U : Nat → List HeC} {ds : List Sto.Disk}
theorem DkAt.up (h : DkAt w N D V U ds) (hw : WfD ds m) {i : Nat} (hi : i < ds.length) : UpI ((U i).map (·.1)) ∧ (U i).length ≤ m := by
  obtain ⟨q1, q2, _⟩ := hw i ds[i] (List.getElem?_eq_getElem hi)
  have hb := h.bl i ds[i] (List.getElem?_eq_getElem hi)
  rw [hb] at q1 q2
  have hu : UpI ((U i).map (·.1)) := by
    have := Sto.up_iff.1 q1
    rw [keys_of] at this
    exact this
  refine ⟨hu, ?_⟩
  have := upI_len (a := 0) (m := (m : Int)) hu (fun x hx => by
    obtain ⟨y, hy, rfl⟩ := List.mem_map.1 hx
    exact q2 (heOf y) (List.mem_map_of_mem hy)) (by omega)
  rw [List.length_map] at this
  omega
theorem DkAt.heIn (h : DkAt w N D V U ds) {i : Nat} (hi : i < ds.length) : HeIn w (V i) (U i) := heIn_of (h.own i hi)
end
/-- Where the bytes of a segment's block lie. -/
def bvV (hs : List HeC) (k : Int) : Value := match hs.find? (fun h => decide (h.1 = k)) with
  | some h => slV h.2.1
  | none => .slice none 0 0
theorem bvV_there {hs : List HeC} {k : Int} {i : Nat} (hu : UpI (hs.map (·.1))) (hc : CutI (hs.map (·.1)) k i) {h : HeC} (hi : hs[i]? = some h) (hk : h.1 = k) : bvV hs k = slV h.2.1 := by
  have hf : hs.find? (fun h => decide (h.1 = k)) = some h := by
    cases hf : hs.find? (fun h => decide (h.1 = k)) with
    | none =>
      rw [List.find?_eq_none] at hf
      exact absurd hk (by simpa using hf h (List.mem_of_getElem? hi))
    | some y =>
      have h1 : y.1 = k := by simpa using List.find?_some hf
      obtain ⟨j, hj⟩ := List.mem_iff_getElem?.1 (List.mem_of_find?_eq_some hf)
      have hjo : (hs.map heOf)[j]? = some (heOf y) := by rw [List.getElem?_map, hj]; rfl
      have := Sto.cut_only (bl := hs.map heOf) (i := i) (k := k) (Sto.up_iff.2 (by rw [keys_of]; exact hu)) (by rw [keys_of]; exact hc) hjo h1
      subst this
      rw [hj] at hi
      cases hi
      rfl
  unfold bvV
  rw [hf]
theorem bvV_not {hs : List HeC} {k : Int} {i : Nat} (hu : UpI (hs.map (·.1))) (hc : CutI (hs.map (·.1)) k i) (hn : (hs.map (·.1))[i]? ≠ some k) : bvV hs k = .slice none 0 0 := by
  have hf : hs.find? (fun h => decide (h.1 = k)) = none := by
    rw [List.find?_eq_none]
    intro h hm
    have := Sto.none_of (bl := hs.map heOf) (i := i) (k := k) (Sto.up_iff.2 (by rw [keys_of]; exact hu)) (by rw [keys_of]; exact hc) (by rw [keys_of]; exact hn) (heOf h) (List.mem_map_of_mem hm)
    simpa using (show ¬ h.1 = k from this)
  unfold bvV
  rw [hf]
/-- The bytes of a segment's block. -/
theorem bvV_bytes {w : World} {N : Nat} {hs : List HeC} {k : Int} (hu : UpI (hs.map (·.1))) (hb : ∀ x : HeC, x ∈ hs → OwnB w N (slV x.2.1) x.2.2) : BytL w (bvV hs k) (Sto.pickB k (hs.map heOf) []) := by
  unfold bvV
  cases hf : hs.find? (fun h => decide (h.1 = k)) with
  | none =>
    rw [Sto.pickB_none fun h hm e => ?_]
    · exact BytL.nil w
    · obtain ⟨x, hx, rfl⟩ := List.mem_map.1 hm
      rw [List.find?_eq_none] at hf
      exact absurd (show x.1 = k from e) (by simpa using hf x hx)
  | some y =>
    have h1 : y.1 = k := by simpa using List.find?_some hf
    have hm := List.mem_of_find?_eq_some hf
    rw [Sto.pickB_up (h := heOf y) (Sto.up_iff.2 (by rw [keys_of]; exact hu)) (List.mem_map_of_mem hm) h1]
    exact (hb y hm).bytL
/-- A segment's blocks are told. -/
def BlkO (e : Ending) (w' : World) (bs : List (List Nat)) : Prop := ∃ v', e = .returned v' ∧ Lls w' v' bs.length (Sto.lenF bs) (Sto.valF bs)
theorem blocks_getD {ds : List Sto.Disk} {m : Nat} (hw : WfD ds m) {k : Int} {i : Nat} {d : Sto.Disk} (hd : ds[i]? = some d) : (Sto.blocks ds k).getD i [] = Sto.pickB k d.bl [] := by
  rw [List.getD_eq_getElem?_getD, Sto.blocks, List.getElem?_map, hd]
  show (if d.gone then [] else Sto.pickB k d.bl []) = _
  by_cases q : d.gone = true
  · rw [if_pos q, (hw i d hd).2.2 q]
    rfl
  · rw [if_neg q]

theorem row_next {α : Type} (B : Nat → α) (z : α) (n q : Nat) : ((List.range n).map fun j => if j < q then B j else z).set q (B q) = (List.range n).map fun j => if j < q + 1 then B j else z := by
  apply List.ext_getElem?
  intro i
  by_cases hi : i < n
  · by_cases e : i = q
    · subst e
      rw [List.getElem?_set_self (by simpa using hi)]
      simp [hi]
    · rw [List.getElem?_set_ne (fun z => e z.symm)]
      simp [hi, show i < q ↔ i < q + 1 by omega]
  · rw [List.getElem?_eq_none (by simpa using hi), List.getElem?_eq_none (by simpa using hi)]
theorem row_same {α : Type} (B : Nat → α) (z : α) (n q : Nat) (h : B q = z) : ((List.range n).map fun j => if j < q then B j else z) = (List.range n).map fun j => if j < q + 1 then B j else z := by
  refine List.map_congr_left fun i _ => ?_
  by_cases e : i = q
  · subst e
    rw [if_neg (Nat.lt_irrefl i), if_pos (by omega), h]
  · by_cases g : i < q
    · rw [if_pos g, if_pos (by omega)]
    · rw [if_neg g, if_neg (by omega)]

set_option maxHeartbeats 1000000 in
set_option maxRecDepth 100000 in
theorem sblocks_any (R D n N m : Nat) (k : Int) (V : Nat → Value) (U : Nat → List HeC) (ds : List Sto.Disk) (w : World) (c3 : w.cell? ⟨R, 3, none⟩ = some (.slice (some ⟨D, 0, none⟩) n n)) (hd : DkAt w N D V U ds) (hn : ds.length = n) (h12 : n ≤ 12) (hw : WfD ds m) (hm : m ≤ 100000) :
    Calls Tryz.prog 52 #[.pointer (some ⟨R, 0, none⟩), .int .i64 k] w fun e w' => BlkO e w' (Sto.blocks ds k) ∧ Below w.heap.size w w' := by
  have hmk := run_make_row' (P := Tryz.prog) 86 59 (.slice none 0 0) 24 Tryz.underlying86 Tryz.infoRow rfl .i64 .i64 n (by omega) (by omega)
  have hb0 : Below w.heap.size w (w.alloc (.cells (madeCells #[.slice none 0 0] n) 59)) := (Below.refl _ _).alloc (Nat.le_refl _) _
  have c3' := (hb0.cell (p := ⟨R, 3, none⟩) (World.block_lt_of_cell? _ _ c3)).trans c3
  have HD : Hid (DkAt w N D V U ds) := hd
  have HN : Hid (ds.length = n) := hn
  have HW : Hid (WfD ds m) := hw
  have R0 : (w.alloc (.cells (madeCells #[.slice none 0 0] n) 59)).ownsRow w.heap.size 59 1 (.slice (some ⟨w.heap.size, 0, none⟩) n n) n ((List.range n).map fun j => if j < 0 then bvV (U j) k else .slice none 0 0) := by
    have := World.ownsRow_lit w (madeCells #[.slice none 0 0] n) n (e := 59) (size := 1) (Nat.le_refl w.heap.size) (by unfold maxLen; omega) (by simp [madeCells])
    rw [show (madeCells #[Value.slice none 0 0] n).toList = (List.range n).map fun j => if j < 0 then bvV (U j) k else Value.slice none 0 0 from ?_] at this
    · exact this
    · rw [toList_madeCells_one]
      apply List.ext_getElem?
      intro i
      by_cases hi : i < n
      · simp [hi]
      · simp [hi]
  clear hd hn hw
  go_enter Tryz.func52, Tryz.ntmps52
  go_wp2_with fail
  generalize w.alloc (.cells (madeCells #[.slice none 0 0] n) 59) = W0 at hb0 c3' R0 ⊢
  go_loopw [23] (fun x wr => ∃ q : Nat, q ≤ n ∧ x = .int .i64 q ∧ wr.ownsRow w.heap.size 59 1 (.slice (some ⟨w.heap.size, 0, none⟩) n n) n ((List.range n).map fun j => if j < q then bvV (U j) k else .slice none 0 0) ∧ Below w.heap.size w wr) (fun x _ => n - (intOf x).toNat)
  case atStart => exact ⟨0, Nat.zero_le _, rfl, R0, hb0⟩
  case round =>
    obtain ⟨q, hq, rfl, hR, hb⟩ := hrel
    by_cases hlt : q < n
    · have hlt' : (q : Int) < (n : Int) := by omega
      have DK := HD.out.below hb
      have hql : q < ds.length := by rw [HN.out]; exact hlt
      obtain ⟨d, hdq⟩ : ∃ d, ds[q]? = some d := ⟨ds[q], List.getElem?_eq_getElem hql⟩
      have g0 := DK.gone hdq
      have g1 := DK.held hql
      have HE := DK.heIn hql
      obtain ⟨hup, hlen⟩ := DK.up HW.out hql
      have HUP : Hid (UpI ((U q).map (·.1))) := hup
      obtain ⟨A, C, hV, hC1, hC2, hcell⟩ := HE
      have HF := fun w' (hb' : Below wr.heap.size wr w') => find_any k (V q) (U q) w' ((DK.heIn hql).below hb') hup (by omega)
      rw [hV] at g1 HF
      have hC2' : C ≤ 9223372036854775807 := by unfold maxLen at hC2; exact hC2
      have bA : Below wr.heap.size wr (wr.alloc (.cells #[.bool d.gone, .slice A (U q).length C] 58)) := (Below.refl _ _).alloc (Nat.le_refl _) _
      have VD := varF_new wr 58 (.bool d.gone) (.slice A (U q).length C)
      have HCE : Hid (∀ (i : Nat) (x : HeC), (U q)[i]? = some x → ∃ b o, A = some ⟨b, o, none⟩ ∧ wr.cell? ⟨b, o + i * 2, none⟩ = some (.int .i64 x.1) ∧ wr.cell? ⟨b, o + i * 2 + 1, none⟩ = some (slV x.2.1)) := hcell
      clear DK hdq hV hcell hup hC2
      go_wp2_with fail
      refine (HF _ bA).mono ?_
      rintro e w1 ⟨⟨i, y, rfl, hcut, hy⟩, b1⟩
      have HCU : Hid (CutI ((U q).map (·.1)) k i) := hcut
      have b2 := bt bA b1
      have hR1 := owns_below hR b2
      have hlw := (hR1.lt w.heap.size rfl).2
      obtain ⟨v0, v1, _⟩ := VD.below b1
      clear HF VD bA b1 hcut
      cases y with
      | true =>
        have hk := hy.1 rfl
        rw [List.getElem?_map] at hk
        obtain ⟨h, hh, hhk⟩ := Option.map_eq_some_iff.1 hk
        have hil : i < (U q).length := (List.getElem?_eq_some_iff.1 hh).1
        obtain ⟨b, o, rfl, _, d1⟩ := HCE.out i h hh
        have d1 := (b2.cell (p := ⟨b, o + i * 2 + 1, none⟩) (World.block_lt_of_cell? _ _ d1)).trans d1
        have HB : Hid (bvV (U q) k = slV h.2.1) := bvV_there HUP.out HCU.out hh hhk
        have hST := hR1.stored q (slV h.2.1)
        have HST : Hid ((w1.setCell ⟨w.heap.size, q, none⟩ (slV h.2.1)).ownsRow w.heap.size 59 1 (.slice (some ⟨w.heap.size, 0, none⟩) n n) n ((List.range n).map fun j => if j < q + 1 then bvV (U j) k else .slice none 0 0)) := by
          have := hST.1
          rw [← HB.out, row_next] at this
          rw [← HB.out]
          exact this
        have hil' : (i : Int) < ((U q).length : Int) := by omega
        have hfr := hR1.frozenAt q
        obtain ⟨u0, hu0⟩ : ∃ u0, w1.cell? ⟨w.heap.size, q, none⟩ = some u0 := by
          obtain ⟨g, cap, hv, _, _, _, _, hc⟩ := owns_cells hR1 (by omega)
          cases hv
          exact ⟨_, hc q _ (by rw [List.getElem?_map, List.getElem?_range hlt]; rfl)⟩
        unfold slV at d1 HST
        clear hy hk hh hhk hST hR hR1 HB
        go_wp2_with fail
        refine ⟨⟨q + 1, by omega, by go_num, HST.out, (bt hb b2).setCell (Nat.le_refl _) _⟩, by simp [intOf]; omega⟩
      | false =>
        have HN2 : Hid (bvV (U q) k = .slice none 0 0) := bvV_not HUP.out HCU.out fun z => absurd (hy.2 z) (by decide)
        rw [row_same (fun j => bvV (U j) k) (.slice none 0 0) n q HN2.out] at hR1
        clear hy hR
        go_wp2_with fail
        exact ⟨⟨q + 1, by omega, by go_num, hR1, bt hb b2⟩, by simp [intOf]; omega⟩
    · obtain rfl : q = n := by omega
      have HL : Hid (BlkO (.returned (.slice (some ⟨w.heap.size, 0, none⟩) q q)) wr (Sto.blocks ds k)) := by
        have hl : (Sto.blocks ds k).length = q := by
          unfold Sto.blocks
          rw [List.length_map, HN.out]
        have DK := HD.out.below hb
        refine ⟨_, rfl, ?_⟩
        rw [hl]
        have hR2 : wr.ownsRow w.heap.size 59 1 (.slice (some ⟨w.heap.size, 0, none⟩) q q) q ((List.range q).map fun j => bvV (U j) k) := by
          rw [show ((List.range q).map fun j => bvV (U j) k) = (List.range q).map fun j => if j < q then bvV (U j) k else .slice none 0 0 from List.map_congr_left fun j hj => by rw [if_pos (List.mem_range.1 hj)]]
          exact hR
        refine lls_own hR2 (fun j hj => ?_) (Below.refl _ _) (fun j kk => ?_)
        · have hjl : j < ds.length := by rw [HN.out]; exact hj
          have hdj : ds[j]? = some ds[j] := List.getElem?_eq_getElem hjl
          have := (bvV_bytes (k := k) (DK.up HW.out hjl).1 fun x hx => DK.byt j x hjl hx).byts
          unfold Sto.lenF Sto.valF
          rw [blocks_getD HW.out hdj, DK.bl j _ hdj]
          exact this
        · unfold Sto.valF
          by_cases hjl : j < ds.length
          · have hdj : ds[j]? = some ds[j] := List.getElem?_eq_getElem hjl
            rw [blocks_getD HW.out hdj, DK.bl j _ hdj]
            exact Sto.getD_bytes (bvV_bytes (k := k) (DK.up HW.out hjl).1 fun x hx => DK.byt j x hjl hx).1 kk
          · have hnn : (Sto.blocks ds k)[j]? = none := List.getElem?_eq_none (by rw [hl, ← HN.out]; omega)
            rw [List.getD_eq_getElem?_getD (l := Sto.blocks ds k), hnn]
            simp
      clear hR
      go_wp2_with fail
      go_ret
      exact ⟨HL.out, hb⟩

end Go.Proofs.YtmcaejooaaahdaaGreat

namespace Go.Proofs.YtmcaejooaaahdaaGreat
open Go.RowKit

set_option maxHeartbeats 400000 in
theorem isNaN_any (s : ByteArray) (w : World) : Calls Tryz.prog 155 #[.string s] w fun e w' => e = .returned (.bool false) ∧ w' = w := by
  go_enter Tryz.func155, Tryz.ntmps155
  go_wp2_with fail
  go_ret
  exact ⟨by simp, rfl⟩

/-- How one name stands to another. -/
def cmpV (a b : List Nat) : Int := if Vw.lt a b = true then -1 else if a = b then 0 else 1
theorem cmpV_neg {a b : List Nat} : cmpV a b < 0 ↔ Vw.lt a b = true := by
  unfold cmpV
  by_cases h : Vw.lt a b = true
  · rw [if_pos h]
    simp [h]
  · rw [if_neg h]
    by_cases e : a = b
    · rw [if_pos e]
      simp [h]
    · rw [if_neg e]
      simp [h]
theorem cmpV_zero {a b : List Nat} : cmpV a b = 0 ↔ a = b := by
  unfold cmpV
  by_cases h : Vw.lt a b = true
  · rw [if_pos h]
    simp [Vw.lt_ne h]
  · rw [if_neg h]
    by_cases e : a = b
    · simp [e]
    · rw [if_neg e]
      simp [e]
theorem cmpV_range (a b : List Nat) : -1 ≤ cmpV a b ∧ cmpV a b ≤ 1 := by
  unfold cmpV
  by_cases h : Vw.lt a b = true
  · rw [if_pos h]
    omega
  · rw [if_neg h]
    by_cases e : a = b
    · rw [if_pos e]
      omega
    · rw [if_neg e]
      omega

set_option maxHeartbeats 400000 in
theorem compare_any (s t : ByteArray) (w : World) : Calls Tryz.prog 131 #[.string s, .string t] w fun e w' => e = .returned (.int .i64 (cmpV (nb s) (nb t))) ∧ w' = w := by
  have H1 := isNaN_any s w
  have H2 := isNaN_any t w
  have hl := less_nb s t
  have he := same_nb s t
  by_cases q : Vw.lt (nb s) (nb t) = true
  · have H : Hid (cmpV (nb s) (nb t) = -1) := if_pos q
    rw [q] at hl
    clear q he
    go_enter Tryz.func131, Tryz.ntmps131
    go_wp2_with fail
    refine H1.mono ?_
    rintro e w1 ⟨rfl, rfl⟩
    clear H1
    go_wp2_with fail
    refine H2.mono ?_
    rintro e w1 ⟨rfl, rfl⟩
    clear H2
    go_wp2_with fail
    go_ret
    exact ⟨by rw [H.out]; rfl, rfl⟩
  · have q' : Vw.lt (nb s) (nb t) = false := by simpa using q
    by_cases r : nb s = nb t
    · have H : Hid (cmpV (nb s) (nb t) = 0) := cmpV_zero.2 r
      rw [q'] at hl
      rw [decide_eq_true r] at he
      clear q q' r
      go_enter Tryz.func131, Tryz.ntmps131
      go_wp2_with fail
      refine H1.mono ?_
      rintro e w1 ⟨rfl, rfl⟩
      clear H1
      go_wp2_with fail
      refine H2.mono ?_
      rintro e w1 ⟨rfl, rfl⟩
      clear H2
      go_wp2_with fail
      go_ret
      exact ⟨by rw [H.out]; rfl, rfl⟩
    · have H : Hid (cmpV (nb s) (nb t) = 1) := by
        show cmpV _ _ = 1
        unfold cmpV
        rw [if_neg q, if_neg r]
      rw [q'] at hl
      rw [decide_eq_false r] at he
      clear q q' r
      go_enter Tryz.func131, Tryz.ntmps131
      go_wp2_with fail
      refine H1.mono ?_
      rintro e w1 ⟨rfl, rfl⟩
      clear H1
      go_wp2_with fail
      refine H2.mono ?_
      rintro e w1 ⟨rfl, rfl⟩
      clear H2
      go_wp2_with fail
      go_ret
      exact ⟨by rw [H.out]; rfl, rfl⟩

theorem Tryz.enters_cmpA : ∀ args w, (callFunc 130 args).run Tryz.prog w = .ok (.enter 130 args) w := enters_of Tryz.func130 (by kernel_rfl) rfl
set_option maxHeartbeats 400000 in
theorem cmpA_any (s t : ByteArray) (k m : Int) (b : Bool) (w : World) : Calls Tryz.prog 130 #[.agg #[.string s, .int .i64 k, .int .i64 m, .bool b], .string t] w fun e w' => e = .returned (.int .i64 (cmpV (nb s) (nb t))) ∧ Below w.heap.size w w' := by
  have hb0 : Below w.heap.size w (w.alloc (.cells #[.string s, .int .i64 k, .int .i64 m, .bool b] 93)) := (Below.refl _ _).alloc (Nat.le_refl _) _
  have H := compare_any s t (w.alloc (.cells #[.string s, .int .i64 k, .int .i64 m, .bool b] 93))
  go_enter Tryz.func130, Tryz.ntmps130
  go_wp2_with fail
  refine H.mono ?_
  rintro e w1 ⟨rfl, rfl⟩
  clear H
  go_wp2_with fail
  go_ret
  exact ⟨rfl, hb0⟩

/-- Where a name is searched for: i, and whether it is there. -/
def FoundA (e : Ending) (l : List Vw.Acc) (n : List Nat) : Prop := ∃ (i : Nat) (y : Bool), e = .returned (.tuple #[.int .i64 (i : Nat), .bool y]) ∧ Vw.Cut l n i ∧ (y = true ↔ ∃ a, l[i]? = some a ∧ a.name = n)

set_option maxHeartbeats 1000000 in
theorem search_any (t : ByteArray) (vs : Value) (l : List Vw.Acc) (w : World) (h : Accs w vs l) (hs : Vw.Sorted l) (hn : l.length ≤ 150) :
    Calls Tryz.prog 129 #[vs, .string t, .func (.func 130) #[] #[]] w fun e w' => FoundA e l (nb t) ∧ Below w.heap.size w w' := by
  have eg := Tryz.enters_cmpA
  have HSO : Hid (Vw.Sorted l) := hs
  obtain ⟨A, C, rfl, _, _, ha⟩ := h
  clear hs
  go_enter Tryz.func129, Tryz.ntmps129
  go_wp2_with fail
  go_loopw [9, 10] (fun x y wr => ∃ i j : Nat, i ≤ j ∧ j ≤ l.length ∧ x = .int .i64 i ∧ y = .int .i64 j ∧ Hid (∀ k a, k < i → l[k]? = some a → Vw.lt a.name (nb t) = true) ∧ Hid (∀ k a, j ≤ k → l[k]? = some a → Vw.lt a.name (nb t) = false) ∧ Below w.heap.size w wr) (fun x y _ => (intOf y).toNat - (intOf x).toNat)
  case atStart => exact ⟨0, l.length, Nat.zero_le _, Nat.le_refl _, rfl, rfl, fun k a hk => absurd hk (Nat.not_lt_zero k), fun k a hk ha => absurd (List.getElem?_eq_some_iff.1 ha).1 (by omega), Below.refl _ _⟩
  case round =>
    obtain ⟨i, j, hij, hjl, rfl, rfl, HLO, HHI, hb⟩ := hrel
    by_cases hlt : i < j
    · have hlt' : (i : Int) < (j : Int) := by omega
      obtain ⟨q, hq⟩ : ∃ q, q = (i + j) / 2 := ⟨_, rfl⟩
      have hq1 : i ≤ q := by omega
      have hq2 : q < j := by omega
      obtain ⟨a, hak⟩ : ∃ a, l[q]? = some a := ⟨l[q], List.getElem?_eq_getElem (by omega)⟩
      obtain ⟨b, o, rfl, hin⟩ := ha q a hak
      obtain ⟨s, hs1, hs2, d0, d1, d2, d3⟩ := hin.below hb
      have HK : Hid (l[q]? = some a) := hak
      have HC := cmpA_any s t a.sum a.cnt a.opn wr
      rw [hs2] at HC
      have HCN : Hid (cmpV a.name (nb t) < 0 ↔ Vw.lt a.name (nb t) = true) := cmpV_neg
      have HR := cmpV_range a.name (nb t)
      generalize cmpV a.name (nb t) = c at HC HCN HR
      have HQ : Hid (q = (i + j) / 2) := hq
      rw [hq] at d0 d1 d2 d3
      clear ha hak hs2 hin hq
      by_cases hc : c < 0
      · have HLT : Hid (Vw.lt a.name (nb t) = true) := HCN.out.1 hc
        go_wp2_with fail
        refine HC.mono ?_
        rintro e w1 ⟨rfl, b1⟩
        clear HC
        go_wp2_with fail
        refine ⟨⟨q + 1, j, by omega, hjl, val_int (by have := HQ.out; omega), rfl, fun k x hk hx => ?_, HHI.out, bt hb b1⟩, ?_⟩
        · exact Vw.sorted_le HSO.out hx HK.out (by omega) HLT.out
        · have := HQ.out
          simp [intOf]
          omega
      · have HLT : Hid (Vw.lt a.name (nb t) = false) := by
          cases h : Vw.lt a.name (nb t) with
          | false => rfl
          | true => exact absurd (HCN.out.2 h) hc
        go_wp2_with fail
        refine HC.mono ?_
        rintro e w1 ⟨rfl, b1⟩
        clear HC
        go_wp2_with fail
        refine ⟨⟨i, q, hq1, by omega, rfl, val_int (by have := HQ.out; omega), HLO.out, fun k x hk hx => ?_, bt hb b1⟩, ?_⟩
        · cases h : Vw.lt x.name (nb t) with
          | false => rfl
          | true =>
            have := Vw.sorted_le HSO.out HK.out hx hk h
            rw [HLT.out] at this
            cases this
        · have := HQ.out
          simp [intOf]
          omega
    · obtain rfl : i = j := by omega
      by_cases hin : i < l.length
      · have hin' : (i : Int) < (l.length : Int) := by omega
        obtain ⟨a, hak⟩ : ∃ a, l[i]? = some a := ⟨l[i], List.getElem?_eq_getElem hin⟩
        obtain ⟨b, o, rfl, hin⟩ := ha i a hak
        obtain ⟨s, hs1, hs2, d0, d1, d2, d3⟩ := hin.below hb
        have HC := cmpA_any s t a.sum a.cnt a.opn wr
        rw [hs2] at HC
        have HF : Hid (∀ c : Int, c = cmpV a.name (nb t) → FoundA (.returned (.tuple #[.int .i64 (i : Nat), .bool (c == 0)])) l (nb t)) := fun c hc => ⟨i, c == 0, rfl, ⟨hjl, HLO.out, HHI.out⟩, by
          rw [beq_iff_eq, hc, cmpV_zero]
          refine ⟨fun e => ⟨a, hak, e⟩, fun ⟨x, hx, e⟩ => ?_⟩
          rw [hak] at hx
          cases hx
          exact e⟩
        have HF2 := HF.out _ rfl
        have HF3 : Hid (FoundA (.returned (.tuple #[.int .i64 (i : Nat), .bool (cmpV a.name (nb t) == 0)])) l (nb t)) := HF2
        clear ha hak hs2 hin HF HF2
        generalize cmpV a.name (nb t) = c at HC HF3
        go_wp2_with fail
        refine HC.mono ?_
        rintro e w1 ⟨rfl, b1⟩
        clear HC
        go_wp2_with fail
        go_ret2
        exact ⟨HF3.out, bt hb b1⟩
      · have hin' : ¬ (i : Int) < (l.length : Int) := by omega
        have HF : Hid (FoundA (.returned (.tuple #[.int .i64 (i : Nat), .bool false])) l (nb t)) := ⟨i, false, rfl, ⟨hjl, HLO.out, HHI.out⟩, ⟨fun e => absurd e (by decide), fun ⟨x, hx, _⟩ => absurd (List.getElem?_eq_some_iff.1 hx).1 hin⟩⟩
        clear ha
        go_wp2_with fail
        go_ret2
        exact ⟨HF.out, hb⟩

/-- The cells of accounts that came in. -/
theorem accs_cells {w : World} {v : Value} {l : List Vw.Acc} (h : Accs w v l) :
    ∃ es : List AcC, es.map acOf = l ∧ (∀ e, e ∈ es → e.1.size ≤ 9223372036854775807) ∧ ∀ A C, v = .slice (some A) l.length C → ∀ j u, (es.flatMap acCells)[j]? = some u → w.cell? (A.add j) = some u := by
  by_cases h0 : 1 ≤ l.length
  · obtain ⟨b, o, C, rfl, _, _, hc⟩ := h.some h0
    have each : ∀ i, i < l.length → ∃ q : AcC, ∀ x, l[i]? = some x → acOf q = x ∧ q.1.size ≤ 9223372036854775807 ∧ w.cell? ⟨b, o + i * 4, none⟩ = some (.string q.1) ∧ w.cell? ⟨b, o + i * 4 + 1, none⟩ = some (.int .i64 q.2.1) ∧ w.cell? ⟨b, o + i * 4 + 2, none⟩ = some (.int .i64 q.2.2.1) ∧ w.cell? ⟨b, o + i * 4 + 3, none⟩ = some (.bool q.2.2.2) := by
      intro i hi
      obtain ⟨s, h1, h2, c0, c1, c2, c3⟩ := hc i l[i] (List.getElem?_eq_getElem hi)
      refine ⟨(s, l[i].sum, l[i].cnt, l[i].opn), fun x hx => ?_⟩
      rw [List.getElem?_eq_getElem hi, Option.some.injEq] at hx
      subst hx
      refine ⟨?_, h1, c0, c1, c2, c3⟩
      show (⟨nb s, _, _, _⟩ : Vw.Acc) = _
      rw [h2]
    obtain ⟨q, hq⟩ := Deep.choose_lt (α := AcC) each
    have hL : ∀ i, i < l.length → ((List.range l.length).map q)[i]? = some (q i) := fun i hi => by simp [hi]
    refine ⟨(List.range l.length).map q, ?_, fun e he => ?_, fun A C' hv j u hj => ?_⟩
    · apply List.ext_getElem?
      intro i
      by_cases hi : i < l.length
      · rw [List.getElem?_map, hL i hi, List.getElem?_eq_getElem hi, Option.map_some, (hq i hi l[i] (List.getElem?_eq_getElem hi)).1]
      · rw [List.getElem?_eq_none (by simpa using hi), List.getElem?_eq_none (by omega)]
    · obtain ⟨i, hi, rfl⟩ := List.mem_map.1 he
      have hi := List.mem_range.1 hi
      exact (hq i hi l[i] (List.getElem?_eq_getElem hi)).2.1
    · cases hv
      have hlen : (((List.range l.length).map q).flatMap acCells).length = l.length * 4 := by
        rw [flat_len acCells 4 _ (fun _ _ => rfl)]
        simp
      have hj2 : j < l.length * 4 := by
        have := (List.getElem?_eq_some_iff.1 hj).1
        omega
      have hi : j / 4 < l.length := by omega
      have hf := flat_get acCells 4 ((List.range l.length).map q) (fun _ _ => rfl) (j / 4) (j % 4) (by omega) (q (j / 4)) (hL _ hi)
      rw [show j / 4 * 4 + j % 4 = j by omega, hj] at hf
      obtain ⟨_, _, c0, c1, c2, c3⟩ := hq (j / 4) hi l[j / 4] (List.getElem?_eq_getElem hi)
      rw [WideShapes.add_plain]
      rcases (show j % 4 = 0 ∨ j % 4 = 1 ∨ j % 4 = 2 ∨ j % 4 = 3 by omega) with e | e | e | e
      · rw [e] at hf
        cases hf
        rw [show o + j = o + j / 4 * 4 by omega]
        exact c0
      · rw [e] at hf
        cases hf
        rw [show o + j = o + j / 4 * 4 + 1 by omega]
        exact c1
      · rw [e] at hf
        cases hf
        rw [show o + j = o + j / 4 * 4 + 2 by omega]
        exact c2
      · rw [e] at hf
        cases hf
        rw [show o + j = o + j / 4 * 4 + 3 by omega]
        exact c3
  · obtain rfl : l = [] := List.eq_nil_of_length_eq_zero (by omega)
    exact ⟨[], rfl, fun e he => (by cases he), fun A C _ j u hj => (by cases hj)⟩
theorem ac_one (es : List AcC) : ∀ u ∈ es.flatMap acCells, u.oneCell' = true := fun u hu => by
  obtain ⟨x, _, hx⟩ := List.mem_flatMap.1 hu
  simp only [acCells, List.mem_cons, List.not_mem_nil, or_false] at hx
  rcases hx with rfl | rfl | rfl | rfl <;> rfl
theorem ac_len (es : List AcC) : (es.flatMap acCells).length = es.length * 4 := flat_len acCells 4 _ (fun _ _ => rfl)

/-- Accounts are appended to accounts of the call's own. -/
theorem app_acs (w : World) (N : Nat) (v : Value) (es0 es : List AcC) (h0 : ABuf w N v es0) (hN : N ≤ w.heap.size) (a : Addr) (C : Nat) (hc : ∀ j u, (es.flatMap acCells)[j]? = some u → w.cell? (a.add j) = some u) (hz : ∀ e, e ∈ es → e.1.size ≤ 9223372036854775807) (hsz : es0.length + es.length ≤ 4000000) :
    ∃ v' w', (Builtin.append_ #[28, 28] 28 #[v, .slice (some a) es.length C]).run Tryz.prog w = .ok v' w' ∧ ABuf w' N v' (es0 ++ es) ∧ Below N w w' ∧ (v' = .slice none 0 0 ↔ v = .slice none 0 0 ∧ es.length = 0) := by
  obtain ⟨i4, hi4, hh4⟩ := Option.map_eq_some_iff.1 Tryz.infoAccount
  simp only [Prod.mk.injEq] at hh4
  obtain ⟨hy0, hy1, hy2⟩ := hh4
  obtain ⟨v', w', hrun, ho, hg, hnil⟩ := run_append_own (P := Tryz.prog) w N 28 28 93 i4 _ 4 40 Tryz.underlying28 hi4 hy0 hy1 hy2 rfl (by decide) v es0.length _ h0.1 a es.length C (es.flatMap acCells) (ac_len es) hc (ac_one es) (by unfold maxLen; omega) (by omega) hN
  refine ⟨v', w', hrun, ⟨?_, fun e he => ?_⟩, (Below.refl N w).grown hg hN (fun x hx => (h0.1.lt x hx).1), hnil⟩
  · rw [List.length_append, List.flatMap_append]
    exact ho
  · rcases List.mem_append.1 he with q | q
    · exact h0.2 e q
    · exact hz e q

/-- Accounts of the call's own that are those. -/
def CloneO (e : Ending) (w' : World) (N : Nat) (l : List Vw.Acc) : Prop := ∃ v es, e = .returned v ∧ es.map acOf = l ∧ ABuf w' N v es

set_option maxHeartbeats 400000 in
theorem cloneA_any (vs : Value) (l : List Vw.Acc) (w : World) (h : Accs w vs l) (hn : l.length ≤ 2000000) :
    Calls Tryz.prog 75 #[vs] w fun e w' => CloneO e w' w.heap.size l ∧ Below w.heap.size w w' := by
  obtain ⟨es, hes, hez, hec⟩ := accs_cells h
  have hel : es.length = l.length := by rw [← hes, List.length_map]
  have HE : Hid (es.map acOf = l) := hes
  obtain ⟨A, C, rfl, _, _, hin⟩ := h
  have hq := fun w => Lib.run_eql_slice_nil (P := Tryz.prog) w 28 93 A l.length C 0 0 Tryz.underlying28
  cases A with
  | none =>
    have hl0 : l = [] := by
      cases l with
      | nil => rfl
      | cons a r =>
        obtain ⟨_, _, e, _⟩ := hin 0 a rfl
        cases e
    have HR : Hid (CloneO (.returned (.slice none 0 0)) w w.heap.size l) := ⟨_, [], rfl, hl0.symm, ABuf.nil w _⟩
    clear hes hec hel HE hin hl0
    go_enter Tryz.func75, Tryz.ntmps75
    go_wp2_with fail
    go_ret
    exact ⟨HR.out, Below.refl _ _⟩
  | some a =>
    have hb0 : Below w.heap.size w (w.alloc (.cells #[] 93)) := (Below.refl _ _).alloc (Nat.le_refl _) _
    have h0 : ABuf (w.alloc (.cells #[] 93)) w.heap.size (.slice (some ⟨w.heap.size, 0, none⟩) 0 0) [] := ⟨World.ownsRow_made w #[] 0 (Nat.le_refl _) (by unfold maxLen; omega) rfl, fun e he => (by cases he)⟩
    obtain ⟨v', w', hrun, hB, hbl, _⟩ := app_acs (w.alloc (.cells #[] 93)) w.heap.size _ [] es h0 hb0.size a C (fun j u hj => by
      have h1 := hec a C rfl j u hj
      exact (hb0.cell (World.block_lt_of_cell? _ _ h1)).trans h1) hez (by simp; omega)
    rw [hel] at hrun
    have HR : Hid (CloneO (.returned v') w' w.heap.size l) := ⟨v', es, rfl, HE.out, by rw [List.nil_append] at hB; exact hB⟩
    have HB : Hid (Below w.heap.size w w') := hb0.trans hbl
    clear hes hec hB hbl h0 hin
    go_enter Tryz.func75, Tryz.ntmps75
    go_wp2_with (at_builtin; refine Lib.wpList_append_run _ rfl (.tmp 5) (.tmp 6) 28 28 rfl _ _ rfl rfl _ _ hrun ?_)
    go_ret
    exact ⟨HR.out, HB.out⟩

end Go.Proofs.YtmcaejooaaahdaaGreat
