/-
  Texts of the proof, joined: TLay.
-/
import Derived.Test.YtmcaejooaaahdaaGreatZ25
import Derived.Laws.CopyOwn
import Derived.Lib.MinMax
namespace Go.Proofs.YtmcaejooaaahdaaGreat
open Go.RowKit

theorem layN_max {L d : Nat} (hd : 1 ≤ d) : Nat.max 1 ((L + d - 1) / d) = Seg.layN L d := by
  show max 1 ((L + d - 1) / d) = _
  unfold Seg.layN
  split
  · rename_i h
    have : (L + d - 1) / d < 2 := by
      rw [Nat.div_lt_iff_lt_mul (by omega)]
      omega
    omega
  · rename_i h
    have : 1 ≤ (L + d - 1) / d := by
      rw [Nat.le_div_iff_mul_le (by omega)]
      omega
    omega
/-- What is spread: r, noughts behind it. -/
def spr (r : Nat → Nat) (L k : Nat) : Nat := if k < L then r k else 0
theorem row_spr {w : World} {g n m : Nat} {F : Nat → Nat} (hmn : n ≤ m) (h : w.heap[g]? = some (.cells (splice (madeCells #[.int .u8 0] m).toList 0 (cellsOf F n)).toArray 5 (0, 0))) : RowC w g 5 m (fun j => .int .u8 (spr F n j : Nat)) := by
  have hl : (cellsOf F n).length = n := by simp [cellsOf]
  have hml : (madeCells #[Value.int .u8 0] m).toList.length = m := by simp [madeCells]
  refine rowC_of ⟨_, h, ?_, fun i hi => ?_⟩
  · rw [List.size_toArray, length_splice _ _ _ (by rw [hl, hml]; omega), hml]
  · have hi : i < m := hi
    simp only [List.getElem?_toArray, splice, List.take_zero, List.nil_append, Nat.zero_add]
    unfold spr
    by_cases hlt : i < n
    · rw [if_pos hlt, List.getElem?_append_left (by rw [hl]; exact hlt)]
      simp [cellsOf, hlt]
    · rw [if_neg hlt, List.getElem?_append_right (by rw [hl]; omega), List.getElem?_drop, hl, show n + (i - n) = i by omega]
      simp [madeCells, hi, Nat.mod_one]
theorem layD_spr {r : Nat → Nat} {L n i k : Nat} (hk : k < n) : Seg.layD r L n i k = spr r L (i * n + k) := by
  unfold Seg.layD spr
  by_cases h : i * n + k < L
  · rw [if_pos ⟨hk, h⟩, if_pos h]
  · rw [if_neg (fun q => h q.2), if_neg h]

set_option maxHeartbeats 400000 in
set_option maxRecDepth 100000 in
theorem spread_any (v : Value) (L : Nat) (r : Nat → Nat) (d : Nat) (w : World) (h : Byts w v L r) (h1 : 1 ≤ d) (h2 : d ≤ 8) (h5 : L ≤ 400 * d) :
    Calls Tryz.prog 110 #[v, .int .i64 (d : Int)] w fun e w' => ∃ v' U, e = .returned v' ∧ Pcs w' w.heap.size v' d U (fun _ => Seg.layN L d) (Seg.layD r L (Seg.layN L d)) ∧ Below w.heap.size w w' := by
  have hn1 := Seg.layN_pos L d h1
  have hn2 := Seg.layN_le h1 h5
  have hrm := Seg.layN_room L d h1
  obtain ⟨A, C, rfl⟩ := h.shape
  have hL := h.len
  obtain ⟨q, hq⟩ : ∃ q, q = (L + d - 1) / d := ⟨_, rfl⟩
  have hdn : q ≤ 400 * 8 + 8 := by
    have := Nat.div_le_self (L + d - 1) d
    omega
  have hdiv : (((L : Int) + (d : Int) - 1).tdiv (d : Int)) = (q : Int) := by
    rw [show (L : Int) + (d : Int) - 1 = ((L + d - 1 : Nat) : Int) by omega, hq]
    rfl
  have hwr : IntKind.i64.wrap (q : Int) = (q : Int) := by rw [IntKind.wrap_i64]; omega
  have hmax : max (1 : Int) (q : Int) = ((Seg.layN L d : Nat) : Int) := by
    have := layN_max (L := L) h1
    rw [← hq] at this
    have e : Nat.max 1 q = max 1 q := rfl
    omega
  have hd0 : ¬ (d : Int) = 0 := by omega
  have hl1 : (L : Int) + (d : Int) ≤ 9223372036854775807 := by omega
  clear hq
  generalize hnn : Seg.layN L d = n at *
  have hm8 : d * n ≤ 8 * 400 := Nat.mul_le_mul h2 hn2
  obtain ⟨m, hm⟩ : ∃ m, m = d * n := ⟨_, rfl⟩
  have hLm : L ≤ m := by rw [hm, Nat.mul_comm]; exact hrm
  have hdm : (d : Int) * (n : Int) = (m : Int) := by rw [hm, Int.natCast_mul]
  have HIN : Hid (∀ i, i < d → i * n + n ≤ m) := fun i hi => by
    have := Nat.mul_le_mul_right n (show i + 1 ≤ d by omega)
    rw [Nat.succ_mul] at this
    rw [hm]
    exact this
  have HDD : Hid (Bd (fun k => spr r L k)) := fun k => by
    show spr r L k < 256
    unfold spr
    split
    · exact h.bd k
    · decide
  rw [← hm] at hm8
  have hmk := run_make_row' (P := Tryz.prog) 59 5 (.int .u8 0) 1 Tryz.underlying59 Tryz.infoByte rfl .i64 .i64 m (by omega) (by omega)
  have hsz : (Tryz.prog.info? 5).map (·.size) = some 1 := by
    obtain ⟨i1, hi1, hh1⟩ := Option.map_eq_some_iff.1 Tryz.infoByte
    simp only [Prod.mk.injEq] at hh1
    rw [hi1]
    simp [hh1.2.1]
  have hlc : (cellsOf r L).length = Nat.min L m := by
    rw [show Nat.min L m = L from Nat.min_eq_left hLm]
    simp [cellsOf]
  have h1c := cellsOf_one r L
  have hcs : 0 < (cellsOf r L).length → ∃ ad, A = some ad ∧ ∀ j v, (cellsOf r L)[j]? = some v → (w.alloc (.cells (madeCells #[.int .u8 0] m) 5)).cell? (ad.add j) = some v := fun h0 => by
    have hL0 : 0 < L := by simpa [cellsOf] using h0
    obtain ⟨b, o, cap, hv, _, _, hc⟩ := h.some hL0
    cases hv
    refine ⟨_, rfl, fun j v hj => ?_⟩
    rcases Nat.lt_or_ge j L with h | h
    · simp [cellsOf, h] at hj
      rw [WideShapes.add_plain, ((Below.refl w.heap.size w).alloc (Nat.le_refl _) _).cell (p := ⟨b, o + j, none⟩) (World.block_lt_of_cell? _ _ (hc j h)), hc j h, ← hj]
    · simp [List.getElem?_eq_none (show (cellsOf r L).length ≤ j by simpa [cellsOf] using h)] at hj
  have hgn : (w.alloc (.cells (madeCells #[.int .u8 0] m) 5)).heap[w.heap.size]? = some (.cells (madeCells #[.int .u8 0] m).toList.toArray 5 (0, 0)) := by
    rw [Array.toArray_toList]
    exact Deep.blk_alloc_new _ _
  have hfit : 0 + (cellsOf r L).length ≤ (madeCells #[Value.int .u8 0] m).toList.length := by
    have h6 : (madeCells #[Value.int .u8 0] m).toList.length = m := by simp [madeCells]
    have h7 : (cellsOf r L).length = L := by simp [cellsOf]
    omega
  have by3 := (Below.refl w.heap.size w).alloc (Nat.le_refl _) (.cells (madeCells #[.int .u8 0] m) 5)
  have HR : Hid (L ≤ m) := hLm
  obtain ⟨i0, hi0, hh⟩ := Option.map_eq_some_iff.1 Tryz.infoRow
  simp only [Prod.mk.injEq] at hh
  obtain ⟨hz0, hz1, hz2⟩ := hh
  clear hrm h hm hLm
  go_enter Tryz.func110, Tryz.ntmps110
  go_upto_region 3 with fail
  clear hdiv hwr hmax hl1
  go_wp2_with (refine wpList_copy_splice rfl (.tmp 21) (.tmp 22) 59 59 rfl 5 Tryz.underlying59 hsz _ _ _ _ _ _ rfl rfl w.heap.size 0 _ _ hgn _ hlc (fun h0 => ⟨rfl, hcs h0⟩) hfit h1c w.heap.size w by3 (Nat.le_refl _) ?_; intro u3 HG b3)
  have R3 : RowC u3 w.heap.size 5 m (fun j => .int .u8 (spr r L j : Nat)) := row_spr HR.out HG.out
  clear HG hgn hfit hcs hmk hsz hlc h1c by3
  go_loopw [7, 25] (fun y x wr => ∃ (i : Nat) (U : Nat → Value), i ≤ d ∧ x = .int .i64 i ∧ Pcs wr w.heap.size y i U (fun _ => n) (Seg.layD r L n) ∧ RowC wr w.heap.size 5 m (fun j => .int .u8 (spr r L j : Nat)) ∧ Below w.heap.size w wr) (fun _ x _ => d - (intOf x).toNat)
  case atStart => exact ⟨0, fun _ => .slice none 0 0, Nat.zero_le _, rfl, Pcs.start _ _ _ _ _, R3, b3⟩
  case round =>
    obtain ⟨i, U, hi, rfl, hP, hR, hb⟩ := hrel
    by_cases hlt : i < d
    · have hlt' : (i : Int) < (d : Int) := by omega
      have hin := HIN.out i hlt
      obtain ⟨p, hp⟩ : ∃ p, i * n = p := ⟨_, rfl⟩
      rw [hp] at hin
      have q1 : (i : Int) * (n : Int) = (p : Int) := by rw [← hp, Int.natCast_mul]
      have q2 : ((i : Int) + 1) * (n : Int) = (p : Int) + (n : Int) := by rw [Int.add_mul, q1, Int.one_mul]
      have hpc : Pce wr w.heap.size (.slice (some ⟨w.heap.size, p, none⟩) n (m - p)) n (Seg.layD r L n i) := by
        refine ⟨⟨fun k => ?_, _, _, rfl, by omega, by unfold maxLen; omega, fun k hk => ⟨w.heap.size, p, rfl, ?_⟩⟩, Or.inr ⟨_, p, _, _, _, rfl, Nat.le_refl _, hR⟩⟩
        · by_cases e : k < n
          · rw [layD_spr e]; exact HDD.out _
          · show Seg.layD r L n i k < 256
            unfold Seg.layD
            rw [if_neg (fun q => e q.1)]
            decide
        · rw [hR.cell (by omega), layD_spr hk, hp]
      have hbX := (Below.refl wr.heap.size wr).alloc (Nat.le_refl _) (.cells #[.slice (some ⟨w.heap.size, p, none⟩) n (m - p)] 59)
      have hP := hP.below hbX
      have hpc := hpc.below hbX
      have hR := hR.below hbX
      have bX := bt hb hbX
      have HLT := hP.own.lt
      have HPO := hP.own
      clear hbX
      go_wp2_with (at_builtin; go_loud (refine wpList_append_own _ rfl (.tmp 28) (.tmp 38) 86 rfl w.heap.size 59 i0 (.slice none 0 0) 1 24 Tryz.underlying86 hi0 hz0 hz1 hz2 rfl (by decide) _ _ _ rfl HPO ⟨wr.heap.size, 0, none⟩ 1 1 [.slice (some ⟨w.heap.size, p, none⟩) n (m - p)] rfl rfl cell_one (by intro u hu; simp at hu; subst hu; rfl) (by unfold maxLen; omega) (by omega) bX.size ?_; intro v7 w7 hown1 hgrow1 _))
      have b7 : Below w.heap.size w w7 := bX.grown hgrow1 bX.size (fun x hx => (HLT x hx).1)
      have hP7 := hP.step hpc hown1 hgrow1
      have hR7 : RowC w7 w.heap.size 5 m (fun j => .int .u8 (spr r L j : Nat)) := hR.of_block (hgrow1.block _ hR.lt (fun e => by
        obtain ⟨F2, h2⟩ := owns_block hP.own e.symm
        exact hR.ne h2 (by decide) rfl))
      exact ⟨⟨i + 1, _, by omega, by go_num, hP7, hR7, b7⟩, by simp [intOf]; omega⟩
    · obtain rfl : i = d := by omega
      go_wp2_with fail
      go_ret
      exact ⟨_, _, rfl, hP, hb⟩

theorem owns_lower {w : World} {N M : Nat} {t : TypeId} {v : Value} {n : Nat} {xs : List Value} (h : w.ownsRow N t 1 v n xs) (hM : M ≤ N) : w.ownsRow M t 1 v n xs :=
  ⟨h.1, h.2.imp id (fun ⟨g, cap, cur, e, hg, r⟩ => ⟨g, cap, cur, e, Nat.le_trans hM hg, r⟩)⟩
theorem Pcs.congr {w : World} {N k : Nat} {v : Value} {U : Nat → Value} {L : Nat → Nat} {f f' : Nat → Nat → Nat} (h : Pcs w N v k U L f) (e : ∀ i, i < k → f i = f' i) : Pcs w N v k U L f' :=
  ⟨h.own, fun i hi => by rw [← e i hi]; exact h.row i hi⟩

set_option maxHeartbeats 400000 in
set_option maxRecDepth 100000 in
theorem blocks_any (v : Value) (m n : Nat) (F : Nat → Nat → Nat) (seg L : Nat) (w : World) (h : Lls w v m (fun _ => n) F) (hm : m ≤ 12) (hW : ∀ j, j < m → Crc.wrongB seg j L n = 0) :
    Calls Tryz.prog 112 #[v, .int .i64 (seg : Int), .int .i64 (L : Int)] w fun e w' => ∃ v' U, e = .returned (.tuple #[v', .int .i64 0]) ∧ Pcs w' w.heap.size v' m U (fun _ => n + 11) (fun j => Crc.enc seg j L n (F j)) ∧ Below w.heap.size w w' := by
  obtain ⟨A, C, rfl⟩ := h.shape
  have bd := h.bd
  have HL : Hid (∀ w', Below w.heap.size w w' → ∀ r, r < m → ∃ b o R K, A = some ⟨b, o, none⟩ ∧ w'.cell? ⟨b, o + r, none⟩ = some (.slice R n K) ∧ Byts w' (.slice R n K) n (F r)) := fun w' hb r hr => (h.below hb).at hr
  have HW : Hid (∀ j, j < m → Crc.wrongB seg j L n = 0) := hW
  have HE : Hid (∀ j : Nat, encI (seg : Int) (j : Int) (L : Int) n (F j) = Crc.enc seg j L n (F j)) := fun j => rfl
  have HBD : Hid (∀ j, j < m → Bd (Crc.enc seg j L n (F j))) := fun j hj => encI_bd (s := (seg : Int)) (h := (j : Int)) (z := (L : Int)) (bd j) (hW j hj)
  obtain ⟨i0, hi0, hh⟩ := Option.map_eq_some_iff.1 Tryz.infoRow
  simp only [Prod.mk.injEq] at hh
  obtain ⟨hz0, hz1, hz2⟩ := hh
  clear h hW
  go_enter Tryz.func112, Tryz.ntmps112
  go_wp2_with fail
  go_loopw [8, 15] (fun y x wr => ∃ (j : Nat) (U : Nat → Value), j ≤ m ∧ x = .int .i64 j ∧ Pcs wr w.heap.size y j U (fun _ => n + 11) (fun j => Crc.enc seg j L n (F j)) ∧ Below w.heap.size w wr) (fun _ x _ => m - (intOf x).toNat)
  case atStart => exact ⟨0, fun _ => .slice none 0 0, Nat.zero_le _, rfl, Pcs.start _ _ _ _ _, Below.refl _ _⟩
  case round =>
    obtain ⟨j, U, hj, rfl, hP, hb⟩ := hrel
    by_cases hlt : j < m
    · have hlt' : (j : Int) < (m : Int) := by omega
      obtain ⟨b9, o9, R9, K9, rfl, t9, y9⟩ := HL.out wr hb j hlt
      have HBB := bytes_any (.agg #[.int .i64 (seg : Int), .int .i64 (j : Int), .int .i64 (L : Int), .slice R9 n K9]) seg j L n (F j) wr ⟨_, rfl, y9⟩
      rw [HW.out j hlt, HE.out j] at HBB
      clear y9
      go_wp2_with fail
      refine HBB.mono ?_
      rintro e w6 ⟨v6, rfl, O6, b6⟩
      have hM6 : Made w6 wr.heap.size v6 (n + 11) (Crc.enc seg j L n (F j)) := by
        rcases O6 with ⟨_, q⟩ | ⟨q, _⟩
        · exact q
        · exact absurd rfl q
      have hpc := (hM6.pce (HBD.out j hlt)).lower hb.size
      obtain ⟨g6, c6, rfl, _⟩ := hM6
      have hbX := (Below.refl w6.heap.size w6).alloc (Nat.le_refl _) (.cells #[.slice (some ⟨g6, 0, none⟩) (n + 11) c6] 59)
      have hP := (hP.below b6).below hbX
      have hpc := hpc.below hbX
      have bX := bt (bt hb b6) hbX
      have HLT := hP.own.lt
      have HPO := hP.own
      clear HBB O6 hbX
      go_wp2_with (at_builtin; go_loud (refine wpList_append_own _ rfl (.tmp 32) (.tmp 34) 86 rfl w.heap.size 59 i0 (.slice none 0 0) 1 24 Tryz.underlying86 hi0 hz0 hz1 hz2 rfl (by decide) _ _ _ rfl HPO ⟨w6.heap.size, 0, none⟩ 1 1 [.slice (some ⟨g6, 0, none⟩) (n + 11) c6] rfl rfl cell_one (by intro u hu; simp at hu; subst hu; rfl) (by unfold maxLen; omega) (by omega) bX.size ?_; intro v7 w7 hown1 hgrow1 _))
      have b7 : Below w.heap.size w w7 := bX.grown hgrow1 bX.size (fun x hx => (HLT x hx).1)
      have hP7 := hP.step hpc hown1 hgrow1
      exact ⟨⟨j + 1, _, by omega, by go_num, hP7, b7⟩, by simp [intOf]; omega⟩
    · obtain rfl : j = m := by omega
      go_wp2_with fail
      go_ret2
      exact ⟨_, _, rfl, hP, hb⟩

/-- Lists appended to those that the call has made, of the call's own both. -/
theorem app_pcs (w : World) (N : Nat) (v : Value) (d s n : Nat) (U U' : Nat → Value) (f f' : Nat → Nat → Nat) (b cap : Nat) (hds : d + s ≤ 1000) (hN : N ≤ w.heap.size) (hP : Pcs w N v d U (fun _ => n) f) (hc : ∀ r, r < s → w.cell? ⟨b, 0 + r, none⟩ = some (U' r)) (hQ : ∀ r, r < s → Pce w N (U' r) n (f' r)) :
    ∃ v' w', (Builtin.append_ #[86, 86] 86 #[v, .slice (some ⟨b, 0, none⟩) s cap]).run Tryz.prog w = .ok v' w' ∧ Below N w w' ∧ Pcs w' N v' (d + s) (fun i => if i < d then U i else U' (i - d)) (fun _ => n) (fun i => if i < d then f i else f' (i - d)) := by
  obtain ⟨i0, hi, hh⟩ := Option.map_eq_some_iff.1 Tryz.infoRow
  simp only [Prod.mk.injEq] at hh
  obtain ⟨hz0, hz1, hz2⟩ := hh
  obtain ⟨v', w', hrun, ho, hg, _⟩ := run_append_own (P := Tryz.prog) w N 86 86 59 i0 (.slice none 0 0) 1 24 Tryz.underlying86 hi hz0 hz1 hz2 rfl (by decide) v d _ hP.own ⟨b, 0, none⟩ s cap ((List.range s).map U') (by simp) (fun j u hj => by
    rcases Nat.lt_or_ge j s with h | h
    · simp [h] at hj
      rw [WideShapes.add_plain, hc j h, ← hj]
    · simp [List.getElem?_eq_none (show ((List.range s).map U').length ≤ j by simpa using h)] at hj) (fun u hu => by
    obtain ⟨r, hr, rfl⟩ := List.mem_map.1 hu
    obtain ⟨_, A, C, e, _⟩ := (hQ r (List.mem_range.1 hr)).byts
    rw [e]
    rfl) (by unfold maxLen; omega) (by omega) hN
  refine ⟨v', w', hrun, (Below.refl N w).grown hg hN (fun x hx => (hP.own.lt x hx).1), ?_, fun i hi => ?_⟩
  · have e : (List.range (d + s)).map (fun i => if i < d then U i else U' (i - d)) = (List.range d).map U ++ (List.range s).map U' := by
      rw [List.range_add, List.map_append, List.map_map]
      refine congr (congrArg _ ?_) ?_
      · refine List.map_congr_left (fun i hi => ?_)
        rw [if_pos (List.mem_range.1 hi)]
      · refine List.map_congr_left (fun i _ => ?_)
        show (if d + i < d then U (d + i) else U' (d + i - d)) = _
        rw [if_neg (by omega), Nat.add_sub_cancel_left]
    rw [e]
    exact ho
  · by_cases e : i < d
    · simp only [if_pos e]
      exact (hP.row i e).kept (by decide) hP.own hg
    · simp only [if_neg e]
      exact (hQ (i - d) (by omega)).kept (by decide) hP.own hg

/-- code.Spare, and what comes of its answer behind the data. -/
theorem spare_join (N : Nat) (v : Value) (d s n : Nat) (U : Nat → Value) (D : Nat → Nat → Nat) (w : World) (hP : Pcs w N v d U (fun _ => n) D) (bd : Gf.Bd2 D) (h1 : 1 ≤ d) (h2 : d ≤ 8) (h3 : s ≤ 4) (hn1 : 1 ≤ n) (hn2 : n ≤ 400) (hN : N ≤ w.heap.size) :
    Calls Tryz.prog 111 #[v, .int .i64 (s : Int)] w fun e w' => ∃ vm v9 w5, e = .returned (.tuple #[vm, .int .i64 0]) ∧ (Builtin.append_ #[86, 86] 86 #[v, vm]).run Tryz.prog w' = .ok v9 w5 ∧ Lls w5 v9 (d + s) (fun _ => n) (Gf.mm d (Gf.rowF d) D) ∧ Below N w w5 := by
  have hA := (hP.lls bd).arg
  have hx : wrongE d (fun _ => n) = 0 := wrongE_ok h1 (by omega) hn1 hn2 (fun _ _ => rfl)
  have hbd := Gf.mm_bd (Gf.rowF_bd d) d D
  have hM := hA.mx hx
  by_cases hs : 1 ≤ s
  · refine (spare_own v d s n D w hM h2 hs h3).mono ?_
    rintro e w' ⟨b, G, rfl, ho, hb⟩
    have ho := ho.lower hN
    obtain ⟨v9, w5, r9, b9, A9⟩ := app_pcs w' N v d s n U (fun r => .slice (some ⟨G r, 0, none⟩) n n) D (Gf.mm d (spareF d) D) b s (by omega) (Nat.le_trans hN hb.size) (hP.below hb) (fun r hr => by rw [Nat.zero_add]; exact ho.top.cell hr) (fun r hr => ⟨byts_of_row (Gf.mm_bd (spareF_bd d) d D r) (rowC_of (ho.row r hr)) (Nat.le_refl _) (by unfold maxLen; omega), Or.inr ⟨_, _, _, _, _, rfl, ho.low r hr, rowC_of (ho.row r hr)⟩⟩)
    refine ⟨_, v9, w5, rfl, r9, ?_, (hb.mono hN).trans b9⟩
    refine lls_congr (A9.lls (fun i k => ?_)) hbd (fun i hi k _ => ?_)
    · show (if i < d then D i else Gf.mm d (spareF d) D (i - d)) k < 256
      by_cases e : i < d
      · rw [if_pos e]; exact bd i k
      · rw [if_neg e]; exact Gf.mm_bd (spareF_bd d) d D (i - d) k
    · show (if i < d then D i else Gf.mm d (spareF d) D (i - d)) k = _
      by_cases e : i < d
      · rw [if_pos e, shard_data bd e]
      · rw [if_neg e]
        have e2 : spareF d (i - d) = Gf.rowF d i := by
          show Gf.rowF d (d + (i - d)) = _
          rw [show d + (i - d) = i by omega]
        show Gf.dot d (spareF d (i - d)) _ = Gf.dot d (Gf.rowF d i) _
        rw [e2]
  · obtain rfl : s = 0 := by omega
    refine (spare_none v d (fun _ => n) D w hA h1 h2 hx).mono ?_
    rintro e w' ⟨rfl, hb⟩
    obtain ⟨g, cap, rfl, _, hcap, _⟩ := rowC_owns hP.own h1
    refine ⟨_, _, _, rfl, app_nil w' 86 86 Tryz.underlying86 Tryz.underlying86 g 0 d cap hcap 86, ?_, hb.mono hN⟩
    exact lls_congr ((hP.below hb).lls bd) hbd (fun i hi k _ => (shard_data bd hi k).symm)

set_option maxHeartbeats 400000 in
set_option maxRecDepth 100000 in
theorem lay_ok (v : Value) (L : Nat) (r : Nat → Nat) (seg d s : Nat) (w : World) (h : Byts w v L r) (h1 : 1 ≤ d) (h2 : d ≤ 8) (h3 : s ≤ 4) (h4 : seg ≤ 39) (h5 : L ≤ 400 * d) :
    Calls Tryz.prog 79 #[v, .int .i64 (seg : Int), .int .i64 (d : Int), .int .i64 (s : Int)] w fun e w' => ∃ v' U, e = .returned (.tuple #[v', .int .i64 0]) ∧ Pcs w' w.heap.size v' (d + s) U (fun _ => Seg.layN L d + 11) (Seg.blk r L seg d) ∧ Below w.heap.size w w' := by
  have HW := fun w' => codeWrong_any (d : Int) (s : Int) w'
  rw [wrongC_ok (by omega)] at HW
  have hL := h.len
  have HSP : Hid (∀ w', Below w.heap.size w w' → Calls Tryz.prog 110 #[v, .int .i64 (d : Int)] w' fun e w2 => ∃ v' U, e = .returned v' ∧ Pcs w2 w'.heap.size v' d U (fun _ => Seg.layN L d) (Seg.layD r L (Seg.layN L d)) ∧ Below w'.heap.size w' w2) := fun w' hb => spread_any v L r d w' (h.below hb) h1 h2 h5
  have hn1 := Seg.layN_pos L d h1
  have hn2 := Seg.layN_le h1 h5
  have HBD : Hid (Gf.Bd2 (Seg.layD r L (Seg.layN L d))) := Seg.layD_bd h.bd L _
  have HWB : Hid (∀ j, j < d + s → Crc.wrongB seg j L (Seg.layN L d) = 0) := fun j hj => Crc.wrongB_ok (by omega) (by omega)
  have HBF : Hid (∀ j, j < d + s → Crc.enc seg j L (Seg.layN L d) (Gf.mm d (Gf.rowF d) (Seg.layD r L (Seg.layN L d)) j) = Seg.blk r L seg d j) := fun j hj => by
    rw [Seg.blk_in (by omega)]
    rfl
  obtain ⟨A, C, rfl⟩ := h.shape
  have q1 : ¬ 40 ≤ (seg : Int) := by omega
  have q2 : ¬ 400 * (d : Int) < (L : Int) := by omega
  have q3 : ¬ (d : Int) * 400 < (L : Int) := by omega
  clear h h5
  go_enter Tryz.func79, Tryz.ntmps79
  go_wp2_with fail
  refine (HW _).mono ?_
  rintro e w1 ⟨rfl, b1⟩
  clear HW
  go_wp2_with fail
  refine (HSP.out _ b1).mono ?_
  rintro e w2 ⟨v2, U2, rfl, P2, b2⟩
  have HJ := spare_join w1.heap.size v2 d s _ U2 _ w2 P2 HBD.out h1 h2 h3 hn1 hn2 b2.size
  clear HSP P2
  go_wp2_with fail
  refine HJ.mono ?_
  rintro e w3 ⟨vm, v9, w5, rfl, r9, L9, b5⟩
  have HB := blocks_any v9 (d + s) (Seg.layN L d) _ seg L w5 L9 (by omega) HWB.out
  have b5 := bt b1 (b2.trans b5)
  clear HJ L9
  go_wp2_with (at_builtin; refine Lib.wpList_append_run _ rfl (.tmp 43) (.tmp 44) 86 86 rfl _ _ rfl rfl _ _ r9 ?_)
  refine HB.mono ?_
  rintro e w6 ⟨v6, U6, rfl, P6, b6⟩
  have P6 := P6.congr HBF.out
  have bz := bt b5 b6
  have P6 : Pcs w6 w.heap.size v6 (d + s) U6 (fun _ => Seg.layN L d + 11) (Seg.blk r L seg d) := ⟨owns_lower P6.own b5.size, fun i hi => (P6.row i hi).lower b5.size⟩
  clear HB r9
  go_wp2_with fail
  go_ret2
  exact ⟨_, _, rfl, P6, bz⟩

set_option maxHeartbeats 400000 in
set_option maxRecDepth 100000 in
theorem lay_any (v : Value) (L : Nat) (r : Nat → Nat) (seg d s : Int) (w : World) (h : Byts w v L r) :
    Calls Tryz.prog 79 #[v, .int .i64 seg, .int .i64 d, .int .i64 s] w fun e w' => ∃ v', e = .returned (.tuple #[v', .int .i64 (Seg.layE L seg d s : Nat)]) ∧ LayO w' (Seg.layE L seg d s) v' (d.toNat + s.toNat) (Seg.layN L d.toNat + 11) (Seg.blk r L seg.toNat d.toNat) ∧ Below w.heap.size w w' := by
  have hL := h.len
  have HW := fun w' => codeWrong_any d s w'
  by_cases q1 : d < 1 ∨ 8 < d ∨ s < 0 ∨ 4 < s
  · have HE : Hid (Seg.layE L seg d s = 5) := if_pos q1
    rw [wrongC_bad q1] at HW
    clear q1
    go_enter Tryz.func79, Tryz.ntmps79
    go_wp2_with fail
    refine (HW _).mono ?_
    rintro e w1 ⟨rfl, b1⟩
    clear HW
    go_wp2_with fail
    go_ret2
    exact ⟨_, by rw [HE.out]; rfl, Or.inr ⟨by rw [HE.out]; decide, rfl⟩, b1⟩
  rw [wrongC_ok q1] at HW
  by_cases q2 : seg < 0 ∨ 39 < seg
  · have HE : Hid (Seg.layE L seg d s = 3) := by
      show Seg.layE L seg d s = 3
      unfold Seg.layE
      rw [if_neg q1, if_pos q2]
    by_cases q3 : seg < 0
    · clear q1 q2
      go_enter Tryz.func79, Tryz.ntmps79
      go_wp2_with fail
      refine (HW _).mono ?_
      rintro e w1 ⟨rfl, b1⟩
      clear HW
      go_wp2_with fail
      go_ret2
      exact ⟨_, by rw [HE.out]; rfl, Or.inr ⟨by rw [HE.out]; decide, rfl⟩, b1⟩
    · have q4 : 40 ≤ seg := by omega
      clear q1 q2
      go_enter Tryz.func79, Tryz.ntmps79
      go_wp2_with fail
      refine (HW _).mono ?_
      rintro e w1 ⟨rfl, b1⟩
      clear HW
      go_wp2_with fail
      go_ret2
      exact ⟨_, by rw [HE.out]; rfl, Or.inr ⟨by rw [HE.out]; decide, rfl⟩, b1⟩
  by_cases q3 : 400 * d < (L : Int)
  · have HE : Hid (Seg.layE L seg d s = 4) := by
      show Seg.layE L seg d s = 4
      unfold Seg.layE
      rw [if_neg q1, if_neg q2, if_pos q3]
    obtain ⟨A, C, rfl⟩ := h.shape
    have p1 : ¬ seg < 0 := by omega
    have p2 : ¬ 40 ≤ seg := by omega
    have p5 : d * 400 < (L : Int) := by omega
    have p3 : 1 ≤ d := by omega
    have p4 : d ≤ 8 := by omega
    clear q1 q2 h
    go_enter Tryz.func79, Tryz.ntmps79
    go_wp2_with fail
    refine (HW _).mono ?_
    rintro e w1 ⟨rfl, b1⟩
    clear HW
    go_wp2_with fail
    go_ret2
    exact ⟨_, by rw [HE.out]; rfl, Or.inr ⟨by rw [HE.out]; decide, rfl⟩, b1⟩
  · obtain ⟨d', rfl⟩ := Int.eq_ofNat_of_zero_le (show 0 ≤ d by omega)
    obtain ⟨s', rfl⟩ := Int.eq_ofNat_of_zero_le (show 0 ≤ s by omega)
    obtain ⟨g', rfl⟩ := Int.eq_ofNat_of_zero_le (show 0 ≤ seg by omega)
    have HE : Seg.layE L g' d' s' = 0 := layE_ok (by omega) (by omega) (by omega) (by omega) (by omega)
    refine (lay_ok v L r g' d' s' w h (by omega) (by omega) (by omega) (by omega) (by omega)).mono ?_
    rintro e w' ⟨v', U, rfl, hl, hb⟩
    exact ⟨v', by rw [HE]; rfl, Or.inl ⟨HE, hl.lls (Seg.blk_bd (by omega) (by omega) (by omega) (by omega))⟩, hb⟩

end Go.Proofs.YtmcaejooaaahdaaGreat
