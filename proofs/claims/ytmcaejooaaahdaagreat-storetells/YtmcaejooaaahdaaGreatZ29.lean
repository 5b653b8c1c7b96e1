/-
  Texts of the proof, joined: HLay.
-/
import Derived.Test.YtmcaejooaaahdaaGreatZ24
import Derived.Test.YtmcaejooaaahdaaGreatZ28
import Derived.Test.YtmcaejooaaahdaaGreatZ15
namespace Go.Proofs.YtmcaejooaaahdaaGreat
open Go.RowKit

theorem LayB.lower {w : World} {N M : Nat} {v : Value} {L : List (List Nat)} {Y : Nat → Sl} (h : LayB w N v L Y) (hM : M ≤ N) : LayB w M v L Y :=
  ⟨owns_lower h.own hM, fun i hi => (h.byt i hi).lower hM, h.sep⟩
theorem LayB.start (w : World) (N : Nat) (Y : Nat → Sl) : LayB w N (.slice none 0 0) [] Y :=
  ⟨World.ownsRow_nil w N _ 1, fun i hi => absurd hi (Nat.not_lt_zero i), fun i _ _ hi => absurd hi (Nat.not_lt_zero i)⟩
theorem LayB.lt {w : World} {N : Nat} {v : Value} {L : List (List Nat)} {Y : Nat → Sl} (h : LayB w N v L Y) {i g : Nat} (hi : i < L.length) (hg : (slV (Y i)).ownBlock = some g) : g < w.heap.size := ((h.byt i hi).ty hg).lt
/-- One more. -/
theorem LayB.step {w w' : World} {N : Nat} {v v' : Value} {L : List (List Nat)} {Y : Nat → Sl} {y : Sl} {r : List Nat} (h : LayB w N v L Y) (hr : OwnB w N (slV y) r) (hne : ∀ i g, i < L.length → (slV (Y i)).ownBlock = some g → (slV y).ownBlock ≠ some g)
    (ho : w'.ownsRow N 59 1 v' (L.length + 1) (((List.range L.length).map fun i => slV (Y i)) ++ [slV y])) (hg : w.grownBy w' v.ownBlock) : LayB w' N v' (L ++ [r]) (upd Y L.length y) := by
  have hof := off_of_grown hg
  have keep : ∀ {u : Value} {t : List Nat}, OwnB w N u t → OwnB w' N u t := fun {u t} hu => hu.off hof fun g hb s => (hu.ty hb).ne (owns_ty h.own s) (by decide) rfl
  have hlen : (L ++ [r]).length = L.length + 1 := by rw [List.length_append]; rfl
  refine ⟨?_, fun i hi => ?_, fun i j g hi hj h1 h2 => ?_⟩
  · rw [hlen]
    have e : ((List.range (L.length + 1)).map fun i => slV (upd Y L.length y i)) = ((List.range L.length).map fun i => slV (Y i)) ++ [slV y] := by
      rw [List.range_succ, List.map_append]
      refine congr (congrArg _ ?_) ?_
      · refine List.map_congr_left fun i hi => ?_
        rw [upd_ne _ _ (by have := List.mem_range.1 hi; omega)]
      · show [slV (upd Y L.length y L.length)] = [slV y]
        rw [upd_at]
    rw [e]
    exact ho
  · rw [hlen] at hi
    by_cases e : i = L.length
    · subst e
      rw [upd_at, List.getD_eq_getElem?_getD, List.getElem?_append_right (Nat.le_refl _), Nat.sub_self]
      exact keep hr
    · rw [upd_ne _ _ e, List.getD_eq_getElem?_getD, List.getElem?_append_left (by omega), ← List.getD_eq_getElem?_getD]
      exact keep (h.byt i (by omega))
  · rw [hlen] at hi hj
    by_cases e : i = L.length
    · by_cases e2 : j = L.length
      · rw [e, e2]
      · subst e
        rw [upd_at] at h1
        rw [upd_ne _ _ e2] at h2
        exact absurd h1 (hne j g (by omega) h2)
    · rw [upd_ne _ _ e] at h1
      by_cases e2 : j = L.length
      · subst e2
        rw [upd_at] at h2
        exact absurd h2 (hne i g (by omega) h1)
      · rw [upd_ne _ _ e2] at h2
        exact h.sep i j g (by omega) (by omega) h1 h2

/-- The blocks of j shards. -/
def encs (seg L n : Nat) (F : Nat → Nat → Nat) (j : Nat) : List (List Nat) := (List.range j).map fun i => bl (Crc.enc seg i L n (F i)) (n + 11)
theorem encs_len (seg L n : Nat) (F : Nat → Nat → Nat) (j : Nat) : (encs seg L n F j).length = j := by
  unfold encs
  rw [List.length_map, List.length_range]
theorem encs_next (seg L n : Nat) (F : Nat → Nat → Nat) (j : Nat) : encs seg L n F (j + 1) = encs seg L n F j ++ [bl (Crc.enc seg j L n (F j)) (n + 11)] := by
  unfold encs
  rw [List.range_succ, List.map_append]
  rfl

set_option maxHeartbeats 400000 in
set_option maxRecDepth 100000 in
theorem blocks_own (v : Value) (m n : Nat) (F : Nat → Nat → Nat) (seg L : Nat) (w : World) (h : Lls w v m (fun _ => n) F) (hm : m ≤ 12) (hW : ∀ j, j < m → Crc.wrongB seg j L n = 0) :
    Calls Tryz.prog 112 #[v, .int .i64 (seg : Int), .int .i64 (L : Int)] w fun e w' => ∃ v' Y, e = .returned (.tuple #[v', .int .i64 0]) ∧ LayB w' w.heap.size v' (encs seg L n F m) Y ∧ Below w.heap.size w w' := by
  obtain ⟨A, C, rfl⟩ := h.shape
  have bd := h.bd
  have HL : Hid (∀ w', Below w.heap.size w w' → ∀ r, r < m → ∃ b o R K, A = some ⟨b, o, none⟩ ∧ w'.cell? ⟨b, o + r, none⟩ = some (.slice R n K) ∧ Byts w' (.slice R n K) n (F r)) := fun w' hb r hr => (h.below hb).at hr
  have HW : Hid (∀ j, j < m → Crc.wrongB seg j L n = 0) := hW
  have HE : Hid (∀ j : Nat, encI (seg : Int) (j : Int) (L : Int) n (F j) = Crc.enc seg j L n (F j)) := fun j => rfl
  have HBD : Hid (∀ j, j < m → Bd (Crc.enc seg j L n (F j))) := fun j hj => encI_bd (s := (seg : Int)) (h := (j : Int)) (z := (L : Int)) (bd j) (hW j hj)
  obtain ⟨i0, hi0, hh⟩ := Option.map_eq_some_iff.1 Tryz.infoRow
  simp only [Prod.mk.injEq] at hh
  obtain ⟨hz0, hz1, hz2⟩ := hh
  clear h hW
  go_enter Tryz.func112, Tryz.ntmps112
  go_wp2_with fail
  go_loopw [8, 15] (fun y x wr => ∃ (j : Nat) (Y : Nat → Sl), j ≤ m ∧ x = .int .i64 j ∧ LayB wr w.heap.size y (encs seg L n F j) Y ∧ Below w.heap.size w wr) (fun _ x _ => m - (intOf x).toNat)
  case atStart => exact ⟨0, fun _ => (none, 0, 0), Nat.zero_le _, rfl, LayB.start _ _ _, Below.refl _ _⟩
  case round =>
    obtain ⟨j, Y, hj, rfl, hP, hb⟩ := hrel
    by_cases hlt : j < m
    · have hlt' : (j : Int) < (m : Int) := by omega
      obtain ⟨b9, o9, R9, K9, rfl, t9, y9⟩ := HL.out wr hb j hlt
      have HBB := bytes_any (.agg #[.int .i64 (seg : Int), .int .i64 (j : Int), .int .i64 (L : Int), .slice R9 n K9]) seg j L n (F j) wr ⟨_, rfl, y9⟩
      rw [HW.out j hlt, HE.out j] at HBB
      clear y9
      go_wp2_with fail
      refine HBB.mono ?_
      rintro e w6 ⟨v6, rfl, O6, b6⟩
      have hM6 : Made w6 wr.heap.size v6 (n + 11) (Crc.enc seg j L n (F j)) := by
        rcases O6 with ⟨_, q⟩ | ⟨q, _⟩
        · exact q
        · exact absurd rfl q
      obtain ⟨g6, c6, rfl, hg6, q1, q2, q3⟩ := hM6
      have hOB : OwnB w6 w.heap.size (slV (some ⟨g6, 0, none⟩, n + 11, c6)) (bl (Crc.enc seg j L n (F j)) (n + 11)) := by
        refine ⟨bl_bytes (HBD.out j hlt) _, g6, c6, by rw [Sto.bl_length]; rfl, Nat.le_trans hb.size hg6, by rw [Sto.bl_length]; exact q1, q2, ?_⟩
        rw [Sto.bl_length]
        refine q3.congr fun i hi => ?_
        show Value.int .u8 ((Crc.enc seg j L n (F j) i : Nat) : Int) = Value.int .u8 (((bl (Crc.enc seg j L n (F j)) (n + 11)).getD i 0 : Nat) : Int)
        rw [Sto.bl_at _ hi]
      have hbX := (Below.refl w6.heap.size w6).alloc (Nat.le_refl _) (.cells #[.slice (some ⟨g6, 0, none⟩) (n + 11) c6] 59)
      have HNE : Hid (∀ i g, i < (encs seg L n F j).length → (slV (Y i)).ownBlock = some g → (slV (some ⟨g6, 0, none⟩, n + 11, c6)).ownBlock ≠ some g) := fun i g hi hg e => by
        have := hP.lt hi hg
        cases e
        have : g6 < wr.heap.size := this
        omega
      have hP1 := (hP.below b6).below hbX
      have HP : Hid (LayB (w6.alloc (.cells #[.slice (some ⟨g6, 0, none⟩) (n + 11) c6] 59)) w.heap.size u8 (encs seg L n F j) Y) := hP1
      have HOB : Hid (OwnB (w6.alloc (.cells #[.slice (some ⟨g6, 0, none⟩) (n + 11) c6] 59)) w.heap.size (slV (some ⟨g6, 0, none⟩, n + 11, c6)) (bl (Crc.enc seg j L n (F j)) (n + 11))) := hOB.below hbX
      have bX := bt (bt hb b6) hbX
      have HLT := hP1.own.lt
      have HPO := hP1.own
      rw [encs_len] at HPO
      clear HBB O6 hbX hP hP1 hOB q3
      go_wp2_with (at_builtin; go_loud (refine wpList_append_own _ rfl (.tmp 32) (.tmp 34) 86 rfl w.heap.size 59 i0 (.slice none 0 0) 1 24 Tryz.underlying86 hi0 hz0 hz1 hz2 rfl (by decide) _ _ _ rfl HPO ⟨w6.heap.size, 0, none⟩ 1 1 [.slice (some ⟨g6, 0, none⟩) (n + 11) c6] rfl rfl cell_one (by intro u hu; simp at hu; subst hu; rfl) (by unfold maxLen; omega) (by omega) bX.size ?_; intro v7 w7 hown1 hgrow1 _))
      have b7 : Below w.heap.size w w7 := bX.grown hgrow1 bX.size (fun x hx => (HLT x hx).1)
      have hP7 := HP.out.step HOB.out HNE.out (by rw [encs_len]; exact hown1) hgrow1
      rw [← encs_next] at hP7
      exact ⟨⟨j + 1, _, by omega, by go_num, hP7, b7⟩, by simp [intOf]; omega⟩
    · obtain rfl : j = m := by omega
      go_wp2_with fail
      go_ret2
      exact ⟨_, _, rfl, hP, hb⟩

set_option maxHeartbeats 400000 in
set_option maxRecDepth 100000 in
theorem lay_own (v : Value) (L : Nat) (r : Nat → Nat) (seg d s : Nat) (w : World) (h : Byts w v L r) (h1 : 1 ≤ d) (h2 : d ≤ 8) (h3 : s ≤ 4) (h4 : seg ≤ 39) (h5 : L ≤ 400 * d) :
    Calls Tryz.prog 79 #[v, .int .i64 (seg : Int), .int .i64 (d : Int), .int .i64 (s : Int)] w fun e w' => ∃ v' Y, e = .returned (.tuple #[v', .int .i64 0]) ∧ LayB w' w.heap.size v' (encs seg L (Seg.layN L d) (Seg.shard r L d) (d + s)) Y ∧ Below w.heap.size w w' := by
  have HW := fun w' => codeWrong_any (d : Int) (s : Int) w'
  rw [wrongC_ok (by omega)] at HW
  have hL := h.len
  have HSP : Hid (∀ w', Below w.heap.size w w' → Calls Tryz.prog 110 #[v, .int .i64 (d : Int)] w' fun e w2 => ∃ v' U, e = .returned v' ∧ Pcs w2 w'.heap.size v' d U (fun _ => Seg.layN L d) (Seg.layD r L (Seg.layN L d)) ∧ Below w'.heap.size w' w2) := fun w' hb => spread_any v L r d w' (h.below hb) h1 h2 h5
  have hn1 := Seg.layN_pos L d h1
  have hn2 := Seg.layN_le h1 h5
  have HBD : Hid (Gf.Bd2 (Seg.layD r L (Seg.layN L d))) := Seg.layD_bd h.bd L _
  have HWB : Hid (∀ j, j < d + s → Crc.wrongB seg j L (Seg.layN L d) = 0) := fun j hj => Crc.wrongB_ok (by omega) (by omega)
  obtain ⟨A, C, rfl⟩ := h.shape
  have q1 : ¬ 40 ≤ (seg : Int) := by omega
  have q2 : ¬ 400 * (d : Int) < (L : Int) := by omega
  have q3 : ¬ (d : Int) * 400 < (L : Int) := by omega
  clear h h5
  go_enter Tryz.func79, Tryz.ntmps79
  go_wp2_with fail
  refine (HW _).mono ?_
  rintro e w1 ⟨rfl, b1⟩
  clear HW
  go_wp2_with fail
  refine (HSP.out _ b1).mono ?_
  rintro e w2 ⟨v2, U2, rfl, P2, b2⟩
  have HJ := spare_join w1.heap.size v2 d s _ U2 _ w2 P2 HBD.out h1 h2 h3 hn1 hn2 b2.size
  clear HSP P2
  go_wp2_with fail
  refine HJ.mono ?_
  rintro e w3 ⟨vm, v9, w5, rfl, r9, L9, b5⟩
  have HB := blocks_own v9 (d + s) (Seg.layN L d) _ seg L w5 L9 (by omega) HWB.out
  have b5 := bt b1 (b2.trans b5)
  clear HJ L9
  go_wp2_with (at_builtin; refine Lib.wpList_append_run _ rfl (.tmp 43) (.tmp 44) 86 86 rfl _ _ rfl rfl _ _ r9 ?_)
  refine HB.mono ?_
  rintro e w6 ⟨v6, Y6, rfl, P6, b6⟩
  have bz := bt b5 b6
  have P6 := P6.lower b5.size
  have HP6 : Hid (LayB w6 w.heap.size v6 (encs seg L (Seg.layN L d) (Seg.shard r L d) (d + s)) Y6) := P6
  clear HB r9 P6
  go_wp2_with fail
  go_ret2
  exact ⟨_, _, rfl, HP6.out, bz⟩

/-! ### On lists -/
section
variable {X : Sto.Six}
/-- What Lay tells. -/
def LayP (e : Ending) (w' : World) (N : Nat) (y : Nat × List (List Nat)) : Prop := ∃ v', e = .returned (.tuple #[v', .int .i64 (y.1 : Nat)]) ∧ ((y.1 = 0 ∧ ∃ Y, LayB w' N v' y.2 Y) ∨ (y.1 ≠ 0 ∧ v' = .slice none 0 0))
theorem layX_any (v : Value) (r : List Nat) (seg : Nat) (c : Sto.Cfg) (w : World) (h : BytL w v r) :
    Calls Tryz.prog 79 #[v, .int .i64 (seg : Int), .int .i64 (c.d : Int), .int .i64 (c.s : Int)] w fun e w' => LayP e w' w.heap.size (Sto.layX r seg c) ∧ Below w.heap.size w w' := by
  by_cases hE : Seg.layE r.length seg c.d c.s = 0
  · obtain ⟨h1, h2, h3, h4, h5⟩ := Sto.layE_inv hE
    refine (lay_own v r.length (fun j => r.getD j 0) seg c.d c.s w h.byts h1 h2 h3 h4 h5).mono ?_
    rintro e w' ⟨v', Y, rfl, hl, hb⟩
    have hx : Sto.layX r seg c = (0, encs seg r.length (Seg.layN r.length c.d) (Seg.shard (fun j => r.getD j 0) r.length c.d) (c.d + c.s)) := by
      unfold Sto.layX encs
      rw [if_pos hE]
      congr 1
      refine List.map_congr_left fun i hi => ?_
      rw [Seg.blk_in (by have := List.mem_range.1 hi; omega)]
    rw [hx]
    exact ⟨⟨v', rfl, Or.inl ⟨rfl, Y, hl⟩⟩, hb⟩
  · refine (lay_any v r.length (fun j => r.getD j 0) seg c.d c.s w h.byts).mono ?_
    rintro e w' ⟨v', rfl, hl, hb⟩
    have hx : Sto.layX r seg c = (Seg.layE r.length seg c.d c.s, []) := if_neg hE
    rw [hx]
    rcases hl with ⟨q, _⟩ | ⟨_, rfl⟩
    · exact absurd q hE
    · exact ⟨⟨_, rfl, Or.inr ⟨hE, rfl⟩⟩, hb⟩
theorem readX_any (hX : Sto.SixOk X) (v : Value) (bs : List (List Nat)) (seg : Nat) (c : Sto.Cfg) (w : World) (h : Lls w v bs.length (Sto.lenF bs) (Sto.valF bs)) :
    Calls Tryz.prog 82 #[v, .int .i64 (seg : Int), .int .i64 (c.d : Int)] w fun e w' => ∃ v', e = .returned (.tuple #[v', .int .i64 ((X.read bs seg c).1 : Nat)]) ∧ BytL w' v' (X.read bs seg c).2 ∧ Below w.heap.size w w' := by
  refine (read_any v bs.length (Sto.lenF bs) (Sto.valF bs) seg c.d w h).mono ?_
  rintro e w' ⟨v', rfl, hO, hb⟩
  have he := hX.err bs seg c
  rw [← he] at hO ⊢
  refine ⟨v', rfl, ?_, hb⟩
  rcases hO with ⟨q, r, r1, r2, hy⟩ | ⟨q, rfl⟩
  · rw [Int.toNat_natCast] at r2 hy
    rw [hX.told bs seg c q r r1 r2]
    exact hy.list
  · rw [hX.none bs seg c q]
    exact BytL.nil w'
theorem badX_any (hX : Sto.SixOk X) (v : Value) (bs : List (List Nat)) (seg : Nat) (w : World) (h : Lls w v bs.length (Sto.lenF bs) (Sto.valF bs)) (hl : bs.length ≤ 12) :
    Calls Tryz.prog 53 #[v, .int .i64 (seg : Int)] w fun e w' => ∃ v', e = .returned v' ∧ Nums w' w.heap.size v' (X.bad bs seg) ∧ Below w.heap.size w w' := by
  rw [hX.bad]
  exact bad_any v bs.length (Sto.lenF bs) (Sto.valF bs) seg w h (by omega)

set_option maxHeartbeats 400000 in
set_option maxRecDepth 100000 in
theorem mendX_any (hX : Sto.SixOk X) (v : Value) (bs : List (List Nat)) (seg : Nat) (c : Sto.Cfg) (w : World) (h : Lls w v bs.length (Sto.lenF bs) (Sto.valF bs)) (hl : bs.length = c.d + c.s) (h8 : c.d ≤ 8) (h4 : c.s ≤ 4) :
    Calls Tryz.prog 54 #[v, .int .i64 (seg : Int), .int .i64 (c.d : Int)] w fun e w' => LayP e w' w.heap.size (X.mend bs seg c) ∧ Below w.heap.size w w' := by
  have HR := readX_any hX v bs seg c w h
  obtain ⟨A, C, rfl⟩ := h.shape
  have HM := hX.mend bs seg c
  by_cases hE : (X.read bs seg c).1 = 0
  case neg =>
    rw [if_pos hE] at HM
    generalize (X.read bs seg c).1 = x at HR HM hE
    have HP : Hid (∀ w', LayP (.returned (.tuple #[.slice none 0 0, .int .i64 (x : Nat)])) w' w.heap.size (X.mend bs seg c)) := fun w' => by
      show LayP _ _ _ _
      rw [HM]
      exact ⟨_, rfl, Or.inr ⟨hE, rfl⟩⟩
    have hx' : ((x : Int) == 0) = false := by rw [beq_eq_false_iff_ne]; omega
    have hxn : ((x : Int) != 0) = true := by rw [bne, hx']; rfl
    clear hE h HM hl h8 h4
    go_enter Tryz.func54, Tryz.ntmps54
    go_wp2_with fail
    refine HR.mono ?_
    rintro e w1 ⟨v1, rfl, _, b1⟩
    clear HR
    go_wp2_with fail
    go_ret2
    exact ⟨HP.out _, b1⟩
  case pos =>
    rw [if_neg (fun q => q hE)] at HM
    rw [hE] at HR
    have HLX : Hid (∀ v1 w1, BytL w1 v1 (X.read bs seg c).2 → Calls Tryz.prog 79 #[v1, .int .i64 (seg : Int), .int .i64 (c.d : Int), .int .i64 (((bs.length : Nat) : Int) - (c.d : Int))] w1 fun e w' => LayP e w' w1.heap.size (X.mend bs seg c) ∧ Below w1.heap.size w1 w') := fun v1 w1 q => by
      have := layX_any v1 (X.read bs seg c).2 seg c w1 q
      rw [← HM] at this
      rw [show ((bs.length : Nat) : Int) - (c.d : Int) = (c.s : Int) by omega]
      exact this
    obtain ⟨N, hN⟩ : ∃ N, N = bs.length := ⟨_, rfl⟩
    rw [← hN] at HR HLX
    rw [← hN]
    have hN1 : N ≤ 12 := by omega
    have hN2 : c.d ≤ N := by omega
    clear HM hE h hl hN
    go_enter Tryz.func54, Tryz.ntmps54
    go_wp2_with fail
    refine HR.mono ?_
    rintro e w1 ⟨v1, rfl, hy, b1⟩
    have HL := HLX.out v1 w1 hy
    obtain ⟨A1, C1, rfl⟩ := hy.byts.shape
    clear HR HLX hy
    go_wp2_with fail
    refine HL.mono ?_
    rintro e w2 ⟨⟨v2, rfl, hO⟩, b2⟩
    have HP : Hid (LayP (.returned (.tuple #[v2, .int .i64 ((X.mend bs seg c).1 : Nat)])) w2 w.heap.size (X.mend bs seg c)) := by
      refine ⟨v2, rfl, ?_⟩
      rcases hO with ⟨q, Y, hY⟩ | q
      · exact Or.inl ⟨q, Y, hY.lower b1.size⟩
      · exact Or.inr q
    have b2 := bt b1 b2
    clear HL hO
    go_wp2_with fail
    go_ret2
    exact ⟨HP.out, b2⟩
end

end Go.Proofs.YtmcaejooaaahdaaGreat
