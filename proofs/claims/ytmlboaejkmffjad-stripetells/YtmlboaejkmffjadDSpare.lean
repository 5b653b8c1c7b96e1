/-
  What the document's own answer for spare shards does, call by call.
-/
import Derived.Test.YtmlboaejkmffjadDRows
import Derived.Test.YtmlboaejkmffjadCSpare
import Derived.StillTailTactics
namespace Go.Proofs.Ytmlboaejkmffjad
open Go.RowKit

set_option maxHeartbeats 400000 in
theorem refSpare_bad1 (v : Value) (n : Nat) (A : Option Addr) (cap : Nat) (hv : v = .slice A n cap) (s : Int) (w : World) (h : (n : Int) < 1 ∨ 8 < (n : Int) ∨ s < 0 ∨ 4 < s) :
    Calls Try.prog 46 #[v, .int .i64 s] w fun e w' => e = .returned (.tuple #[.slice none 0 0, .int .i64 5]) ∧ Below w.heap.size w w' := by
  subst hv
  have H := fun w => refRows_bad n s w h
  clear h
  go_enter Try.func46, Try.ntmps46
  go_wp2_with fail
  refine (H _).mono ?_
  rintro e w1 ⟨rfl, b1⟩
  go_wp2_with fail
  go_ret2
  exact ⟨rfl, b1⟩

set_option maxHeartbeats 400000 in
theorem refSpare_bad2 (v : Value) (n s : Nat) (L : Nat → Nat) (f : Nat → Nat → Nat) (w : World) (h : Arg w v n L f) (h1 : 1 ≤ n) (h2 : n ≤ 8) (h3 : s ≤ 4) (hx : wrongE n L ≠ 0) :
    Calls Try.prog 46 #[v, .int .i64 (s : Int)] w fun e w' => e = .returned (.tuple #[.slice none 0 0, .int .i64 (wrongE n L : Nat)]) ∧ Below w.heap.size w w' := by
  have HW := fun w' hb' => refWrong_any v n L f w' (h.below (w' := w') hb')
  have HR := fun w => refRows_any n s w h1 h2 h3
  obtain ⟨A, cap, R, C, rfl, _⟩ := h.lies
  generalize wrongE n L = x at HW hx
  have hx' : ((x : Int) == 0) = false := by rw [beq_eq_false_iff_ne]; omega
  clear h hx
  go_enter Try.func46, Try.ntmps46
  go_wp2_with fail
  refine (HR _).mono ?_
  rintro e w1 ⟨g, cp, rfl, _, _, b1⟩
  go_wp2_with fail
  refine (HW _ b1).mono ?_
  rintro e w2 ⟨rfl, b2⟩
  go_wp2_with fail
  go_ret2
  exact ⟨rfl, bt b1 b2⟩

theorem wrongE_nat {n : Nat} {L : Nat → Nat} (h : wrongE n L = 0) : 1 ≤ L 0 ∧ L 0 ≤ 400 := by
  obtain ⟨_, _, h3, h4, _⟩ := wrongE_zero h
  exact ⟨h3, h4⟩

set_option maxHeartbeats 400000 in
theorem refSpare_none (v : Value) (n : Nat) (L : Nat → Nat) (f : Nat → Nat → Nat) (w : World) (h : Arg w v n L f) (h1 : 1 ≤ n) (h2 : n ≤ 8) (hx : wrongE n L = 0) :
    Calls Try.prog 46 #[v, .int .i64 0] w fun e w' => e = .returned (.tuple #[.slice none 0 0, .int .i64 0]) ∧ Below w.heap.size w w' := by
  have HW := fun w' hb' => refWrong_any v n L f w' (h.below (w' := w') hb')
  have HR := fun w => refRows_any n 0 w h1 h2 (by omega)
  obtain ⟨A, cap, R, C, rfl, _⟩ := h.lies
  rw [hx] at HW
  clear h hx
  go_enter Try.func46, Try.ntmps46
  go_wp2_with fail
  refine (HR _).mono ?_
  rintro e w1 ⟨g, cp, rfl, hcp, _, b1⟩
  go_wp2_with fail
  refine (HW _ b1).mono ?_
  rintro e w2 ⟨rfl, b2⟩
  have b2 := bt b1 b2
  by_cases hcn : cp = n
  · subst hcn
    go_wp2_with fail
    refine wp_loop_rounds 1 ?_
    rw [rounds_succ]
    go_wp2_with fail
    go_ret2
    exact ⟨rfl, b2⟩
  · go_wp2_with fail
    refine wp_loop_rounds 1 ?_
    rw [rounds_succ]
    go_wp2_with fail
    go_ret2
    exact ⟨rfl, b2⟩

/-- A row whose first k bytes are told, the byte at k being d. -/
def midR (k d : Nat) (M : Nat → Nat) (x : Nat) : Nat := if x < k then M x else if x = k then d else 0
theorem midR_start (k : Nat) (M : Nat → Nat) (x : Nat) : midR k 0 M x = upto k M (fun _ => 0) x := by
  unfold midR upto
  by_cases h : x < k
  · rw [if_pos h, if_pos h]
  · rw [if_neg h, if_neg h]
    split <;> rfl
theorem midR_done (k : Nat) (M : Nat → Nat) (x : Nat) : midR k (M k) M x = upto (k + 1) M (fun _ => 0) x := by
  unfold midR upto
  by_cases h : x < k
  · rw [if_pos h, if_pos (by omega)]
  · rw [if_neg h]
    by_cases e : x = k
    · rw [if_pos e, if_pos (by omega), e]
    · rw [if_neg e, if_neg (by omega)]
theorem midR_here (k d : Nat) (M : Nat → Nat) : midR k d M k = d := by
  unfold midR
  rw [if_neg (Nat.lt_irrefl _), if_pos rfl]
theorem midR_step {w : World} {g : Nat} {t : TypeId} {c k d d' : Nat} {M : Nat → Nat} (h : w.rowIs g t c (fun x => .int .u8 (midR k d M x : Nat))) : (w.setCell ⟨g, k, none⟩ (.int .u8 (d' : Nat))).rowIs g t c (fun x => .int .u8 (midR k d' M x : Nat)) :=
  (h.set k _).congr (fun x _ => by
    unfold midR
    by_cases e : x = k
    · rw [if_pos e, if_neg (by omega), if_pos e]
    · rw [if_neg e, if_neg e, if_neg e])

set_option maxRecDepth 100000 in
set_option maxHeartbeats 2000000 in
theorem refSpare_acc (v : Value) (n s c : Nat) (f : Nat → Nat → Nat) (w : World) (h : Mx w v n c f) (h2 : n ≤ 8) (h3 : 1 ≤ s) (h4 : s ≤ 4) :
    Calls Try.prog 46 #[v, .int .i64 (s : Int)] w fun e w' => ∃ v' N G K, e = .returned (.tuple #[v', .int .i64 0]) ∧ w.heap.size ≤ N ∧ Acc w' N v' s c G K (Gf.mm n (spareF n) f) ∧ (∀ j, j < s → K j = c) ∧ Below w.heap.size w w' := by
  obtain ⟨d1, d2, d3, d4⟩ := h.dim
  have HW := fun w' hb' => refWrong_any v n _ f w' (h.below (w' := w') hb').arg
  have HR := fun w => refRows_any n s w d1 h2 h4
  rw [h.ok] at HW
  have hbd := h.bd
  obtain ⟨bb, ob, pb, Gb, Ob, Kb, rfl, hml⟩ := h.lies
  obtain ⟨i0, hi, hh⟩ := Option.map_eq_some_iff.1 Try.infoRow
  simp only [Prod.mk.injEq] at hh
  obtain ⟨hz0, hz1, hz2⟩ := hh
  have hmk := run_make_row' (P := Try.prog) 25 5 (.int .u8 0) 1 Try.underlying25 Try.infoByte rfl .i64 .i64 c (by omega) (by omega)
  have h0n : (0 : Int) < (n : Int) := by omega
  clear h
  go_enter Try.func46, Try.ntmps46
  go_wp2_with fail
  refine (HR _).mono ?_
  rintro e w1 ⟨g, cp, rfl, hcp, ⟨G, K, hm⟩, b1⟩
  go_wp2_with fail
  refine (HW _ b1).mono ?_
  rintro e w2 ⟨rfl, b2⟩
  have hm := (hm.below b2).spare
  have b2 := bt b1 b2
  have hcn : ¬ cp = n := by omega
  have hle : (n : Int) ≤ ((n + s : Nat) : Int) := by omega
  clear HR HW b1
  go_wp2_with fail
  go_loopw [9, 35] (fun v x wr => ∃ i : Nat, i ≤ s ∧ x = .int .i64 i ∧ (∃ G K, Acc wr w2.heap.size v i c G K (Gf.mm n (spareF n) f) ∧ Hid (∀ j, j < i → K j = c)) ∧ Below w2.heap.size w2 wr) (fun _ x _ => s - (intOf x).toNat)
  case atStart => exact ⟨0, Nat.zero_le _, rfl, ⟨fun _ => 0, fun _ => 0, Acc.start w2 _ c _ _ _, fun j hj => absurd hj (Nat.not_lt_zero j)⟩, Below.refl _ _⟩
  case round =>
    obtain ⟨i, hik, rfl, ⟨G2, K2, hA, HK⟩, hbo⟩ := hrel
    obtain ⟨wo, rfl⟩ : ∃ x, x = wr := ⟨wr, rfl⟩
    by_cases hlt : i < s
    · have hlt' : (i : Int) < (s : Int) := by omega
      have t1 := (hm.below hbo).top i hlt
      have t2 : wo.cell? ⟨bb, ob, none⟩ = some (.slice (some ⟨Gb 0, Ob 0, none⟩) c (Kb 0)) := by simpa using (hml.below (bt b2 hbo)).top 0 (by omega)
      go_wp2_with fail
      clear t1 t2 hmk
      go_loopw [46] (fun x wm => ∃ k : Nat, k ≤ c ∧ x = .int .i64 k ∧ wm.rowIs wo.heap.size 5 c (fun y => .int .u8 (upto k (Gf.mm n (spareF n) f i) (fun _ => 0) y : Nat)) ∧ Below wo.heap.size wo wm) (fun x _ => c - (intOf x).toNat)
      case atStart => exact ⟨0, Nat.zero_le _, rfl, (World.rowIs_made wo (.int .u8 0) c 5).congr (fun j _ => by rw [show upto 0 (Gf.mm n (spareF n) f i) (fun _ => 0) j = 0 from if_neg (Nat.not_lt_zero _)]; rfl), (Below.refl _ _).alloc (Nat.le_refl _) _⟩
      case round =>
        obtain ⟨k, hkc, rfl, hR, hbm⟩ := hrel
        obtain ⟨wm, rfl⟩ : ∃ x, x = wr := ⟨wr, rfl⟩
        by_cases hk : k < c
        · have hk' : (k : Int) < (c : Int) := by omega
          go_wp2_with fail
          go_loopw [51] (fun x wi => ∃ j : Nat, j ≤ n ∧ x = .int .i64 j ∧ wi.rowIs wo.heap.size 5 c (fun y => .int .u8 (midR k (Gf.dot j (spareF n i) (fun l => f l k)) (Gf.mm n (spareF n) f i) y : Nat)) ∧ Below wo.heap.size wo wi) (fun x _ => n - (intOf x).toNat)
          case atStart => exact ⟨0, Nat.zero_le _, rfl, hR.congr (fun y _ => by rw [show Gf.dot 0 (spareF n i) (fun l => f l k) = 0 from rfl, midR_start]), hbm⟩
          case round =>
            clear hR hbm
            obtain ⟨j, hjn, rfl, hJ, hbi⟩ := hrel
            by_cases hj : j < n
            · have hj' : (j : Int) < (n : Int) := by omega
              have hmr := (hm.below hbo).below hbi
              have hlr := (hml.below (bt b2 hbo)).below hbi
              have u1 := hJ.cell hk
              rw [midR_here] at u1
              have z1 := hJ.frozen k
              have u2 := hmr.row i hlt j hj
              have u3 := hlr.top j hj
              have u4 := hlr.row j hj k hk
              rw [Nat.zero_add] at u2
              have hxor := xor_nat (Gf.dot_lt (spareF_bd n i) (fun l => f l k) j) (Gf.mul_lt (f j k) (spareF_bd n i j))
              have HP := midR_step (d' := Gf.dot j (spareF n i) (fun l => f l k) ^^^ Gf.mul (spareF n i j) (f j k)) hJ
              have hbP := hbi.setCell (p := ⟨wo.heap.size, k, none⟩) (Nat.le_refl _) (.int .u8 ((Gf.dot j (spareF n i) (fun l => f l k) ^^^ Gf.mul (spareF n i j) (f j k) : Nat) : Int))
              have v1 : ({ wr with drawn := wr.drawn + 1 } : World).cell? ⟨wo.heap.size, k, none⟩ = some (.int .u8 (Gf.dot j (spareF n i) (fun l => f l k) : Nat)) := u1
              have v2 : ({ wr with drawn := wr.drawn + 1 } : World).cell? ⟨G (n + i), j, none⟩ = some (.int .u8 (spareF n i j : Nat)) := u2
              have v3 : ({ wr with drawn := wr.drawn + 1 } : World).cell? ⟨bb, ob + j, none⟩ = some (.slice (some ⟨Gb j, Ob j, none⟩) c (Kb j)) := u3
              have v4 : ({ wr with drawn := wr.drawn + 1 } : World).cell? ⟨Gb j, Ob j + k, none⟩ = some (.int .u8 (f j k : Nat)) := u4
              clear hmr hlr hJ
              go_wp2_with fail
              refine wp_region_still_tail 20 (by kernel_rfl) (by kernel_rfl) ?_
              simp only [List.take_succ_cons, List.take_zero, List.drop_succ_cons, List.drop_zero]
              iterate 17 still_step
              still_call (refMul_same _ _ _ (spareF_bd n i j) (hbd j k))
              iterate 2 still_step
              refine wpStill_nil ?_
              go_wp2_with fail
              exact ⟨⟨j + 1, by omega, by go_num, HP.drew, hbP.drew⟩, by simp [intOf]; omega⟩
            · have ej : j = n := by omega
              subst ej
              have HD : wr.rowIs wo.heap.size 5 c (fun y => .int .u8 (upto (k + 1) (Gf.mm j (spareF j) f i) (fun _ => 0) y : Nat)) := hJ.congr (fun y _ => by rw [← midR_done]; rfl)
              clear hJ
              go_wp2_with fail
              exact ⟨⟨k + 1, by omega, by go_num, HD, hbi⟩, by simp [intOf]; omega⟩
        · have ek : k = c := by omega
          subst ek
          have hF : RowC wm wo.heap.size 5 k (fun y => .int .u8 (Gf.mm n (spareF n) f i y : Nat)) := rowC_of (hR.congr (fun y hy => by rw [show upto k (Gf.mm n (spareF n) f i) (fun _ => 0) y = Gf.mm n (spareF n) f i y from if_pos hy]))
          have hbX := (Below.refl wm.heap.size wm).alloc (Nat.le_refl _) (.cells #[.slice (some ⟨wo.heap.size, 0, none⟩) k k] 25)
          have AX := (hA.below hbm).below hbX
          have rX := hF.alloc (.cells #[.slice (some ⟨wo.heap.size, 0, none⟩) k k] 25)
          have bX := bt (bt hbo hbm) hbX
          clear hR hF hA
          go_wp2_with (at_builtin; refine wpList_append_own _ rfl (.tmp 76) (.tmp 78) 43 rfl w2.heap.size 25 i0 (.slice none 0 0) 1 24 Try.underlying43 hi hz0 hz1 hz2 rfl (by decide) _ _ _ rfl AX.own ⟨wm.heap.size, 0, none⟩ 1 1 [.slice (some ⟨wo.heap.size, 0, none⟩) k k] rfl rfl cell_one (by intro u hu; simp at hu; subst hu; rfl) (by unfold maxLen; omega) (by omega) bX.size ?_; intro v1 w4 hown1 hgrow1 _)
          have A1 := AX.step ⟨hbo.size, rX⟩ hown1 hgrow1
          have b4 : Below w2.heap.size w2 w4 := bX.grown hgrow1 bX.size (fun x hx => (AX.own.lt x hx).1)
          clear hown1 hgrow1 AX rX bX hbX hbm
          go_wp2_with fail
          exact ⟨⟨i + 1, by omega, by go_num, ⟨_, _, A1, fun j hj => by
            unfold updG
            by_cases e : j = i
            · rw [if_pos e]
            · rw [if_neg e]; exact HK.out j (by omega)⟩, b4⟩, by simp [intOf]; omega⟩
    · have ei : i = s := by omega
      subst ei
      have HA : Hid (Acc wo w2.heap.size u9 i c G2 K2 (Gf.mm n (spareF n) f)) := hA
      clear hA hmk
      go_wp2_with fail
      go_ret2
      exact ⟨_, w2.heap.size, _, _, rfl, b2.size, HA.out, HK.out, bt b2 hbo⟩

theorem refSpare_ok (v : Value) (n s c : Nat) (f : Nat → Nat → Nat) (w : World) (h : Mx w v n c f) (h2 : n ≤ 8) (h3 : 1 ≤ s) (h4 : s ≤ 4) :
    Calls Try.prog 46 #[v, .int .i64 (s : Int)] w fun e w' => ∃ v', e = .returned (.tuple #[v', .int .i64 0]) ∧ Mx w' v' s c (Gf.mm n (spareF n) f) ∧ Below w.heap.size w w' := by
  obtain ⟨_, _, d3, d4⟩ := h.dim
  refine (refSpare_acc v n s c f w h h2 h3 h4).mono ?_
  rintro e w' ⟨v', N, G, K, rfl, _, hA, _, hb⟩
  exact ⟨v', rfl, hA.mx (Gf.mm_bd (spareF_bd n) n f) ⟨h3, by omega, d3, d4⟩, hb⟩

theorem refSpareO (v : Value) (n : Nat) (L : Nat → Nat) (f : Nat → Nat → Nat) (s : Int) (w : World) (h : Arg w v n L f) :
    Calls Try.prog 46 #[v, .int .i64 s] w fun e w' => ∃ v', e = .returned (.tuple #[v', .int .i64 (spareE n L s : Nat)]) ∧ Out w' (spareE n L s) v' s.toNat (L 0) (Gf.mm n (spareF n) f) ∧ Below w.heap.size w w' := by
  by_cases hc : (n : Int) < 1 ∨ 8 < (n : Int) ∨ s < 0 ∨ 4 < s
  · rw [show spareE n L s = 5 from if_pos (by rw [wrongC_bad hc]; decide)]
    obtain ⟨A, cap, R, C, hv, _⟩ := h.lies
    exact (refSpare_bad1 v n A cap hv s w hc).mono fun e w' ⟨h1, h2⟩ => ⟨_, h1, Or.inr ⟨Or.inl (by decide), rfl⟩, h2⟩
  · rw [show spareE n L s = wrongE n L from if_neg (by rw [wrongC_ok hc]; simp)]
    obtain ⟨m, rfl⟩ := Int.eq_ofNat_of_zero_le (show 0 ≤ s by omega)
    by_cases hw : wrongE n L = 0
    · rw [hw]
      rcases Nat.eq_zero_or_pos m with rfl | hm
      · exact (refSpare_none v n L f w h (by omega) (by omega) hw).mono fun e w' ⟨h1, h2⟩ => ⟨_, h1, Or.inr ⟨Or.inr rfl, rfl⟩, h2⟩
      · exact (refSpare_ok v n m (L 0) f w (h.mx hw) (by omega) hm (by omega)).mono fun e w' ⟨v', h1, h2, h3⟩ => ⟨v', h1, Or.inl ⟨rfl, h2⟩, h3⟩
    · exact (refSpare_bad2 v n m L f w h (by omega) (by omega) (by omega) hw).mono fun e w' ⟨h1, h2⟩ => ⟨_, h1, Or.inr ⟨Or.inl hw, rfl⟩, h2⟩

end Go.Proofs.Ytmlboaejkmffjad
