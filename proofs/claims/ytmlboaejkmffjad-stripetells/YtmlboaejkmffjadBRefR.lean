/-
  What the document's own ParseBlock does with bytes of the right form.
-/
import Derived.Test.YtmlboaejkmffjadBRefP
namespace Go.Proofs.Ytmlboaejkmffjad
open Go.RowKit

set_option maxHeartbeats 1000000 in
theorem refParse_bsum (b o n e cap : Nat) (g : Nat → Nat) (w : World) (h : Byts w (.slice (some ⟨b, o, none⟩) n cap) n g) (hne4 : n = e + 4) (hx : ¬ BadForm g n) (hs : Crc.sum g e ≠ Crc.four g e) :
    Calls Try.prog 55 #[.slice (some ⟨b, o, none⟩) n cap] w fun r w' => r = .returned (.tuple #[.agg #[.int .i64 0, .int .i64 0, .int .i64 0, .slice none 0 0], .int .i64 9]) ∧ Below w.heap.size w w' := by
  have hl := h.len
  have hbd := h.bd
  have hfm : g 0 = 83 ∧ n = 11 + (g 5 * 256 + g 6) ∧ 12 ≤ n := by unfold BadForm at hx; omega
  have hb0 : Below w.heap.size w (w.alloc (.cells #[.int .i64 0, .int .i64 0, .int .i64 0, .slice none 0 0] 75)) := (Below.refl _ _).alloc (Nat.le_refl _) _
  have V0 := varB_new w (.int .i64 0) (.int .i64 0) (.int .i64 0) (.slice none 0 0)
  have hn' : ¬ (n : Int) < 12 := by omega
  have hnd : decide ((n : Int) < 12) = false := by simp; omega
  obtain ⟨b', o', cap', hv, hcap, hcm, hc⟩ := h.some (by omega)
  cases hv
  have HC : Hid (∀ w', Below w.heap.size w w' → ∀ i, i < n → w'.cell? ⟨b, o + i, none⟩ = some (.int .u8 (g i : Nat))) := fun w' hb' i hi => (hb'.cell (p := ⟨b, o + i, none⟩) (World.block_lt_of_cell? _ _ (hc i hi))).trans (hc i hi)
  have H2 := fun w' (hb' : Below w.heap.size w w') => refSum_some b o e cap g w' hbd (by omega) (fun i hi => HC.out w' hb' i (by omega))
  have t0 := HC.out _ hb0 0 (by omega)
  have t5 := HC.out _ hb0 5 (by omega)
  have t6 := HC.out _ hb0 6 (by omega)
  rw [Nat.add_zero] at t0
  have u0 := HC.out _ hb0 e (by omega)
  have u1 := HC.out _ hb0 (e + 1) (by omega)
  have u2 := HC.out _ hb0 (e + 2) (by omega)
  have u3 := HC.out _ hb0 (e + 3) (by omega)
  have hnz : (0 : Int) < (n : Int) := by omega
  have e0 : (((g 0 : Nat) : Int) != 83) = false := by rw [hfm.1]; rfl
  have b5 := hbd 5
  have b6 := hbd 6
  have v0 := hbd e
  have v1 := hbd (e + 1)
  have v2 := hbd (e + 2)
  have v3 := hbd (e + 3)
  have hn5 : (5 : Int) < (n : Int) := by omega
  have hn6 : (6 : Int) < (n : Int) := by omega
  have hneq : ((256 * ((g 5 : Nat) : Int) + ((g 6 : Nat) : Int)) != (n : Int) - 11) = false := by
    rw [bne_eq_false_iff_eq]
    omega
  have s1 : (n : Int) - 1 = (e : Int) + 3 := by omega
  have s2 : (n : Int) - 2 = (e : Int) + 2 := by omega
  have s3 : (n : Int) - 3 = (e : Int) + 1 := by omega
  have s4 : (n : Int) - 4 = (e : Int) := by omega
  have r0 : (e : Int) < (n : Int) := by omega
  have r1 : (e : Int) + 1 < (n : Int) := by omega
  have r2 : (e : Int) + 2 < (n : Int) := by omega
  have r3 : (e : Int) + 3 < (n : Int) := by omega
  have hec : (e : Int) ≤ (cap : Int) := by omega
  have hneS : ((256 * (256 * (256 * ((g (e + 3) : Nat) : Int) + ((g (e + 2) : Nat) : Int)) + ((g (e + 1) : Nat) : Int)) + ((g e : Nat) : Int)) != ((Crc.sum g e : Nat) : Int)) = true := by
    rw [bne_iff_ne]
    unfold Crc.four at hs
    omega
  generalize Crc.sum g e = S at H2 hneS hs
  clear hc h hfm hx hne4 hs
  go_enter Try.func55, Try.ntmps55
  go_wp2_with fail
  go_quiet (fail)
  go_wp2_with fail
  refine wp_loop_rounds 5 ?_
  iterate 5
    rw [rounds_succ]
    go_wp2_with fail
  have bq := bdn hb0 nq
  have Vq : VarB ((w.alloc (.cells #[.int .i64 0, .int .i64 0, .int .i64 0, .slice none 0 0] 75)).drewN nq) w.heap.size (.int .i64 0) (.int .i64 0) (.int .i64 0) (.slice none 0 0) := ⟨V0.c0, V0.c1, V0.c2, V0.c3, V0.fr⟩
  clear t0 t5 t6 u0 u1 u2 u3 V0 hb0
  generalize (w.alloc (.cells #[.int .i64 0, .int .i64 0, .int .i64 0, .slice none 0 0] 75)).drewN nq = wq at bq Vq ⊢
  refine (H2 _ bq).mono ?_
  rintro e2 w2 ⟨rfl, rfl⟩
  clear H2
  obtain ⟨c0, c1, c2, c3, fr⟩ := Vq
  have f0 := fr 0
  have f1 := fr 1
  have f2 := fr 2
  have f3 := fr 3
  go_wp2_with fail
  refine bodyPost_ret (v := .tuple #[.agg #[.int .i64 0, .int .i64 0, .int .i64 0, .slice none 0 0], .int .i64 9]) (by simp [results, Try.results55, go_sem, c0, c1, c2, c3]) rfl ⟨rfl, ?_⟩
  exact set4_below bq (Nat.le_refl _)

set_option maxHeartbeats 1000000 in
theorem refParse_rest (b o n e cap : Nat) (g : Nat → Nat) (w : World) (h : Byts w (.slice (some ⟨b, o, none⟩) n cap) n g) (hne4 : n = e + 4) (he8 : 8 ≤ e) (hx : ¬ BadForm g n) (hs : Crc.sum g e = Crc.four g e) :
    Calls Try.prog 55 #[.slice (some ⟨b, o, none⟩) n cap] w fun r w' => ∃ v', r = .returned (.tuple #[v', .int .i64 (Crc.wrongB (g 1) (g 2) (g 3 * 256 + g 4 : Nat) (e - 7) : Nat)]) ∧
      ((Crc.wrongB (g 1) (g 2) (g 3 * 256 + g 4 : Nat) (e - 7) = 0 ∧ ∃ d, v' = .agg #[.int .i64 (g 1 : Nat), .int .i64 (g 2 : Nat), .int .i64 (g 3 * 256 + g 4 : Nat), d] ∧ d = .slice (some ⟨b, o + 7, none⟩) (e - 7) (cap - 7) ∧ Byts w d (e - 7) (fun k => g (k + 7))) ∨ (Crc.wrongB (g 1) (g 2) (g 3 * 256 + g 4 : Nat) (e - 7) ≠ 0 ∧ v' = .agg #[.int .i64 0, .int .i64 0, .int .i64 0, .slice none 0 0])) ∧ Below w.heap.size w w' := by
  have hl := h.len
  have hbd := h.bd
  have hfm : g 0 = 83 ∧ n = 11 + (g 5 * 256 + g 6) ∧ 12 ≤ n := by unfold BadForm at hx; omega
  have hb0 : Below w.heap.size w (w.alloc (.cells #[.int .i64 0, .int .i64 0, .int .i64 0, .slice none 0 0] 75)) := (Below.refl _ _).alloc (Nat.le_refl _) _
  have V0 := varB_new w (.int .i64 0) (.int .i64 0) (.int .i64 0) (.slice none 0 0)
  have hn' : ¬ (n : Int) < 12 := by omega
  have hnd : decide ((n : Int) < 12) = false := by simp; omega
  obtain ⟨b', o', cap', hv, hcap, hcm, hc⟩ := h.some (by omega)
  cases hv
  have HC : Hid (∀ w', Below w.heap.size w w' → ∀ i, i < n → w'.cell? ⟨b, o + i, none⟩ = some (.int .u8 (g i : Nat))) := fun w' hb' i hi => (hb'.cell (p := ⟨b, o + i, none⟩) (World.block_lt_of_cell? _ _ (hc i hi))).trans (hc i hi)
  have H2 := fun w' (hb' : Below w.heap.size w w') => refSum_some b o e cap g w' hbd (by omega) (fun i hi => HC.out w' hb' i (by omega))
  have t0 := HC.out _ hb0 0 (by omega)
  have t5 := HC.out _ hb0 5 (by omega)
  have t6 := HC.out _ hb0 6 (by omega)
  rw [Nat.add_zero] at t0
  have u0 := HC.out _ hb0 e (by omega)
  have u1 := HC.out _ hb0 (e + 1) (by omega)
  have u2 := HC.out _ hb0 (e + 2) (by omega)
  have u3 := HC.out _ hb0 (e + 3) (by omega)
  have hnz : (0 : Int) < (n : Int) := by omega
  have e0 : (((g 0 : Nat) : Int) != 83) = false := by rw [hfm.1]; rfl
  have b5 := hbd 5
  have b6 := hbd 6
  have v0 := hbd e
  have v1 := hbd (e + 1)
  have v2 := hbd (e + 2)
  have v3 := hbd (e + 3)
  have hn5 : (5 : Int) < (n : Int) := by omega
  have hn6 : (6 : Int) < (n : Int) := by omega
  have hneq : ((256 * ((g 5 : Nat) : Int) + ((g 6 : Nat) : Int)) != (n : Int) - 11) = false := by
    rw [bne_eq_false_iff_eq]
    omega
  have s1 : (n : Int) - 1 = (e : Int) + 3 := by omega
  have s2 : (n : Int) - 2 = (e : Int) + 2 := by omega
  have s3 : (n : Int) - 3 = (e : Int) + 1 := by omega
  have s4 : (n : Int) - 4 = (e : Int) := by omega
  have r0 : (e : Int) < (n : Int) := by omega
  have r1 : (e : Int) + 1 < (n : Int) := by omega
  have r2 : (e : Int) + 2 < (n : Int) := by omega
  have r3 : (e : Int) + 3 < (n : Int) := by omega
  have hec : (e : Int) ≤ (cap : Int) := by omega
  have hneS : ((256 * (256 * (256 * ((g (e + 3) : Nat) : Int) + ((g (e + 2) : Nat) : Int)) + ((g (e + 1) : Nat) : Int)) + ((g e : Nat) : Int)) != ((Crc.sum g e : Nat) : Int)) = false := by
    rw [bne_eq_false_iff_eq]
    unfold Crc.four at hs
    omega
  generalize Crc.sum g e = S at H2 hneS hs
  have a1 : (1 : Int) < (n : Int) := by omega
  have a2 : (2 : Int) < (n : Int) := by omega
  have a3 : (3 : Int) < (n : Int) := by omega
  have a4 : (4 : Int) < (n : Int) := by omega
  have n1 : 1 < n := by omega
  have n2 : 2 < n := by omega
  have n3 : 3 < n := by omega
  have n4 : 4 < n := by omega
  have a7 : (7 : Int) ≤ (e : Int) := by omega
  have n7 : 7 ≤ e := by omega
  have nec : e ≤ cap := by omega
  have hcc : ¬ cap = 7 := by omega
  have q1 := hbd 1
  have q2 := hbd 2
  have q3 := hbd 3
  have q4 := hbd 4
  have hw1 : IntKind.i64.wrap ((g 1 : Nat) : Int) = (g 1 : Nat) := by rw [IntKind.wrap_i64]; omega
  have hw2 : IntKind.i64.wrap ((g 2 : Nat) : Int) = (g 2 : Nat) := by rw [IntKind.wrap_i64]; omega
  have hw3 : IntKind.i64.wrap ((g 3 : Nat) : Int) = (g 3 : Nat) := by rw [IntKind.wrap_i64]; omega
  have hw4 : IntKind.i64.wrap ((g 4 : Nat) : Int) = (g 4 : Nat) := by rw [IntKind.wrap_i64]; omega
  have hm1 : IntKind.i64.wrap (256 * ((g 3 : Nat) : Int)) = 256 * ((g 3 : Nat) : Int) := by rw [IntKind.wrap_i64]; omega
  have hm2 : IntKind.i64.wrap (256 * ((g 3 : Nat) : Int) + ((g 4 : Nat) : Int)) = 256 * ((g 3 : Nat) : Int) + ((g 4 : Nat) : Int) := by rw [IntKind.wrap_i64]; omega
  have hm3 : IntKind.i64.wrap (e : Int) = (e : Int) := by rw [IntKind.wrap_i64]; omega
  have hbd7 : Bd (fun k => g (k + 7)) := fun k => hbd _
  have HD : Hid (∀ w', Below w.heap.size w w' → Byts w' (.slice (some ⟨b, o + 7, none⟩) (e - 7) (cap - 7)) (e - 7) (fun k => g (k + 7))) := fun w' hb' =>
    ⟨hbd7, some ⟨b, o + 7, none⟩, cap - 7, rfl, by omega, by unfold maxLen; omega, fun k hk => ⟨b, o + 7, rfl, by rw [show o + 7 + k = o + (k + 7) by omega]; exact HC.out w' hb' (k + 7) (by omega)⟩⟩
  have HW := fun w' => refWrong_blk (g 1 : Nat) (g 2 : Nat) (g 3 * 256 + g 4 : Nat) (some ⟨b, o + 7, none⟩) (e - 7) (cap - 7) w'
  have hbw : b < w.heap.size := World.block_lt_of_cell? _ _ (hc 0 (by omega))
  have HQ0 : g 3 * 256 + g 4 ≤ 65535 := by omega
  have HQ : Hid (256 * ((g 3 : Nat) : Int) + ((g 4 : Nat) : Int) = ((g 3 * 256 + g 4 : Nat) : Int)) := show _ = _ by omega
  generalize g 3 * 256 + g 4 = q at HW HQ HQ0 ⊢
  clear hc h hfm hx hne4 hs he8
  go_enter Try.func55, Try.ntmps55
  go_wp2_with fail
  go_quiet (fail)
  go_wp2_with fail
  refine wp_loop_rounds 5 ?_
  iterate 5
    rw [rounds_succ]
    go_wp2_with fail
  have bq := bdn hb0 nq
  have Vq : VarB ((w.alloc (.cells #[.int .i64 0, .int .i64 0, .int .i64 0, .slice none 0 0] 75)).drewN nq) w.heap.size (.int .i64 0) (.int .i64 0) (.int .i64 0) (.slice none 0 0) := ⟨V0.c0, V0.c1, V0.c2, V0.c3, V0.fr⟩
  clear t0 t5 t6 u0 u1 u2 u3 V0 hb0
  generalize (w.alloc (.cells #[.int .i64 0, .int .i64 0, .int .i64 0, .slice none 0 0] 75)).drewN nq = wq at bq Vq ⊢
  refine (H2 _ bq).mono ?_
  rintro e2 w2 ⟨rfl, rfl⟩
  clear H2
  go_wp2_with fail
  have T1 := HC.out w2 bq 1 n1
  have T2 := HC.out w2 bq 2 n2
  have T3 := HC.out w2 bq 3 n3
  have T4 := HC.out w2 bq 4 n4
  have hbl : b < w2.heap.size := Nat.lt_of_lt_of_le hbw bq.size
  have TD : w2.drew.cell? ⟨b, o + 1, none⟩ = some (.int .u8 (g 1 : Nat)) ∧ w2.drew.cell? ⟨b, o + 2, none⟩ = some (.int .u8 (g 2 : Nat)) ∧ w2.drew.cell? ⟨b, o + 3, none⟩ = some (.int .u8 (g 3 : Nat)) ∧ w2.drew.cell? ⟨b, o + 4, none⟩ = some (.int .u8 (g 4 : Nat)) := ⟨T1, T2, T3, T4⟩
  have TA : ∀ ob, (w2.alloc ob).drew.cell? ⟨b, o + 1, none⟩ = some (.int .u8 (g 1 : Nat)) ∧ (w2.alloc ob).drew.cell? ⟨b, o + 2, none⟩ = some (.int .u8 (g 2 : Nat)) ∧ (w2.alloc ob).drew.cell? ⟨b, o + 3, none⟩ = some (.int .u8 (g 3 : Nat)) ∧ (w2.alloc ob).drew.cell? ⟨b, o + 4, none⟩ = some (.int .u8 (g 4 : Nat)) := fun ob =>
    ⟨(World.cell?_alloc_lt _ _ _ hbl).trans T1, (World.cell?_alloc_lt _ _ _ hbl).trans T2, (World.cell?_alloc_lt _ _ _ hbl).trans T3, (World.cell?_alloc_lt _ _ _ hbl).trans T4⟩
  go_region_held3 (fun w' => w'.cell? ⟨b, o + 1, none⟩ = some (.int .u8 (g 1 : Nat)) ∧ w'.cell? ⟨b, o + 2, none⟩ = some (.int .u8 (g 2 : Nat)) ∧ w'.cell? ⟨b, o + 3, none⟩ = some (.int .u8 (g 3 : Nat)) ∧ w'.cell? ⟨b, o + 4, none⟩ = some (.int .u8 (g 4 : Nat)))
    (first | with_reducible exact TD | with_reducible exact TA _)
    (fail)
  have hqq := HQ.out
  have VX := (varB_new w2 (.int .i64 (g 1 : Nat)) (.int .i64 (g 2 : Nat)) (.int .i64 (q : Nat)) (.slice (some ⟨b, o + 7, none⟩) (e - 7) (cap - 7))).drew
  have V2 := (Vq.below ((Below.refl _ _).alloc (Nat.le_refl _) (.cells #[.int .i64 (g 1 : Nat), .int .i64 (g 2 : Nat), .int .i64 (q : Nat), .slice (some ⟨b, o + 7, none⟩) (e - 7) (cap - 7)] 75))).drew
  have by2 := (bq.alloc bq.size (.cells #[.int .i64 (g 1 : Nat), .int .i64 (g 2 : Nat), .int .i64 (q : Nat), .slice (some ⟨b, o + 7, none⟩) (e - 7) (cap - 7)] 75)).drew
  have HW := HW (w2.alloc (.cells #[.int .i64 (g 1 : Nat), .int .i64 (g 2 : Nat), .int .i64 (q : Nat), .slice (some ⟨b, o + 7, none⟩) (e - 7) (cap - 7)] 75)).drew
  have VX : Hid (VarB (w2.alloc (.cells #[.int .i64 (g 1 : Nat), .int .i64 (g 2 : Nat), .int .i64 (q : Nat), .slice (some ⟨b, o + 7, none⟩) (e - 7) (cap - 7)] 75)).drew w2.heap.size (.int .i64 (g 1 : Nat)) (.int .i64 (g 2 : Nat)) (.int .i64 (q : Nat)) (.slice (some ⟨b, o + 7, none⟩) (e - 7) (cap - 7))) := VX
  clear T1 T2 T3 T4 TD TA Vq hm1 hm2 hw1 hw2 hw3 hw4
  by_cases hE : Crc.wrongB (g 1) (g 2) (q : Nat) (e - 7) = 0
  · have HE : Hid (Crc.wrongB (g 1) (g 2) (q : Nat) (e - 7) = 0) := hE
    rw [hE] at HW
    clear hE
    go_wp2_with fail
    refine HW.mono ?_
    rintro e6 w6 ⟨rfl, b6⟩
    obtain ⟨c0, c1, c2, c3, fr⟩ := V2.below b6
    obtain ⟨m0, m1, m2, m3, _⟩ := VX.out.below b6
    have f0 := fr 0
    have f1 := fr 1
    have f2 := fr 2
    have f3 := fr 3
    have bz := bt by2 b6
    clear HW V2
    go_wp2_with fail
    refine bodyPost_ret (v := .tuple #[.agg #[.int .i64 (g 1 : Nat), .int .i64 (g 2 : Nat), .int .i64 (q : Nat), .slice (some ⟨b, o + 7, none⟩) (e - 7) (cap - 7)], .int .i64 0]) (by simp [results, Try.results55, go_sem, c0, c1, c2, c3]) rfl ⟨_, by rw [HE.out]; rfl, Or.inl ⟨HE.out, _, rfl, rfl, ?_⟩, ?_⟩
    · exact HD.out _ (Below.refl _ _)
    · exact set4_below bz (Nat.le_refl _)
  · have HE : Hid (Crc.wrongB (g 1) (g 2) (q : Nat) (e - 7) ≠ 0) := hE
    have hx' : (((Crc.wrongB (g 1) (g 2) (q : Nat) (e - 7) : Nat) : Int) == 0) = false := by rw [beq_eq_false_iff_ne]; omega
    have hxn : (((Crc.wrongB (g 1) (g 2) (q : Nat) (e - 7) : Nat) : Int) != 0) = true := by rw [bne, hx']; rfl
    clear hE
    go_wp2_with fail
    refine HW.mono ?_
    rintro e6 w6 ⟨rfl, b6⟩
    obtain ⟨c0, c1, c2, c3, fr⟩ := V2.below b6
    have f0 := fr 0
    have f1 := fr 1
    have f2 := fr 2
    have f3 := fr 3
    have bz := bt by2 b6
    clear HW V2
    go_wp2_with fail
    refine bodyPost_ret (v := .tuple #[.agg #[.int .i64 0, .int .i64 0, .int .i64 0, .slice none 0 0], .int .i64 (Crc.wrongB (g 1) (g 2) (q : Nat) (e - 7) : Nat)]) (by simp [results, Try.results55, go_sem, c0, c1, c2, c3]) rfl ⟨_, rfl, Or.inr ⟨HE.out, rfl⟩, ?_⟩
    exact set4_below bz (Nat.le_refl _)

end Go.Proofs.Ytmlboaejkmffjad
