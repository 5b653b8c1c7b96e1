/-
  Texts of the proof, joined: BRefR, BRef, SBad, Ralg.
-/
import Derived.Test.YtmcaejooaaahdaaGreatZ50
import Derived.Test.YtmcaejooaaahdaaGreatZ13
import Derived.Test.YtmcaejooaaahdaaGreatZ05
namespace Go.Proofs.YtmcaejooaaahdaaGreat
open Go.RowKit

set_option maxHeartbeats 1000000 in
theorem refParse_bsum (b o n e cap : Nat) (g : Nat → Nat) (w : World) (h : Byts w (.slice (some ⟨b, o, none⟩) n cap) n g) (hne4 : n = e + 4) (hx : ¬ BadForm g n) (hs : Crc.sum g e ≠ Crc.four g e) :
    Calls Tryz.prog 96 #[.slice (some ⟨b, o, none⟩) n cap] w fun r w' => r = .returned (.tuple #[.agg #[.int .i64 0, .int .i64 0, .int .i64 0, .slice none 0 0], .int .i64 9]) ∧ Below w.heap.size w w' := by
  have hl := h.len
  have hbd := h.bd
  have hfm : g 0 = 83 ∧ n = 11 + (g 5 * 256 + g 6) ∧ 12 ≤ n := by unfold BadForm at hx; omega
  have hb0 : Below w.heap.size w (w.alloc (.cells #[.int .i64 0, .int .i64 0, .int .i64 0, .slice none 0 0] 137)) := (Below.refl _ _).alloc (Nat.le_refl _) _
  have V0 := varB_new w (.int .i64 0) (.int .i64 0) (.int .i64 0) (.slice none 0 0)
  have hn' : ¬ (n : Int) < 12 := by omega
  have hnd : decide ((n : Int) < 12) = false := by simp; omega
  obtain ⟨b', o', cap', hv, hcap, hcm, hc⟩ := h.some (by omega)
  cases hv
  have HC : Hid (∀ w', Below w.heap.size w w' → ∀ i, i < n → w'.cell? ⟨b, o + i, none⟩ = some (.int .u8 (g i : Nat))) := fun w' hb' i hi => (hb'.cell (p := ⟨b, o + i, none⟩) (World.block_lt_of_cell? _ _ (hc i hi))).trans (hc i hi)
  have H2 := fun w' (hb' : Below w.heap.size w w') => refSum_some b o e cap g w' hbd (by omega) (fun i hi => HC.out w' hb' i (by omega))
  have t0 := HC.out _ hb0 0 (by omega)
  have t5 := HC.out _ hb0 5 (by omega)
  have t6 := HC.out _ hb0 6 (by omega)
  rw [Nat.add_zero] at t0
  have u0 := HC.out _ hb0 e (by omega)
  have u1 := HC.out _ hb0 (e + 1) (by omega)
  have u2 := HC.out _ hb0 (e + 2) (by omega)
  have u3 := HC.out _ hb0 (e + 3) (by omega)
  have hnz : (0 : Int) < (n : Int) := by omega
  have e0 : (((g 0 : Nat) : Int) != 83) = false := by rw [hfm.1]; rfl
  have b5 := hbd 5
  have b6 := hbd 6
  have v0 := hbd e
  have v1 := hbd (e + 1)
  have v2 := hbd (e + 2)
  have v3 := hbd (e + 3)
  have hn5 : (5 : Int) < (n : Int) := by omega
  have hn6 : (6 : Int) < (n : Int) := by omega
  have hneq : ((256 * ((g 5 : Nat) : Int) + ((g 6 : Nat) : Int)) != (n : Int) - 11) = false := by
    rw [bne_eq_false_iff_eq]
    omega
  have s1 : (n : Int) - 1 = (e : Int) + 3 := by omega
  have s2 : (n : Int) - 2 = (e : Int) + 2 := by omega
  have s3 : (n : Int) - 3 = (e : Int) + 1 := by omega
  have s4 : (n : Int) - 4 = (e : Int) := by omega
  have r0 : (e : Int) < (n : Int) := by omega
  have r1 : (e : Int) + 1 < (n : Int) := by omega
  have r2 : (e : Int) + 2 < (n : Int) := by omega
  have r3 : (e : Int) + 3 < (n : Int) := by omega
  have hec : (e : Int) ≤ (cap : Int) := by omega
  have hneS : ((256 * (256 * (256 * ((g (e + 3) : Nat) : Int) + ((g (e + 2) : Nat) : Int)) + ((g (e + 1) : Nat) : Int)) + ((g e : Nat) : Int)) != ((Crc.sum g e : Nat) : Int)) = true := by
    rw [bne_iff_ne]
    unfold Crc.four at hs
    omega
  generalize Crc.sum g e = S at H2 hneS hs
  clear hc h hfm hx hne4 hs
  go_enter Tryz.func96, Tryz.ntmps96
  go_wp2_with fail
  go_quiet (fail)
  go_wp2_with fail
  refine wp_loop_rounds 5 ?_
  iterate 5
    rw [rounds_succ]
    go_wp2_with fail
  have bq := bdn hb0 nq
  have Vq : VarB ((w.alloc (.cells #[.int .i64 0, .int .i64 0, .int .i64 0, .slice none 0 0] 137)).drewN nq) w.heap.size (.int .i64 0) (.int .i64 0) (.int .i64 0) (.slice none 0 0) := ⟨V0.c0, V0.c1, V0.c2, V0.c3, V0.fr⟩
  clear t0 t5 t6 u0 u1 u2 u3 V0 hb0
  generalize (w.alloc (.cells #[.int .i64 0, .int .i64 0, .int .i64 0, .slice none 0 0] 137)).drewN nq = wq at bq Vq ⊢
  refine (H2 _ bq).mono ?_
  rintro e2 w2 ⟨rfl, rfl⟩
  clear H2
  obtain ⟨c0, c1, c2, c3, fr⟩ := Vq
  have f0 := fr 0
  have f1 := fr 1
  have f2 := fr 2
  have f3 := fr 3
  go_wp2_with fail
  refine bodyPost_ret (v := .tuple #[.agg #[.int .i64 0, .int .i64 0, .int .i64 0, .slice none 0 0], .int .i64 9]) (by simp [results, Tryz.results96, go_sem, c0, c1, c2, c3]) rfl ⟨rfl, ?_⟩
  exact set4_below bq (Nat.le_refl _)

set_option maxHeartbeats 1000000 in
theorem refParse_rest (b o n e cap : Nat) (g : Nat → Nat) (w : World) (h : Byts w (.slice (some ⟨b, o, none⟩) n cap) n g) (hne4 : n = e + 4) (he8 : 8 ≤ e) (hx : ¬ BadForm g n) (hs : Crc.sum g e = Crc.four g e) :
    Calls Tryz.prog 96 #[.slice (some ⟨b, o, none⟩) n cap] w fun r w' => ∃ v', r = .returned (.tuple #[v', .int .i64 (Crc.wrongB (g 1) (g 2) (g 3 * 256 + g 4 : Nat) (e - 7) : Nat)]) ∧
      ((Crc.wrongB (g 1) (g 2) (g 3 * 256 + g 4 : Nat) (e - 7) = 0 ∧ ∃ d, v' = .agg #[.int .i64 (g 1 : Nat), .int .i64 (g 2 : Nat), .int .i64 (g 3 * 256 + g 4 : Nat), d] ∧ d = .slice (some ⟨b, o + 7, none⟩) (e - 7) (cap - 7) ∧ Byts w d (e - 7) (fun k => g (k + 7))) ∨ (Crc.wrongB (g 1) (g 2) (g 3 * 256 + g 4 : Nat) (e - 7) ≠ 0 ∧ v' = .agg #[.int .i64 0, .int .i64 0, .int .i64 0, .slice none 0 0])) ∧ Below w.heap.size w w' := by
  have hl := h.len
  have hbd := h.bd
  have hfm : g 0 = 83 ∧ n = 11 + (g 5 * 256 + g 6) ∧ 12 ≤ n := by unfold BadForm at hx; omega
  have hb0 : Below w.heap.size w (w.alloc (.cells #[.int .i64 0, .int .i64 0, .int .i64 0, .slice none 0 0] 137)) := (Below.refl _ _).alloc (Nat.le_refl _) _
  have V0 := varB_new w (.int .i64 0) (.int .i64 0) (.int .i64 0) (.slice none 0 0)
  have hn' : ¬ (n : Int) < 12 := by omega
  have hnd : decide ((n : Int) < 12) = false := by simp; omega
  obtain ⟨b', o', cap', hv, hcap, hcm, hc⟩ := h.some (by omega)
  cases hv
  have HC : Hid (∀ w', Below w.heap.size w w' → ∀ i, i < n → w'.cell? ⟨b, o + i, none⟩ = some (.int .u8 (g i : Nat))) := fun w' hb' i hi => (hb'.cell (p := ⟨b, o + i, none⟩) (World.block_lt_of_cell? _ _ (hc i hi))).trans (hc i hi)
  have H2 := fun w' (hb' : Below w.heap.size w w') => refSum_some b o e cap g w' hbd (by omega) (fun i hi => HC.out w' hb' i (by omega))
  have t0 := HC.out _ hb0 0 (by omega)
  have t5 := HC.out _ hb0 5 (by omega)
  have t6 := HC.out _ hb0 6 (by omega)
  rw [Nat.add_zero] at t0
  have u0 := HC.out _ hb0 e (by omega)
  have u1 := HC.out _ hb0 (e + 1) (by omega)
  have u2 := HC.out _ hb0 (e + 2) (by omega)
  have u3 := HC.out _ hb0 (e + 3) (by omega)
  have hnz : (0 : Int) < (n : Int) := by omega
  have e0 : (((g 0 : Nat) : Int) != 83) = false := by rw [hfm.1]; rfl
  have b5 := hbd 5
  have b6 := hbd 6
  have v0 := hbd e
  have v1 := hbd (e + 1)
  have v2 := hbd (e + 2)
  have v3 := hbd (e + 3)
  have hn5 : (5 : Int) < (n : Int) := by omega
  have hn6 : (6 : Int) < (n : Int) := by omega
  have hneq : ((256 * ((g 5 : Nat) : Int) + ((g 6 : Nat) : Int)) != (n : Int) - 11) = false := by
    rw [bne_eq_false_iff_eq]
    omega
  have s1 : (n : Int) - 1 = (e : Int) + 3 := by omega
  have s2 : (n : Int) - 2 = (e : Int) + 2 := by omega
  have s3 : (n : Int) - 3 = (e : Int) + 1 := by omega
  have s4 : (n : Int) - 4 = (e : Int) := by omega
  have r0 : (e : Int) < (n : Int) := by omega
  have r1 : (e : Int) + 1 < (n : Int) := by omega
  have r2 : (e : Int) + 2 < (n : Int) := by omega
  have r3 : (e : Int) + 3 < (n : Int) := by omega
  have hec : (e : Int) ≤ (cap : Int) := by omega
  have hneS : ((256 * (256 * (256 * ((g (e + 3) : Nat) : Int) + ((g (e + 2) : Nat) : Int)) + ((g (e + 1) : Nat) : Int)) + ((g e : Nat) : Int)) != ((Crc.sum g e : Nat) : Int)) = false := by
    rw [bne_eq_false_iff_eq]
    unfold Crc.four at hs
    omega
  generalize Crc.sum g e = S at H2 hneS hs
  have a1 : (1 : Int) < (n : Int) := by omega
  have a2 : (2 : Int) < (n : Int) := by omega
  have a3 : (3 : Int) < (n : Int) := by omega
  have a4 : (4 : Int) < (n : Int) := by omega
  have n1 : 1 < n := by omega
  have n2 : 2 < n := by omega
  have n3 : 3 < n := by omega
  have n4 : 4 < n := by omega
  have a7 : (7 : Int) ≤ (e : Int) := by omega
  have n7 : 7 ≤ e := by omega
  have nec : e ≤ cap := by omega
  have hcc : ¬ cap = 7 := by omega
  have q1 := hbd 1
  have q2 := hbd 2
  have q3 := hbd 3
  have q4 := hbd 4
  have hw1 : IntKind.i64.wrap ((g 1 : Nat) : Int) = (g 1 : Nat) := by rw [IntKind.wrap_i64]; omega
  have hw2 : IntKind.i64.wrap ((g 2 : Nat) : Int) = (g 2 : Nat) := by rw [IntKind.wrap_i64]; omega
  have hw3 : IntKind.i64.wrap ((g 3 : Nat) : Int) = (g 3 : Nat) := by rw [IntKind.wrap_i64]; omega
  have hw4 : IntKind.i64.wrap ((g 4 : Nat) : Int) = (g 4 : Nat) := by rw [IntKind.wrap_i64]; omega
  have hm1 : IntKind.i64.wrap (256 * ((g 3 : Nat) : Int)) = 256 * ((g 3 : Nat) : Int) := by rw [IntKind.wrap_i64]; omega
  have hm2 : IntKind.i64.wrap (256 * ((g 3 : Nat) : Int) + ((g 4 : Nat) : Int)) = 256 * ((g 3 : Nat) : Int) + ((g 4 : Nat) : Int) := by rw [IntKind.wrap_i64]; omega
  have hm3 : IntKind.i64.wrap (e : Int) = (e : Int) := by rw [IntKind.wrap_i64]; omega
  have hbd7 : Bd (fun k => g (k + 7)) := fun k => hbd _
  have HD : Hid (∀ w', Below w.heap.size w w' → Byts w' (.slice (some ⟨b, o + 7, none⟩) (e - 7) (cap - 7)) (e - 7) (fun k => g (k + 7))) := fun w' hb' =>
    ⟨hbd7, some ⟨b, o + 7, none⟩, cap - 7, rfl, by omega, by unfold maxLen; omega, fun k hk => ⟨b, o + 7, rfl, by rw [show o + 7 + k = o + (k + 7) by omega]; exact HC.out w' hb' (k + 7) (by omega)⟩⟩
  have HW := fun w' => refWrong_blk (g 1 : Nat) (g 2 : Nat) (g 3 * 256 + g 4 : Nat) (some ⟨b, o + 7, none⟩) (e - 7) (cap - 7) w'
  have hbw : b < w.heap.size := World.block_lt_of_cell? _ _ (hc 0 (by omega))
  have HQ0 : g 3 * 256 + g 4 ≤ 65535 := by omega
  have HQ : Hid (256 * ((g 3 : Nat) : Int) + ((g 4 : Nat) : Int) = ((g 3 * 256 + g 4 : Nat) : Int)) := show _ = _ by omega
  generalize g 3 * 256 + g 4 = q at HW HQ HQ0 ⊢
  clear hc h hfm hx hne4 hs he8
  go_enter Tryz.func96, Tryz.ntmps96
  go_wp2_with fail
  go_quiet (fail)
  go_wp2_with fail
  refine wp_loop_rounds 5 ?_
  iterate 5
    rw [rounds_succ]
    go_wp2_with fail
  have bq := bdn hb0 nq
  have Vq : VarB ((w.alloc (.cells #[.int .i64 0, .int .i64 0, .int .i64 0, .slice none 0 0] 137)).drewN nq) w.heap.size (.int .i64 0) (.int .i64 0) (.int .i64 0) (.slice none 0 0) := ⟨V0.c0, V0.c1, V0.c2, V0.c3, V0.fr⟩
  clear t0 t5 t6 u0 u1 u2 u3 V0 hb0
  generalize (w.alloc (.cells #[.int .i64 0, .int .i64 0, .int .i64 0, .slice none 0 0] 137)).drewN nq = wq at bq Vq ⊢
  refine (H2 _ bq).mono ?_
  rintro e2 w2 ⟨rfl, rfl⟩
  clear H2
  go_wp2_with fail
  have T1 := HC.out w2 bq 1 n1
  have T2 := HC.out w2 bq 2 n2
  have T3 := HC.out w2 bq 3 n3
  have T4 := HC.out w2 bq 4 n4
  have hbl : b < w2.heap.size := Nat.lt_of_lt_of_le hbw bq.size
  have TD : w2.drew.cell? ⟨b, o + 1, none⟩ = some (.int .u8 (g 1 : Nat)) ∧ w2.drew.cell? ⟨b, o + 2, none⟩ = some (.int .u8 (g 2 : Nat)) ∧ w2.drew.cell? ⟨b, o + 3, none⟩ = some (.int .u8 (g 3 : Nat)) ∧ w2.drew.cell? ⟨b, o + 4, none⟩ = some (.int .u8 (g 4 : Nat)) := ⟨T1, T2, T3, T4⟩
  have TA : ∀ ob, (w2.alloc ob).drew.cell? ⟨b, o + 1, none⟩ = some (.int .u8 (g 1 : Nat)) ∧ (w2.alloc ob).drew.cell? ⟨b, o + 2, none⟩ = some (.int .u8 (g 2 : Nat)) ∧ (w2.alloc ob).drew.cell? ⟨b, o + 3, none⟩ = some (.int .u8 (g 3 : Nat)) ∧ (w2.alloc ob).drew.cell? ⟨b, o + 4, none⟩ = some (.int .u8 (g 4 : Nat)) := fun ob =>
    ⟨(World.cell?_alloc_lt _ _ _ hbl).trans T1, (World.cell?_alloc_lt _ _ _ hbl).trans T2, (World.cell?_alloc_lt _ _ _ hbl).trans T3, (World.cell?_alloc_lt _ _ _ hbl).trans T4⟩
  go_region_held3 (fun w' => w'.cell? ⟨b, o + 1, none⟩ = some (.int .u8 (g 1 : Nat)) ∧ w'.cell? ⟨b, o + 2, none⟩ = some (.int .u8 (g 2 : Nat)) ∧ w'.cell? ⟨b, o + 3, none⟩ = some (.int .u8 (g 3 : Nat)) ∧ w'.cell? ⟨b, o + 4, none⟩ = some (.int .u8 (g 4 : Nat)))
    (first | with_reducible exact TD | with_reducible exact TA _)
    (fail)
  have hqq := HQ.out
  have VX := (varB_new w2 (.int .i64 (g 1 : Nat)) (.int .i64 (g 2 : Nat)) (.int .i64 (q : Nat)) (.slice (some ⟨b, o + 7, none⟩) (e - 7) (cap - 7))).drew
  have V2 := (Vq.below ((Below.refl _ _).alloc (Nat.le_refl _) (.cells #[.int .i64 (g 1 : Nat), .int .i64 (g 2 : Nat), .int .i64 (q : Nat), .slice (some ⟨b, o + 7, none⟩) (e - 7) (cap - 7)] 137))).drew
  have by2 := (bq.alloc bq.size (.cells #[.int .i64 (g 1 : Nat), .int .i64 (g 2 : Nat), .int .i64 (q : Nat), .slice (some ⟨b, o + 7, none⟩) (e - 7) (cap - 7)] 137)).drew
  have HW := HW (w2.alloc (.cells #[.int .i64 (g 1 : Nat), .int .i64 (g 2 : Nat), .int .i64 (q : Nat), .slice (some ⟨b, o + 7, none⟩) (e - 7) (cap - 7)] 137)).drew
  have VX : Hid (VarB (w2.alloc (.cells #[.int .i64 (g 1 : Nat), .int .i64 (g 2 : Nat), .int .i64 (q : Nat), .slice (some ⟨b, o + 7, none⟩) (e - 7) (cap - 7)] 137)).drew w2.heap.size (.int .i64 (g 1 : Nat)) (.int .i64 (g 2 : Nat)) (.int .i64 (q : Nat)) (.slice (some ⟨b, o + 7, none⟩) (e - 7) (cap - 7))) := VX
  clear T1 T2 T3 T4 TD TA Vq hm1 hm2 hw1 hw2 hw3 hw4
  by_cases hE : Crc.wrongB (g 1) (g 2) (q : Nat) (e - 7) = 0
  · have HE : Hid (Crc.wrongB (g 1) (g 2) (q : Nat) (e - 7) = 0) := hE
    rw [hE] at HW
    clear hE
    go_wp2_with fail
    refine HW.mono ?_
    rintro e6 w6 ⟨rfl, b6⟩
    obtain ⟨c0, c1, c2, c3, fr⟩ := V2.below b6
    obtain ⟨m0, m1, m2, m3, _⟩ := VX.out.below b6
    have f0 := fr 0
    have f1 := fr 1
    have f2 := fr 2
    have f3 := fr 3
    have bz := bt by2 b6
    clear HW V2
    go_wp2_with fail
    refine bodyPost_ret (v := .tuple #[.agg #[.int .i64 (g 1 : Nat), .int .i64 (g 2 : Nat), .int .i64 (q : Nat), .slice (some ⟨b, o + 7, none⟩) (e - 7) (cap - 7)], .int .i64 0]) (by simp [results, Tryz.results96, go_sem, c0, c1, c2, c3]) rfl ⟨_, by rw [HE.out]; rfl, Or.inl ⟨HE.out, _, rfl, rfl, ?_⟩, ?_⟩
    · exact HD.out _ (Below.refl _ _)
    · exact set4_below bz (Nat.le_refl _)
  · have HE : Hid (Crc.wrongB (g 1) (g 2) (q : Nat) (e - 7) ≠ 0) := hE
    have hx' : (((Crc.wrongB (g 1) (g 2) (q : Nat) (e - 7) : Nat) : Int) == 0) = false := by rw [beq_eq_false_iff_ne]; omega
    have hxn : (((Crc.wrongB (g 1) (g 2) (q : Nat) (e - 7) : Nat) : Int) != 0) = true := by rw [bne, hx']; rfl
    clear hE
    go_wp2_with fail
    refine HW.mono ?_
    rintro e6 w6 ⟨rfl, b6⟩
    obtain ⟨c0, c1, c2, c3, fr⟩ := V2.below b6
    have f0 := fr 0
    have f1 := fr 1
    have f2 := fr 2
    have f3 := fr 3
    have bz := bt by2 b6
    clear HW V2
    go_wp2_with fail
    refine bodyPost_ret (v := .tuple #[.agg #[.int .i64 0, .int .i64 0, .int .i64 0, .slice none 0 0], .int .i64 (Crc.wrongB (g 1) (g 2) (q : Nat) (e - 7) : Nat)]) (by simp [results, Tryz.results96, go_sem, c0, c1, c2, c3]) rfl ⟨_, rfl, Or.inr ⟨HE.out, rfl⟩, ?_⟩
    exact set4_below bz (Nat.le_refl _)

end Go.Proofs.YtmcaejooaaahdaaGreat

namespace Go.Proofs.YtmcaejooaaahdaaGreat
open Go.RowKit

theorem refBytes_any (v : Value) (s h z : Int) (n : Nat) (f : Nat → Nat) (w : World) (hx : Blk w v s h z n f) :
    Calls Tryz.prog 95 #[v] w fun e w' => ∃ v', e = .returned (.tuple #[v', .int .i64 (Crc.wrongB s h z n : Nat)]) ∧ BytesO w' w.heap.size (Crc.wrongB s h z n) v' (n + 11) (encI s h z n f) ∧ Below w.heap.size w w' := by
  obtain ⟨d, rfl, hd⟩ := hx
  by_cases hE : Crc.wrongB s h z n = 0
  · have hi := Crc.wrongB_inv hE
    obtain ⟨S, rfl⟩ := Int.eq_ofNat_of_zero_le hi.1.1
    obtain ⟨H, rfl⟩ := Int.eq_ofNat_of_zero_le hi.1.2.2.1
    obtain ⟨Z, rfl⟩ := Int.eq_ofNat_of_zero_le hi.1.2.2.2.2.1
    refine (refBytes_ok S H Z d n f w hd hE).mono ?_
    rintro e w' ⟨v', rfl, hm, hb⟩
    exact ⟨v', by rw [hE]; rfl, Or.inl ⟨hE, hm⟩, hb⟩
  · obtain ⟨_, A, cap, rfl, _⟩ := hd
    refine (refBytes_bad s h z A n cap w hE).mono ?_
    rintro e w' ⟨rfl, hb⟩
    exact ⟨_, rfl, Or.inr ⟨hE, rfl⟩, hb⟩

/-- A part of bytes. -/
theorem byts_part {w : World} {b o n cap e : Nat} {g : Nat → Nat} (h : Byts w (.slice (some ⟨b, o, none⟩) n cap) n g) (he : n = e + 4) (h8 : 8 ≤ e) : Byts w (.slice (some ⟨b, o + 7, none⟩) (e - 7) (cap - 7)) (e - 7) (fun k => g (k + 7)) := by
  obtain ⟨bd, A, C, hv, h1, h2, hc⟩ := h
  cases hv
  refine ⟨fun k => bd _, some ⟨b, o + 7, none⟩, cap - 7, rfl, by omega, by omega, fun i hi => ⟨b, o + 7, rfl, ?_⟩⟩
  obtain ⟨b', o', e1, e2⟩ := hc (i + 7) (by omega)
  cases e1
  rw [show o + 7 + i = o + (i + 7) by omega]
  exact e2
/-- The document's own Parse of a block's bytes: its data are a part of them. -/
theorem refParse_in (v : Value) (n : Nat) (g : Nat → Nat) (w : World) (hx : Byts w v n g) (h0 : Crc.parseE g n = 0) :
    Calls Tryz.prog 96 #[v] w fun e w' => ∃ A C, e = .returned (.tuple #[.agg #[.int .i64 (g 1 : Nat), .int .i64 (g 2 : Nat), .int .i64 (g 3 * 256 + g 4 : Nat), .slice A (n - 11) C], .int .i64 0]) ∧ (∀ W, Byts W v n g → Byts W (.slice A (n - 11) C) (n - 11) (fun k => g (k + 7))) ∧ Below w.heap.size w w' := by
  have hF : ¬ BadForm g n := fun q => by rw [Crc.parse_form q] at h0; cases h0
  have hn : 12 ≤ n := by unfold BadForm at hF; omega
  obtain ⟨b, o, cap, rfl, hcap, _, _⟩ := hx.some (by omega)
  obtain ⟨e, rfl⟩ : ∃ e, n = e + 4 := ⟨n - 4, by omega⟩
  have hs : Crc.sum g e = Crc.four g e := by
    refine Classical.byContradiction fun q => ?_
    rw [Crc.parse_sum hF (by rw [Nat.add_sub_cancel]; exact q)] at h0
    cases h0
  have hE : Crc.parseE g (e + 4) = Crc.wrongB (g 1) (g 2) (g 3 * 256 + g 4 : Nat) (e - 7) := by
    rw [Crc.parse_else hF (by rw [Nat.add_sub_cancel]; exact hs), show e + 4 - 11 = e - 7 by omega]
  refine (refParse_rest b o (e + 4) e cap g w hx rfl (by omega) hF hs).mono ?_
  rintro r w' ⟨v', rfl, hv, hb⟩
  rw [← hE, h0] at hv ⊢
  rw [show e + 4 - 11 = e - 7 by omega]
  rcases hv with ⟨_, d, rfl, rfl, _⟩ | ⟨q, _⟩
  · exact ⟨_, _, rfl, fun W hW => byts_part hW rfl (by omega), hb⟩
  · exact absurd rfl q

theorem refParse_any (v : Value) (n : Nat) (g : Nat → Nat) (w : World) (hx : Byts w v n g) :
    Calls Tryz.prog 96 #[v] w fun e w' => ∃ v', e = .returned (.tuple #[v', .int .i64 (Crc.parseE g n : Nat)]) ∧
      Blk w' v' (pk (Crc.parseE g n) (g 1) : Nat) (pk (Crc.parseE g n) (g 2) : Nat) (pk (Crc.parseE g n) (g 3 * 256 + g 4) : Nat) (pk (Crc.parseE g n) (n - 11)) (fun k => g (k + 7)) ∧ Below w.heap.size w w' := by
  have hbd := hx.bd
  have hbd7 : Bd (fun k => g (k + 7)) := fun k => hbd _
  by_cases hF : BadForm g n
  · have hE : Crc.parseE g n = 2 := Crc.parse_form hF
    refine (refParse_bad v n g w hx hF).mono ?_
    rintro e w' ⟨rfl, hb⟩
    exact ⟨_, by rw [hE]; rfl, blk_none (by omega) _ _ _ _ hbd7, hb⟩
  · have hn : 12 ≤ n := by unfold BadForm at hF; omega
    obtain ⟨b, o, cap, rfl, hcap, _, _⟩ := hx.some (by omega)
    obtain ⟨e, rfl⟩ : ∃ e, n = e + 4 := ⟨n - 4, by omega⟩
    by_cases hs : Crc.sum g e = Crc.four g e
    · have hE : Crc.parseE g (e + 4) = Crc.wrongB (g 1) (g 2) (g 3 * 256 + g 4 : Nat) (e - 7) := by
        rw [Crc.parse_else hF (by rw [Nat.add_sub_cancel]; exact hs), show e + 4 - 11 = e - 7 by omega]
      refine (refParse_rest b o (e + 4) e cap g w hx rfl (by omega) hF hs).mono ?_
      rintro r w' ⟨v', rfl, hv, hb⟩
      rw [← hE] at hv ⊢
      rw [show e + 4 - 11 = e - 7 by omega]
      rcases hv with ⟨h0, d, rfl, _, hd⟩ | ⟨h0, rfl⟩
      · rw [pk_ok h0, pk_ok h0, pk_ok h0, pk_ok h0]
        exact ⟨_, rfl, ⟨d, rfl, hd.below hb⟩, hb⟩
      · exact ⟨_, rfl, blk_none h0 _ _ _ _ hbd7, hb⟩
    · have hE : Crc.parseE g (e + 4) = 9 := Crc.parse_sum hF (by rw [Nat.add_sub_cancel]; exact hs)
      refine (refParse_bsum b o (e + 4) e cap g w hx rfl hF hs).mono ?_
      rintro r w' ⟨rfl, hb⟩
      exact ⟨_, by rw [hE]; rfl, blk_none (by omega) _ _ _ _ hbd7, hb⟩

end Go.Proofs.YtmcaejooaaahdaaGreat

namespace Go.Proofs.YtmcaejooaaahdaaGreat
open Go.RowKit

set_option maxHeartbeats 400000 in
theorem refRight_any (v : Value) (n : Nat) (g : Nat → Nat) (s : Int) (i : Nat) (w : World) (h : Byts w v n g) :
    Calls Tryz.prog 68 #[v, .int .i64 s, .int .i64 (i : Int)] w fun e w' => Tell e (Crc.parseE g n = 0 ∧ ((g 1 : Nat) : Int) = s ∧ g 2 = i) ∧ Below w.heap.size w w' := by
  have H1 := refParse_any v n g w h
  by_cases hE : Crc.parseE g n = 0
  · rw [hE, pk_ok rfl, pk_ok rfl, pk_ok rfl, pk_ok rfl] at H1
    have HE : Hid (Crc.parseE g n = 0) := hE
    generalize g 3 * 256 + g 4 = z at H1
    by_cases h1 : ((g 1 : Nat) : Int) = s
    · by_cases h2 : g 2 = i
      · have t1 : (((g 1 : Nat) : Int) == s) = true := by rw [beq_iff_eq]; exact h1
        have t2 : (((g 2 : Nat) : Int) == (i : Int)) = true := by rw [beq_iff_eq]; omega
        have HY : Hid (Crc.parseE g n = 0 ∧ ((g 1 : Nat) : Int) = s ∧ g 2 = i) := ⟨hE, h1, h2⟩
        clear hE h1 h2
        go_enter Tryz.func68, Tryz.ntmps68
        go_wp2_with fail
        refine H1.mono ?_
        rintro e w1 ⟨v1, rfl, ⟨d, rfl, hd⟩, b1⟩
        obtain ⟨A, C, rfl⟩ := hd.shape
        have b2 : Below w.heap.size w (w1.alloc (.cells #[.int .i64 (g 1 : Nat), .int .i64 (g 2 : Nat), .int .i64 (z : Nat), .slice A (n - 11) C] 137)) := b1.alloc b1.size _
        clear H1 hd
        go_wp2_with fail
        go_ret
        exact ⟨tell_yes HY.out, b2⟩
      · have t1 : (((g 1 : Nat) : Int) == s) = true := by rw [beq_iff_eq]; exact h1
        have t2 : (((g 2 : Nat) : Int) == (i : Int)) = false := by rw [beq_eq_false_iff_ne]; omega
        have HN : Hid (¬ (Crc.parseE g n = 0 ∧ ((g 1 : Nat) : Int) = s ∧ g 2 = i)) := fun q => h2 q.2.2
        clear hE h1 h2
        go_enter Tryz.func68, Tryz.ntmps68
        go_wp2_with fail
        refine H1.mono ?_
        rintro e w1 ⟨v1, rfl, ⟨d, rfl, hd⟩, b1⟩
        obtain ⟨A, C, rfl⟩ := hd.shape
        have b2 : Below w.heap.size w (w1.alloc (.cells #[.int .i64 (g 1 : Nat), .int .i64 (g 2 : Nat), .int .i64 (z : Nat), .slice A (n - 11) C] 137)) := b1.alloc b1.size _
        clear H1 hd
        go_wp2_with fail
        go_ret
        exact ⟨tell_no HN.out, b2⟩
    · have t1 : (((g 1 : Nat) : Int) == s) = false := by rw [beq_eq_false_iff_ne]; exact h1
      have HN : Hid (¬ (Crc.parseE g n = 0 ∧ ((g 1 : Nat) : Int) = s ∧ g 2 = i)) := fun q => h1 q.2.1
      clear hE h1
      go_enter Tryz.func68, Tryz.ntmps68
      go_wp2_with fail
      refine H1.mono ?_
      rintro e w1 ⟨v1, rfl, ⟨d, rfl, hd⟩, b1⟩
      obtain ⟨A, C, rfl⟩ := hd.shape
      have b2 : Below w.heap.size w (w1.alloc (.cells #[.int .i64 (g 1 : Nat), .int .i64 (g 2 : Nat), .int .i64 (z : Nat), .slice A (n - 11) C] 137)) := b1.alloc b1.size _
      clear H1 hd
      go_wp2_with fail
      go_ret
      exact ⟨tell_no HN.out, b2⟩
  · have HN : Hid (¬ (Crc.parseE g n = 0 ∧ ((g 1 : Nat) : Int) = s ∧ g 2 = i)) := fun q => hE q.1
    rw [pk_no hE, pk_no hE, pk_no hE, pk_no hE] at H1
    have hx' : (((Crc.parseE g n : Nat) : Int) == 0) = false := by rw [beq_eq_false_iff_ne]; omega
    obtain ⟨P, hP⟩ : ∃ P : Prop, P = (Crc.parseE g n = 0 ∧ ((g 1 : Nat) : Int) = s ∧ g 2 = i) := ⟨_, rfl⟩
    rw [← hP] at HN ⊢
    clear hP
    generalize Crc.parseE g n = E at H1 hx'
    clear hE
    go_enter Tryz.func68, Tryz.ntmps68
    go_wp2_with fail
    refine H1.mono ?_
    rintro e w1 ⟨v1, rfl, ⟨d, rfl, hd⟩, b1⟩
    obtain ⟨A, C, rfl⟩ := hd.shape
    have b2 : Below w.heap.size w (w1.alloc (.cells #[.int .i64 (0 : Nat), .int .i64 (0 : Nat), .int .i64 (0 : Nat), .slice A 0 C] 137)) := b1.alloc b1.size _
    clear H1 hd
    go_wp2_with fail
    go_ret
    exact ⟨tell_no HN.out, b2⟩

set_option maxHeartbeats 400000 in
theorem refBadS_any (v : Value) (N : Nat) (L : Nat → Nat) (g : Nat → Nat → Nat) (s : Int) (w : World) (h : Lls w v N L g) (hN : (N + 1) * 8 ≤ 140737488355328) :
    Calls Tryz.prog 37 #[v, .int .i64 s] w fun e w' => ∃ v', e = .returned v' ∧ Nums w' w.heap.size v' (Seg.badL s L g N) ∧ Below w.heap.size w w' := by
  obtain ⟨i1, hi1, hh1⟩ := Option.map_eq_some_iff.1 Tryz.infoInt
  simp only [Prod.mk.injEq] at hh1
  obtain ⟨hy0, hy1, hy2⟩ := hh1
  obtain ⟨A, C, rfl⟩ := h.shape
  have HL : Hid (∀ w', Below w.heap.size w w' → ∀ r, r < N → ∃ b o R K, A = some ⟨b, o, none⟩ ∧ w'.cell? ⟨b, o + r, none⟩ = some (.slice R (L r) K) ∧ Byts w' (.slice R (L r) K) (L r) (g r)) := fun w' hb r hr => (h.below hb).at hr
  clear h
  go_enter Tryz.func37, Tryz.ntmps37
  go_wp2_with fail
  go_loopw [5, 9] (fun y x wr => ∃ k : Nat, k ≤ N ∧ x = .int .i64 k ∧ Nums wr w.heap.size y (Seg.badL s L g k) ∧ Below w.heap.size w wr) (fun _ x _ => N - (intOf x).toNat)
  case atStart => exact ⟨0, Nat.zero_le _, rfl, Nums.nil _ _, Below.refl _ _⟩
  case round =>
    obtain ⟨k, hk, rfl, BN, hb⟩ := hrel
    by_cases hlt : k < N
    · have hlt' : (k : Int) < (N : Int) := by omega
      obtain ⟨b, o, R, K, rfl, d0, hy⟩ := HL.out wr hb k hlt
      have HR := refRight_any _ _ (g k) s k wr hy
      have hln := badL_len s L g k
      obtain ⟨P, hP⟩ : ∃ P : Prop, P = (Crc.parseE (g k) (L k) = 0 ∧ ((g k 1 : Nat) : Int) = s ∧ g k 2 = k) := ⟨_, rfl⟩
      have HPy : Hid (P → Seg.badL s L g (k + 1) = Seg.badL s L g k) := fun q => Seg.badL_no (by rw [hP] at q; exact q)
      have HPn : Hid (¬ P → Seg.badL s L g (k + 1) = Seg.badL s L g k ++ [k]) := fun q => Seg.badL_yes (fun r => q (by rw [hP]; exact r))
      rw [← hP] at HR
      clear hy hP
      by_cases hp : P
      · have HPP : Hid P := hp
        clear hp
        go_wp2_with fail
        refine HR.mono ?_
        rintro e w1 ⟨⟨y, rfl, hyy⟩, b1⟩
        obtain rfl : y = true := hyy.2 HPP.out
        have BN := BN.below b1
        have b1 := bt hb b1
        rw [← HPy.out HPP.out] at BN
        clear HR hyy
        go_wp2_with fail
        exact ⟨⟨k + 1, by omega, by go_num, BN, b1⟩, by simp [intOf]; omega⟩
      · have HPP : Hid (¬ P) := hp
        clear hp
        go_wp2_with fail
        refine HR.mono ?_
        rintro e w1 ⟨⟨y, rfl, hyy⟩, b1⟩
        obtain rfl : y = false := by cases y with | false => rfl | true => exact absurd (hyy.1 rfl) HPP.out
        have BN := BN.below b1
        have b1 := bt hb b1
        have bX : Below w1.heap.size w1 (w1.alloc (.cells #[.int .i64 (k : Int)] 3)) := (Below.refl _ _).alloc (Nat.le_refl _) _
        have BX : (w1.alloc (.cells #[.int .i64 (k : Int)] 3)).ownsRow w.heap.size 3 1 u5 (Seg.badL s L g k).length ((Seg.badL s L g k).map fun x : Nat => Value.int .i64 (x : Int)) := BN.below bX
        have b2 := bt b1 bX
        have cn : ∀ j u, [Value.int .i64 (k : Int)][j]? = some u → (w1.alloc (.cells #[.int .i64 (k : Int)] 3)).cell? ((⟨w1.heap.size, 0, none⟩ : Addr).add j) = some u := cells_new w1 #[.int .i64 (k : Int)] 3
        have HLT := BX.lt
        clear HR hyy BN
        go_wp2_with (at_builtin; go_loud (refine wpList_append_own _ rfl (.tmp 20) (.tmp 22) 27 rfl w.heap.size 3 i1 (.int .i64 0) 1 8 Tryz.underlying27 hi1 hy0 hy1 hy2 rfl (by decide) _ _ _ rfl BX ⟨w1.heap.size, 0, none⟩ 1 1 [.int .i64 (k : Int)] rfl rfl cn (by intro u hu; simp at hu; rw [hu]; rfl) (by unfold maxLen; omega) (by omega) b2.size ?_; intro v3 w3 hown3 hgrow3 _))
        have B3 := Nums.one hown3
        rw [← HPn.out HPP.out] at B3
        have b3 : Below w.heap.size w w3 := b2.grown hgrow3 b2.size (fun y hy => (HLT y hy).1)
        exact ⟨⟨k + 1, by omega, by go_num, B3, b3⟩, by simp [intOf]; omega⟩
    · obtain rfl : k = N := by omega
      go_wp2_with fail
      go_ret
      exact ⟨_, rfl, BN, hb⟩

end Go.Proofs.YtmcaejooaaahdaaGreat

namespace Go.Proofs.YtmcaejooaaahdaaGreat.Gf

/-- The whole product by the first k bits of b, nothing taken away yet. -/
def rawTo (a b : Nat) : Nat → Nat
  | 0 => 0
  | k + 1 => rawTo a b k ^^^ sel b k (a * 2 ^ k)
/-- What is left behind j rounds, from the highest bit down. -/
def redTo (n : Nat) : Nat → Nat
  | 0 => n
  | j + 1 => redTo n j ^^^ sel (redTo n j) (14 - j) (285 * 2 ^ (6 - j))
def refMul (a b : Nat) : Nat := redTo (rawTo a b 8) 7 % 256

theorem rawTo_lt {a : Nat} (b : Nat) (h : a < 256) : (k : Nat) → k ≤ 8 → rawTo a b k < 2 ^ 15
  | 0, _ => Nat.two_pow_pos 15
  | k + 1, hk => by
    refine Nat.xor_lt_two_pow (rawTo_lt b h k (by omega)) ?_
    unfold sel
    split
    · have h2 : 2 ^ k ≤ 2 ^ 7 := Nat.pow_le_pow_right (by decide) (by omega)
      have h3 : a * 2 ^ k ≤ 255 * 2 ^ 7 := Nat.mul_le_mul (by omega) h2
      omega
    · decide
theorem redTo_lt {n : Nat} (h : n < 2 ^ 15) : (j : Nat) → j ≤ 7 → redTo n j < 2 ^ 15
  | 0, _ => h
  | j + 1, hj => by
    refine Nat.xor_lt_two_pow (redTo_lt h j (by omega)) ?_
    unfold sel
    split
    · have h2 : 2 ^ (6 - j) ≤ 2 ^ 6 := Nat.pow_le_pow_right (by decide) (by omega)
      have h3 : 285 * 2 ^ (6 - j) ≤ 285 * 2 ^ 6 := Nat.mul_le_mul_left 285 h2
      omega
    · decide

theorem shift_xor (a b k : Nat) : (a ^^^ b) * 2 ^ k = a * 2 ^ k ^^^ b * 2 ^ k := by
  have h := Nat.shiftLeft_xor_distrib (i := k) (a := a) (b := b)
  rw [Nat.shiftLeft_eq, Nat.shiftLeft_eq, Nat.shiftLeft_eq] at h
  exact h
theorem rawTo_left (a b c : Nat) : (k : Nat) → rawTo (a ^^^ b) c k = rawTo a c k ^^^ rawTo b c k
  | 0 => (Nat.xor_self 0).symm
  | k + 1 => by
    show rawTo (a ^^^ b) c k ^^^ sel c k ((a ^^^ b) * 2 ^ k) = (rawTo a c k ^^^ sel c k (a * 2 ^ k)) ^^^ (rawTo b c k ^^^ sel c k (b * 2 ^ k))
    rw [rawTo_left a b c k, shift_xor, sel_xor, xor_swap]
theorem rawTo_right (a b c : Nat) : (k : Nat) → rawTo a (b ^^^ c) k = rawTo a b k ^^^ rawTo a c k
  | 0 => (Nat.xor_self 0).symm
  | k + 1 => by
    show rawTo a (b ^^^ c) k ^^^ sel (b ^^^ c) k (a * 2 ^ k) = (rawTo a b k ^^^ sel b k (a * 2 ^ k)) ^^^ (rawTo a c k ^^^ sel c k (a * 2 ^ k))
    rw [rawTo_right a b c k, sel_bits, xor_swap]
theorem redTo_xor (x y : Nat) : (j : Nat) → redTo (x ^^^ y) j = redTo x j ^^^ redTo y j
  | 0 => rfl
  | j + 1 => by
    show redTo (x ^^^ y) j ^^^ sel (redTo (x ^^^ y) j) (14 - j) (285 * 2 ^ (6 - j)) = (redTo x j ^^^ sel (redTo x j) (14 - j) (285 * 2 ^ (6 - j))) ^^^ (redTo y j ^^^ sel (redTo y j) (14 - j) (285 * 2 ^ (6 - j)))
    rw [redTo_xor x y j, sel_bits, xor_swap]
theorem refMul_left (a b c : Nat) : refMul (a ^^^ b) c = refMul a c ^^^ refMul b c := by
  unfold refMul
  rw [rawTo_left, redTo_xor]
  exact Nat.xor_mod_two_pow (n := 8)
theorem refMul_right (a b c : Nat) : refMul a (b ^^^ c) = refMul a b ^^^ refMul a c := by
  unfold refMul
  rw [rawTo_right, redTo_xor]
  exact Nat.xor_mod_two_pow (n := 8)
theorem lin_refr (a : Nat) : Lin (fun b => refMul a b) := by
  refine ⟨?_, fun x y _ _ => refMul_right a x y⟩
  have h := refMul_right a 0 0
  rw [Nat.xor_self, Nat.xor_self] at h
  exact h
theorem lin_refl (c : Nat) : Lin (fun b => refMul b c) := by
  refine ⟨?_, fun x y _ _ => refMul_left x y c⟩
  have h := refMul_left 0 0 c
  rw [Nat.xor_self, Nat.xor_self] at h
  exact h
theorem ref_at {j : Nat} (h0 : refMul 1 j = mul 1 j) (h1 : refMul 2 j = mul 2 j) (h2 : refMul 4 j = mul 4 j) (h3 : refMul 8 j = mul 8 j) (h4 : refMul 16 j = mul 16 j) (h5 : refMul 32 j = mul 32 j) (h6 : refMul 64 j = mul 64 j) (h7 : refMul 128 j = mul 128 j)
    {a : Nat} (ha : a < 256) : refMul a j = mul a j :=
  lin_ext (lin_refl j) (lin_mull j) h0 h1 h2 h3 h4 h5 h6 h7 ha
theorem refMul_eq {a b : Nat} (ha : a < 256) (hb : b < 256) : refMul a b = mul a b :=
  lin_ext (lin_refr a) (lin_mulr a)
    (ref_at (by decide) (by decide) (by decide) (by decide) (by decide) (by decide) (by decide) (by decide) ha)
    (ref_at (by decide) (by decide) (by decide) (by decide) (by decide) (by decide) (by decide) (by decide) ha)
    (ref_at (by decide) (by decide) (by decide) (by decide) (by decide) (by decide) (by decide) (by decide) ha)
    (ref_at (by decide) (by decide) (by decide) (by decide) (by decide) (by decide) (by decide) (by decide) ha)
    (ref_at (by decide) (by decide) (by decide) (by decide) (by decide) (by decide) (by decide) (by decide) ha)
    (ref_at (by decide) (by decide) (by decide) (by decide) (by decide) (by decide) (by decide) (by decide) ha)
    (ref_at (by decide) (by decide) (by decide) (by decide) (by decide) (by decide) (by decide) (by decide) ha)
    (ref_at (by decide) (by decide) (by decide) (by decide) (by decide) (by decide) (by decide) (by decide) ha) hb

def rawToI (a b : Int) (k : Nat) : Int := (rawTo a.toNat b.toNat k : Nat)
def redToI (a b : Int) (j : Nat) : Int := (redTo (rawTo a.toNat b.toNat 8) j : Nat)
theorem rawToI_bd {a : Int} (b : Int) (h0 : 0 ≤ a) (h1 : a ≤ 255) {k : Nat} (hk : k ≤ 8) : 0 ≤ rawToI a b k ∧ rawToI a b k < 32768 := by
  have := rawTo_lt (a := a.toNat) b.toNat (by omega) k hk
  unfold rawToI
  omega
theorem redToI_bd {a : Int} (b : Int) (h0 : 0 ≤ a) (h1 : a ≤ 255) {j : Nat} (hj : j ≤ 7) : 0 ≤ redToI a b j ∧ redToI a b j < 32768 := by
  have := redTo_lt (rawTo_lt (a := a.toNat) b.toNat (by omega) 8 (Nat.le_refl 8)) j hj
  unfold redToI
  omega
theorem redToI_seven {a b : Int} (h0 : 0 ≤ a) (h1 : a ≤ 255) (g0 : 0 ≤ b) (g1 : b ≤ 255) : redToI a b 7 % 256 = mulI a b := by
  have h := refMul_eq (a := a.toNat) (b := b.toNat) (by omega) (by omega)
  unfold redToI mulI
  rw [← h]
  unfold refMul
  omega
theorem rawToI_yes (a b : Int) (k : Nat) (hb : b.toNat / 2 ^ k % 2 = 1) : rawToI a b (k + 1) = (((rawToI a b k).toNat ^^^ a.toNat * 2 ^ k : Nat) : Int) := by
  unfold rawToI
  rw [Int.toNat_natCast]
  show ((rawTo a.toNat b.toNat k ^^^ sel b.toNat k (a.toNat * 2 ^ k) : Nat) : Int) = _
  unfold sel
  rw [if_pos hb]
theorem rawToI_no (a b : Int) (k : Nat) (hb : ¬ b.toNat / 2 ^ k % 2 = 1) : rawToI a b (k + 1) = rawToI a b k := by
  unfold rawToI
  show ((rawTo a.toNat b.toNat k ^^^ sel b.toNat k (a.toNat * 2 ^ k) : Nat) : Int) = _
  unfold sel
  rw [if_neg hb, Nat.xor_zero]
theorem redToI_yes (a b : Int) (j : Nat) (h : (redToI a b j).toNat / 2 ^ (14 - j) % 2 = 1) : redToI a b (j + 1) = (((redToI a b j).toNat ^^^ 285 * 2 ^ (6 - j) : Nat) : Int) := by
  unfold redToI at h ⊢
  rw [Int.toNat_natCast] at h ⊢
  show ((redTo (rawTo a.toNat b.toNat 8) j ^^^ sel (redTo (rawTo a.toNat b.toNat 8) j) (14 - j) (285 * 2 ^ (6 - j)) : Nat) : Int) = _
  unfold sel
  rw [if_pos h]
theorem redToI_no (a b : Int) (j : Nat) (h : ¬ (redToI a b j).toNat / 2 ^ (14 - j) % 2 = 1) : redToI a b (j + 1) = redToI a b j := by
  unfold redToI at h ⊢
  rw [Int.toNat_natCast] at h
  show ((redTo (rawTo a.toNat b.toNat 8) j ^^^ sel (redTo (rawTo a.toNat b.toNat 8) j) (14 - j) (285 * 2 ^ (6 - j)) : Nat) : Int) = _
  unfold sel
  rw [if_neg h, Nat.xor_zero]

end Go.Proofs.YtmcaejooaaahdaaGreat.Gf
