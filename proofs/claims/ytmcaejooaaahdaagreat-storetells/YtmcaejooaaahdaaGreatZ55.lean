/-
  Texts of the proof, joined: DMend.
-/
import Derived.Test.YtmcaejooaaahdaaGreatZ52
import Derived.Test.YtmcaejooaaahdaaGreatZ10
import Derived.Test.YtmcaejooaaahdaaGreatZ54
namespace Go.Proofs.YtmcaejooaaahdaaGreat
open Go.RowKit

theorem Tryz.infoInt : (Tryz.prog.info? 3).map (fun i => (i.zero, i.size, i.bytes)) = some (some (.int .i64 0), 1, 8) := by kernel_rfl
theorem shape_owns {w : World} {N n : Nat} {t : TypeId} {v : Value} {xs : List Value} (ho : w.ownsRow N t 1 v n xs) : ∃ A cap, v = .slice A n cap := by
  rcases ho.2 with ⟨rfl, rfl⟩ | ⟨g, cap, _, rfl, _⟩
  · exact ⟨none, 0, rfl⟩
  · exact ⟨_, cap, rfl⟩
theorem thr_of {L : Nat → Nat} {N k : Nat} (hk : k < N) (h : 0 < L k) : ∃ p, p < (there L N).length ∧ thr L N p = k := by
  obtain ⟨p, hp, e⟩ := List.getElem_of_mem (there_mem.2 ⟨hk, h⟩ : k ∈ there L N)
  exact ⟨p, hp, by unfold thr; simp [List.getD, hp, e]⟩
theorem form_bad {L : Nat → Nat} {N k : Nat} (hk : k < N) (h : 400 < L k ∨ (0 < L k ∧ L k ≠ L (thr L N 0))) : ¬ FormOk L N := fun hf => by
  obtain ⟨p, hp, e⟩ := thr_of hk (show 0 < L k by omega)
  have h1 := hf.2 p hp
  rw [e] at h1
  have := hf.1
  omega
theorem form_good {L : Nat → Nat} {N : Nat} (hm : 1 ≤ (there L N).length) (h : ∀ i, i < N → ¬ (400 < L i ∨ (0 < L i ∧ L i ≠ L (thr L N 0)))) : FormOk L N := by
  have h0 := thr_mem (show 0 < (there L N).length by omega)
  refine ⟨?_, fun p hp => ?_⟩
  · have := h _ h0.1
    omega
  · have h1 := thr_mem hp
    have := h _ h1.1
    omega
set_option maxRecDepth 100000 in
set_option maxHeartbeats 400000 in
theorem refMend_bad (v : Value) (N : Nat) (A : Option Addr) (cap : Nat) (hv : v = .slice A N cap) (d : Int) (w : World) (hN : N ≤ maxLen) (h : wrongC d ((N : Int) - d) ≠ 0) :
    Calls Tryz.prog 97 #[v, .int .i64 d] w fun e w' => e = .returned (.tuple #[.slice none 0 0, .int .i64 5]) ∧ Below w.heap.size w w' := by
  subst hv
  unfold maxLen at hN
  have H : Hid (∀ w, Calls Tryz.prog 123 #[.int .i64 d, .int .i64 (wrap64 ((N : Int) - d))] w fun e w' => e = .returned (.tuple #[.slice none 0 0, .int .i64 5]) ∧ Below w.heap.size w w') := fun w => by
    refine refRows_bad d _ w ?_
    unfold wrongC at h
    split at h
    · rename_i hb
      unfold wrap64
      omega
    · exact absurd rfl h
  clear h hN
  go_enter Tryz.func97, Tryz.ntmps97
  go_wp2_with fail
  refine (H.out _).mono ?_
  rintro e w1 ⟨rfl, b1⟩
  go_wp2_with fail
  go_ret2
  exact ⟨rfl, b1⟩

/-- What is told of shards that are mended. -/
def MendP (n s : Nat) (L : Nat → Nat) (f : Nat → Nat → Nat) (e : Ending) (w' : World) : Prop := ∃ v r, e = .returned (.tuple #[v, .int .i64 (mendE n (n + s) L : Nat)]) ∧ (mendE n (n + s) L = 0 → Gf.Bd2 r ∧ Gf.Und n (fun p => Gf.rowF n (thr L (n + s) p)) r) ∧
  Out w' (mendE n (n + s) L) v (n + s) (L (thr L (n + s) 0)) (Gf.mm n (Gf.rowF n) (Gf.mm n r (fun p => f (thr L (n + s) p))))
theorem mendP_err {n s E : Nat} {L : Nat → Nat} {f : Nat → Nat → Nat} {w' : World} (h : mendE n (n + s) L = E) (h0 : E ≠ 0) : MendP n s L f (.returned (.tuple #[.slice none 0 0, .int .i64 (E : Nat)])) w' :=
  ⟨_, f, by rw [h], fun h' => absurd (h.symm.trans h') h0, by rw [h]; exact Or.inr ⟨Or.inl h0, rfl⟩⟩

set_option maxRecDepth 100000 in
set_option maxHeartbeats 4000000 in
theorem refMend_any (A : Option Addr) (cap n s : Nat) (L : Nat → Nat) (f : Nat → Nat → Nat) (w : World) (h : Arg w (.slice A (n + s) cap) (n + s) L f) (h1 : 1 ≤ n) (h2 : n ≤ 8) (h3 : s ≤ 4) :
    Calls Tryz.prog 97 #[.slice A (n + s) cap, .int .i64 (n : Int)] w fun e w' => MendP n s L f e w' ∧ Below w.heap.size w w' := by
  have HR := fun w => refRows_any n s w h1 h2 h3
  have hsub : (n : Int) + (s : Int) - (n : Int) = (s : Int) := by omega
  have bf := h.bd
  obtain ⟨A', cap', R, C, hv, hr⟩ := h.lies
  cases hv
  obtain ⟨b, o, rfl, _, _⟩ := hr 0 (by omega)
  have HC : Hid (∀ r, r < n + s → w.cell? ⟨b, o + r, none⟩ = some (.slice (R r) (L r) (C r)) ∧ ∀ k, k < L r → ∃ b' o', R r = some ⟨b', o', none⟩ ∧ w.cell? ⟨b', o' + k, none⟩ = some (.int .u8 (f r k : Nat))) := fun r hrn => by
    obtain ⟨b', o', e1, e2, e3⟩ := hr r hrn
    cases e1
    exact ⟨e2, e3⟩
  clear hr h
  obtain ⟨i0, hi, hh⟩ := Option.map_eq_some_iff.1 Tryz.infoRow
  simp only [Prod.mk.injEq] at hh
  obtain ⟨hz0, hz1, hz2⟩ := hh
  obtain ⟨i2, hi2, hh2⟩ := Option.map_eq_some_iff.1 Tryz.infoInt
  simp only [Prod.mk.injEq] at hh2
  obtain ⟨hx0, hx1, hx2⟩ := hh2
  have HW : Hid (wrongC n (((n + s : Nat) : Int) - n) = 0) := wrongC_ok (by omega)
  go_enter Tryz.func97, Tryz.ntmps97
  go_wp2_with fail
  refine (HR _).mono ?_
  rintro e w1 ⟨g, cp, rfl, hcp, ⟨G, K, hm⟩, b1⟩
  clear HR
  go_wp2_with fail
  go_loopw [8, 40] (fun v x wr => ∃ k : Nat, k ≤ n + s ∧ x = .int .i64 k ∧ wr.ownsRow w1.heap.size 3 1 v (there L k).length ((there L k).map fun (r : Nat) => Value.int .i64 (r : Int)) ∧ Below w1.heap.size w1 wr) (fun _ x _ => (n + s) - (intOf x).toNat)
  case atStart => exact ⟨0, Nat.zero_le _, rfl, World.ownsRow_nil _ _ _ 1, Below.refl _ _⟩
  case round =>
    obtain ⟨k, hk, rfl, hown, hb⟩ := hrel
    have hbw := bt b1 hb
    by_cases hlt : k < n + s
    · have hlt' : (k : Int) < (n : Int) + (s : Int) := by omega
      have hck := (HC.out k hlt).1
      have hcw := (hbw.cell (p := ⟨b, o + k, none⟩) (World.block_lt_of_cell? _ _ hck)).trans hck
      clear hck
      by_cases hy : 0 < L k
      · have hy' : (0 : Int) < (L k : Int) := by omega
        have HT : Hid (there L (k + 1) = there L k ++ [k]) := there_yes hy
        have hlen := there_len L k
        have hbX := (Below.refl wr.heap.size wr).alloc (Nat.le_refl _) (.cells #[.int .i64 (k : Int)] 3)
        have ox := owns_below hown hbX
        have bX := bt hb hbX
        go_wp2_with (at_builtin; refine wpList_append_own _ rfl (.tmp 48) (.tmp 50) 27 rfl w1.heap.size 3 i2 (.int .i64 0) 1 8 Tryz.underlying27 hi2 hx0 hx1 hx2 rfl (by decide) _ _ _ rfl ox ⟨wr.heap.size, 0, none⟩ 1 1 [.int .i64 (k : Int)] rfl rfl cell_one (by intro u hu; simp at hu; subst hu; rfl) (by unfold maxLen; omega) (by omega) bX.size ?_; intro v2 w2 hown2 hgrow2 _)
        have b2 : Below w1.heap.size w1 w2 := bX.grown hgrow2 bX.size (fun x hx => (ox.lt x hx).1)
        have q2 : w2.ownsRow w1.heap.size 3 1 v2 (there L (k + 1)).length ((there L (k + 1)).map fun (r : Nat) => Value.int .i64 (r : Int)) := by
          rw [HT.out, List.length_append, List.map_append]
          exact hown2
        clear hown ox hown2 hgrow2 bX hbX hcw
        go_wp2_with fail
        exact ⟨⟨k + 1, by omega, by go_num, q2, b2⟩, by simp [intOf]; omega⟩
      · have hy' : ¬ (0 : Int) < (L k : Int) := by omega
        have HT : Hid (there L (k + 1) = there L k) := there_no hy
        go_wp2_with fail
        exact ⟨⟨k + 1, by omega, by go_num, by rw [HT.out]; exact hown, hb⟩, by simp [intOf]; omega⟩
    · have e8 : k = n + s := by omega
      subst e8
      obtain ⟨w3, rfl⟩ : ∃ x, x = wr := ⟨wr, rfl⟩
      have hlen := there_len L (n + s)
      by_cases hl : (there L (n + s)).length < n
      · have hl' : ((there L (n + s)).length : Int) < (n : Int) := by omega
        have HE : Hid (mendE n (n + s) L = 10) := (if_neg (by rw [HW.out]; simp)).trans (if_pos hl)
        obtain ⟨A8, c8, rfl⟩ := shape_owns hown
        clear hown
        go_wp2_with fail
        go_ret2
        exact ⟨mendP_err HE.out (by decide), hbw⟩
      · have hl' : ¬ ((there L (n + s)).length : Int) < (n : Int) := by omega
        obtain ⟨gu, cu, rfl, hgu, hcu, hu0⟩ := rowC_owns hown (by omega)
        have hu : RowC w3 gu 3 (there L (n + s)).length (fun j => .int .i64 (thr L (n + s) j : Int)) := hu0.congr (fun j hj => by unfold thr; simp [List.getD, hj])
        clear hown hu0
        have u0 := hu.cell (show 0 < (there L (n + s)).length by omega)
        have hth0 := (thr_mem (show 0 < (there L (n + s)).length by omega)).1
        have hth0' : (thr L (n + s) 0 : Int) < (n : Int) + (s : Int) := by omega
        have hpl : (0 : Int) < ((there L (n + s)).length : Int) := by omega
        have ct0 := (HC.out _ hth0).1
        have ct := (hbw.cell (p := ⟨b, o + thr L (n + s) 0, none⟩) (World.block_lt_of_cell? _ _ ct0)).trans ct0
        clear ct0
        go_wp2_with fail
        clear u0 ct hpl hth0'
        generalize hcc : L (thr L (n + s) 0) = c
        have HCC : Hid (L (thr L (n + s) 0) = c) := hcc
        clear hcc
        go_loop [66] (fun x => ∃ k : Nat, k ≤ n + s ∧ x = .int .i64 k ∧ Hid (∀ i, i < k → ¬ (400 < L i ∨ (0 < L i ∧ L i ≠ c)))) (fun x => (n + s) - (intOf x).toNat)
        case atStart => exact ⟨0, Nat.zero_le _, rfl, fun i hi => absurd hi (Nat.not_lt_zero i)⟩
        case round =>
          obtain ⟨k, hk, rfl, HF⟩ := hrel
          by_cases hlt : k < n + s
          · have hlt' : (k : Int) < (n : Int) + (s : Int) := by omega
            have hck := (HC.out k hlt).1
            have hcw := (hbw.cell (p := ⟨b, o + k, none⟩) (World.block_lt_of_cell? _ _ hck)).trans hck
            clear hck
            by_cases h4 : 400 < L k
            · have h4' : (400 : Int) < (L k : Int) := by omega
              have HE : Hid (mendE n (n + s) L = 2) := (if_neg (by rw [HW.out]; simp)).trans ((if_neg (by simp; omega)).trans (if_neg (form_bad hlt (Or.inl h4))))
              go_wp2_with fail
              go_ret2
              exact ⟨mendP_err HE.out (by decide), hbw⟩
            · have h4' : ¬ (400 : Int) < (L k : Int) := by omega
              by_cases h5 : 0 < L k
              · have h5' : (0 : Int) < (L k : Int) := by omega
                by_cases h6 : L k = c
                · have HK : Hid (¬ (400 < L k ∨ (0 < L k ∧ L k ≠ c))) := by show ¬ _; omega
                  have h6' : ((L k : Int) == (c : Int)) = true := by rw [beq_iff_eq]; omega
                  have h6n : ((L k : Int) != (c : Int)) = false := by rw [bne, h6']; rfl
                  clear h6
                  go_wp2_with fail
                  refine ⟨⟨k + 1, by omega, by go_num, fun i hi => ?_⟩, by simp [intOf]; omega⟩
                  by_cases e : i = k
                  · rw [e]; exact HK.out
                  · exact HF.out i (by omega)
                · have h6' : ((L k : Int) == (c : Int)) = false := by rw [beq_eq_false_iff_ne]; omega
                  have h6n : ((L k : Int) != (c : Int)) = true := by rw [bne, h6']; rfl
                  have HE : Hid (mendE n (n + s) L = 2) := (if_neg (by rw [HW.out]; simp)).trans ((if_neg (by simp; omega)).trans (if_neg (form_bad hlt (Or.inr ⟨h5, by rw [HCC.out]; exact h6⟩))))
                  clear h6
                  go_wp2_with fail
                  go_ret2
                  exact ⟨mendP_err HE.out (by decide), hbw⟩
              · have h5' : ¬ (0 : Int) < (L k : Int) := by omega
                have HK : Hid (¬ (400 < L k ∨ (0 < L k ∧ L k ≠ c))) := by show ¬ _; omega
                go_wp2_with fail
                refine ⟨⟨k + 1, by omega, by go_num, fun i hi => ?_⟩, by simp [intOf]; omega⟩
                by_cases e : i = k
                · rw [e]; exact HK.out
                · exact HF.out i (by omega)
          · have e8 : k = n + s := by omega
            subst e8
            have HFO : Hid (FormOk L (n + s)) := form_good (by omega) (by rw [HCC.out]; exact HF.out)
            have HE : Hid (mendE n (n + s) L = 0) := (if_neg (by rw [HW.out]; simp)).trans ((if_neg (by simp; omega)).trans (if_pos HFO.out))
            have hcu' : (n : Int) ≤ (cu : Int) := by omega
            clear HF hlt
            have hm3 := hm.below hb
            go_wp2_with fail
            go_loopw [14, 89] (fun v x wr => ∃ p : Nat, p ≤ n ∧ x = .int .i64 p ∧ wr.ownsRow w3.heap.size 59 1 v p ((List.range p).map fun q => .slice (some ⟨G (thr L (n + s) q), 0, none⟩) n (K (thr L (n + s) q))) ∧ Below w3.heap.size w3 wr) (fun _ x _ => n - (intOf x).toNat)
            case atStart => exact ⟨0, Nat.zero_le _, rfl, World.ownsRow_nil _ _ _ 1, Below.refl _ _⟩
            case round =>
              obtain ⟨p, hp, rfl, hownM, hbM⟩ := hrel
              have hbw3 := bt hbw hbM
              by_cases hpn : p < n
              · have hp' : (p : Int) < (n : Int) := by omega
                have huM := (hu.below hbM).cell (show p < (there L (n + s)).length by omega)
                have hth := (thr_mem (show p < (there L (n + s)).length by omega)).1
                have hth' : (thr L (n + s) p : Int) < (n : Int) + (s : Int) := by omega
                have tk := (hm3.below hbM).top _ hth
                rw [Nat.zero_add] at tk
                have hbX := (Below.refl wr.heap.size wr).alloc (Nat.le_refl _) (.cells #[.slice (some ⟨G (thr L (n + s) p), 0, none⟩) n (K (thr L (n + s) p))] 59)
                have ox := owns_below hownM hbX
                have bX := bt hbM hbX
                go_wp2_with (at_builtin; refine wpList_append_own _ rfl (.tmp 93) (.tmp 98) 169 rfl w3.heap.size 59 i0 (.slice none 0 0) 1 24 Tryz.underlying169 hi hz0 hz1 hz2 rfl (by decide) _ _ _ rfl ox ⟨wr.heap.size, 0, none⟩ 1 1 [.slice (some ⟨G (thr L (n + s) p), 0, none⟩) n (K (thr L (n + s) p))] rfl rfl cell_one (by intro u hu; simp at hu; subst hu; rfl) (by unfold maxLen; omega) (by omega) bX.size ?_; intro v4 w4 hown4 hgrow4 _)
                have b4 : Below w3.heap.size w3 w4 := bX.grown hgrow4 bX.size (fun x hx => (ox.lt x hx).1)
                have q4 : w4.ownsRow w3.heap.size 59 1 v4 (p + 1) ((List.range (p + 1)).map fun q => .slice (some ⟨G (thr L (n + s) q), 0, none⟩) n (K (thr L (n + s) q))) := by
                  rw [List.range_succ, List.map_append]
                  exact hown4
                clear hownM ox hown4 hgrow4 bX hbX huM tk
                go_wp2_with fail
                exact ⟨⟨p + 1, by omega, by go_num, q4, b4⟩, by simp [intOf]; omega⟩
              · have ep : n = p := by omega
                subst ep
                obtain ⟨g5, cap5, rfl, _, _, hrow5⟩ := rowC_owns hownM h1
                have mM : Mx wr (.slice (some ⟨g5, 0, none⟩) n cap5) n n (fun q => Gf.rowF n (thr L (n + s) q)) := by
                  refine ⟨fun q => Gf.rowF_bd n _, ⟨h1, by omega, h1, by omega⟩, g5, 0, cap5, fun q => G (thr L (n + s) q), fun _ => 0, fun q => K (thr L (n + s) q), rfl, fun q hq => ?_, fun q hq j hj => ?_⟩
                  · rw [Nat.zero_add, hrow5.cell hq]
                    simp [List.getD, hq]
                  · exact (hm3.below hbM).row _ (thr_mem (show q < (there L (n + s)).length by omega)).1 j hj
                have hU := refUndo_any _ n _ wr mM
                have hF := HFO.out
                have hc400 : c ≤ 400 := by rw [← HCC.out]; exact hF.1
                have hc1 : 1 ≤ c := by rw [← HCC.out]; exact (thr_mem (show 0 < (there L (n + s)).length by omega)).2
                have HLC : Hid (∀ q, q < n → L (thr L (n + s) q) = c) := fun q hq => by rw [hF.2 q (by omega), HCC.out]
                have hmk := run_make_row' (P := Tryz.prog) 59 5 (.int .u8 0) 1 Tryz.underlying59 Tryz.infoByte rfl .i64 .i64 c (by omega) (by omega)
                clear hownM hrow5 mM hF
                go_wp2_with fail
                refine hU.mono ?_
                rintro e w5 ⟨hh5, b5⟩
                rcases hh5 with ⟨vB, r, rfl, mB, hUnd⟩ | ⟨_, hs⟩
                · have hm5 := (hm3.below hbM).below b5
                  have hu5 := (hu.below hbM).below b5
                  have bw5 := bt hbw3 b5
                  have rB := mB.bd
                  obtain ⟨bB, oB, pB, GB, OB, KB, rfl, hB⟩ := mB.lies
                  have HL5 : Hid (∀ q, q < n → w5.cell? ⟨b, o + thr L (n + s) q, none⟩ = some (.slice (R (thr L (n + s) q)) c (C (thr L (n + s) q))) ∧ ∀ k, k < c → ∃ b' o', R (thr L (n + s) q) = some ⟨b', o', none⟩ ∧ w5.cell? ⟨b', o' + k, none⟩ = some (.int .u8 (f (thr L (n + s) q) k : Nat))) := fun q hq => by
                    obtain ⟨e1, e2⟩ := HC.out _ (thr_mem (show q < (there L (n + s)).length by omega)).1
                    rw [HLC.out q hq] at e1 e2
                    refine ⟨(bw5.cell (p := ⟨b, o + thr L (n + s) q, none⟩) (World.block_lt_of_cell? _ _ e1)).trans e1, fun k hk => ?_⟩
                    obtain ⟨b', o', e3, e4⟩ := e2 k hk
                    exact ⟨b', o', e3, (bw5.cell (p := ⟨b', o' + k, none⟩) (World.block_lt_of_cell? _ _ e4)).trans e4⟩
                  have HUND : Hid (Gf.Und n (fun p => Gf.rowF n (thr L (n + s) p)) r) := hUnd
                  obtain ⟨D, hD⟩ : ∃ D, D = Gf.mm n r (fun p => f (thr L (n + s) p)) := ⟨_, rfl⟩
                  have HDD : Hid (D = Gf.mm n r (fun p => f (thr L (n + s) p))) := hD
                  have bD : Gf.Bd2 D := by rw [hD]; exact Gf.mm_bd rB n _
                  clear hU hUnd hm hm3 hu hbM hbw hbw3 hb b1 b5 mB hD
                  go_wp2_with fail
                  go_loopw [18, 111] (fun v x wr => ∃ i : Nat, i ≤ n + s ∧ x = .int .i64 i ∧ (∃ G2 K2, Acc wr w5.heap.size v i c G2 K2 (Gf.mm n (Gf.rowF n) D)) ∧ Below w5.heap.size w5 wr) (fun _ x _ => (n + s) - (intOf x).toNat)
                  case atStart => exact ⟨0, Nat.zero_le _, rfl, ⟨fun _ => 0, fun _ => 0, Acc.start w5 _ c _ _ _⟩, Below.refl _ _⟩
                  case round =>
                    obtain ⟨i, hiN, rfl, ⟨G2, K2, hA⟩, hbo⟩ := hrel
                    obtain ⟨wo, rfl⟩ : ∃ x, x = wr := ⟨wr, rfl⟩
                    by_cases hiL : i < n + s
                    · have hiL' : (i : Int) < (n : Int) + (s : Int) := by omega
                      go_wp2_with fail
                      clear hmk
                      go_loopw [118] (fun x wm => ∃ k : Nat, k ≤ c ∧ x = .int .i64 k ∧ wm.rowIs wo.heap.size 5 c (fun y => .int .u8 (upto k (Gf.mm n (Gf.rowF n) D i) (fun _ => 0) y : Nat)) ∧ Below wo.heap.size wo wm) (fun x _ => c - (intOf x).toNat)
                      case atStart => exact ⟨0, Nat.zero_le _, rfl, (World.rowIs_made wo (.int .u8 0) c 5).congr (fun j _ => by rw [show upto 0 (Gf.mm n (Gf.rowF n) D i) (fun _ => 0) j = 0 from if_neg (Nat.not_lt_zero _)]; rfl), (Below.refl _ _).alloc (Nat.le_refl _) _⟩
                      case round =>
                        obtain ⟨k, hkc, rfl, hR, hbm⟩ := hrel
                        obtain ⟨wm, rfl⟩ : ∃ x, x = wr := ⟨wr, rfl⟩
                        by_cases hk : k < c
                        · have hk' : (k : Int) < (c : Int) := by omega
                          go_wp2_with fail
                          go_loopw [22] (fun x wi => ∃ j : Nat, j ≤ n ∧ x = .int .i64 j ∧ wi.rowIs wo.heap.size 5 c (fun y => .int .u8 (midR k (Gf.dot j (Gf.rowF n i) (fun l => D l k)) (Gf.mm n (Gf.rowF n) D i) y : Nat)) ∧ Below wo.heap.size wo wi) (fun x _ => n - (intOf x).toNat)
                          case atStart => exact ⟨0, Nat.zero_le _, rfl, hR.congr (fun y _ => by rw [show Gf.dot 0 (Gf.rowF n i) (fun l => D l k) = 0 from rfl, midR_start]), hbm⟩
                          case round =>
                            clear hR hbm
                            obtain ⟨j, hjn, rfl, hJ, hbi⟩ := hrel
                            obtain ⟨wi, rfl⟩ : ∃ x, x = wr := ⟨wr, rfl⟩
                            by_cases hj : j < n
                            · have hj' : (j : Int) < (n : Int) := by omega
                              go_wp2_with fail
                              go_loopw [23, 130] (fun z x wp => ∃ p : Nat, p ≤ n ∧ x = .int .i64 p ∧ z = .int .u8 (Gf.dot p (r j) (fun q => f (thr L (n + s) q) k) : Nat) ∧ wp.rowIs wo.heap.size 5 c (fun y => .int .u8 (midR k (Gf.dot j (Gf.rowF n i) (fun l => D l k)) (Gf.mm n (Gf.rowF n) D i) y : Nat)) ∧ Below wo.heap.size wo wp) (fun _ x _ => n - (intOf x).toNat)
                              case atStart => exact ⟨0, Nat.zero_le _, rfl, rfl, hJ, hbi⟩
                              case round =>
                                clear hJ hbi
                                obtain ⟨p, hp, rfl, rfl, hJ, hbi⟩ := hrel
                                have hb5 := hbo.trans (hbi.mono hbo.size)
                                by_cases hpn : p < n
                                · have hp' : (p : Int) < (n : Int) := by omega
                                  obtain ⟨e1, e2⟩ := HL5.out p hpn
                                  obtain ⟨b', o', e3, e4⟩ := e2 k hk
                                  rw [e3] at e1
                                  have r1 := (hB.below hb5).top j hj
                                  have r2 := (hB.below hb5).row j hj p hpn
                                  have r3 := (hb5.cell (p := ⟨b, o + thr L (n + s) p, none⟩) (World.block_lt_of_cell? _ _ e1)).trans e1
                                  have r4 := (hb5.cell (p := ⟨b', o' + k, none⟩) (World.block_lt_of_cell? _ _ e4)).trans e4
                                  have r5 := (hu5.below hb5).cell (show p < (there L (n + s)).length by omega)
                                  have hth' : (thr L (n + s) p : Int) < (n : Int) + (s : Int) := by have := (thr_mem (show p < (there L (n + s)).length by omega)).1; omega
                                  have hxor := xor_nat (Gf.dot_lt (rB j) (fun q => f (thr L (n + s) q) k) p) (Gf.mul_lt (f (thr L (n + s) p) k) (rB j p))
                                  have HS : Hid (Gf.dot p (r j) (fun q => f (thr L (n + s) q) k) ^^^ Gf.mul (r j p) (f (thr L (n + s) p) k) = Gf.dot (p + 1) (r j) (fun q => f (thr L (n + s) q) k)) := rfl
                                  clear e1 e2 e3 e4
                                  go_wp2_with fail
                                  go_quiet (first | (go_at_call 125; refine Calls.quiet_of_same (refMul_same _ _ _ (rB j p) (bf (thr L (n + s) p) k))))
                                  go_wp2_with fail
                                  exact ⟨⟨p + 1, by omega, by go_num, val_int (by rw [HS.out]), hJ, ⟨hbi.os, hbi.tape, hbi.output, hbi.size, hbi.block⟩⟩, by simp [intOf]; omega⟩
                                · have ep : n = p := by omega
                                  subst ep
                                  have HX : Hid (Gf.dot n (r j) (fun q => f (thr L (n + s) q) k) = D j k) := by rw [HDD.out]; rfl
                                  rw [HX.out]
                                  have u1 := hJ.cell hk
                                  rw [midR_here] at u1
                                  have z1 := hJ.frozen k
                                  have u2 := (hm5.below hb5).top i hiL
                                  have u3 := (hm5.below hb5).row i hiL j hj
                                  rw [Nat.zero_add] at u2 u3
                                  have hxor := xor_nat (Gf.dot_lt (Gf.rowF_bd n i) (fun l => D l k) j) (Gf.mul_lt (D j k) (Gf.rowF_bd n i j))
                                  have HP := midR_step (d' := Gf.dot j (Gf.rowF n i) (fun l => D l k) ^^^ Gf.mul (Gf.rowF n i j) (D j k)) hJ
                                  have hbP := hbi.setCell (p := ⟨wo.heap.size, k, none⟩) (Nat.le_refl _) (.int .u8 ((Gf.dot j (Gf.rowF n i) (fun l => D l k) ^^^ Gf.mul (Gf.rowF n i j) (D j k) : Nat) : Int))
                                  have v1 : ({ wr with drawn := wr.drawn + 1 } : World).cell? ⟨wo.heap.size, k, none⟩ = some (.int .u8 (Gf.dot j (Gf.rowF n i) (fun l => D l k) : Nat)) := u1
                                  have v2 : ({ wr with drawn := wr.drawn + 1 } : World).cell? ⟨g, i, none⟩ = some (.slice (some ⟨G i, 0, none⟩) n (K i)) := u2
                                  have v3 : ({ wr with drawn := wr.drawn + 1 } : World).cell? ⟨G i, j, none⟩ = some (.int .u8 (Gf.rowF n i j : Nat)) := u3
                                  clear hJ
                                  go_wp2_with fail
                                  refine wp_region_still_tail 17 (by kernel_rfl) (by kernel_rfl) ?_
                                  simp only [List.take_succ_cons, List.take_zero, List.drop_succ_cons, List.drop_zero]
                                  iterate 14 still_step
                                  still_call (refMul_same _ _ _ (Gf.rowF_bd n i j) (bD j k))
                                  iterate 2 still_step
                                  refine wpStill_nil ?_
                                  go_wp2_with fail
                                  exact ⟨⟨j + 1, by omega, by go_num, HP.drew, hbP.drew⟩, by simp [intOf]; omega⟩
                            · have ej : n = j := by omega
                              subst ej
                              have HD2 : wi.rowIs wo.heap.size 5 c (fun y => .int .u8 (upto (k + 1) (Gf.mm n (Gf.rowF n) D i) (fun _ => 0) y : Nat)) := hJ.congr (fun y _ => by rw [← midR_done]; rfl)
                              clear hJ
                              go_wp2_with fail
                              exact ⟨⟨k + 1, by omega, by go_num, HD2, hbi⟩, by simp [intOf]; omega⟩
                        · have ek : c = k := by omega
                          subst ek
                          have hF : RowC wm wo.heap.size 5 c (fun y => .int .u8 (Gf.mm n (Gf.rowF n) D i y : Nat)) := rowC_of (hR.congr (fun y hy => by rw [show upto c (Gf.mm n (Gf.rowF n) D i) (fun _ => 0) y = Gf.mm n (Gf.rowF n) D i y from if_pos hy]))
                          have hbX := (Below.refl wm.heap.size wm).alloc (Nat.le_refl _) (.cells #[.slice (some ⟨wo.heap.size, 0, none⟩) c c] 59)
                          have AX := (hA.below hbm).below hbX
                          have rX := hF.alloc (.cells #[.slice (some ⟨wo.heap.size, 0, none⟩) c c] 59)
                          have bX := bt (bt hbo hbm) hbX
                          clear hR hF hA
                          go_wp2_with (at_builtin; refine wpList_append_own _ rfl (.tmp 171) (.tmp 173) 86 rfl w5.heap.size 59 i0 (.slice none 0 0) 1 24 Tryz.underlying86 hi hz0 hz1 hz2 rfl (by decide) _ _ _ rfl AX.own ⟨wm.heap.size, 0, none⟩ 1 1 [.slice (some ⟨wo.heap.size, 0, none⟩) c c] rfl rfl cell_one (by intro u hu; simp at hu; subst hu; rfl) (by unfold maxLen; omega) (by omega) bX.size ?_; intro v1 w6 hown1 hgrow1 _)
                          have A1 := AX.step ⟨hbo.size, rX⟩ hown1 hgrow1
                          have b6 : Below w5.heap.size w5 w6 := bX.grown hgrow1 bX.size (fun x hx => (AX.own.lt x hx).1)
                          clear hown1 hgrow1 AX rX bX hbX hbm
                          go_wp2_with fail
                          exact ⟨⟨i + 1, by omega, by go_num, ⟨_, _, A1⟩, b6⟩, by simp [intOf]; omega⟩
                    · have ei : i = n + s := by omega
                      subst ei
                      have mxs : Mx wo _ (n + s) c (Gf.mm n (Gf.rowF n) D) := hA.mx (Gf.mm_bd (Gf.rowF_bd n) n D) ⟨by omega, by omega, hc1, hc400⟩
                      have HMX : Hid (Mx wo _ (n + s) c (Gf.mm n (Gf.rowF n) D)) := mxs
                      clear hA hmk mxs
                      go_wp2_with fail
                      go_ret2
                      exact ⟨⟨_, r, by rw [HE.out]; rfl, fun _ => ⟨rB, HUND.out⟩, by rw [HE.out, HCC.out, ← HDD.out]; exact Or.inl ⟨rfl, HMX.out⟩⟩, bt bw5 hbo⟩
                · exact (Gf.rows_not_sing (by omega) (fun p hp => by have := (thr_mem (show p < (there L (n + s)).length by omega)).1; omega) (fun p q hp hq hne => thr_inj (by omega) (by omega) hne) hs).elim

/-- What the document's own Mend tells, whatever it is handed. -/
theorem refMendO (v : Value) (N : Nat) (L : Nat → Nat) (f : Nat → Nat → Nat) (d : Int) (w : World) (h : Arg w v N L f) (hN : N ≤ maxLen) :
    Calls Tryz.prog 97 #[v, .int .i64 d] w fun e w' => ∃ v' r, e = .returned (.tuple #[v', .int .i64 (mendE d N L : Nat)]) ∧ (mendE d N L = 0 → Gf.Bd2 r ∧ Gf.Und d.toNat (fun p => Gf.rowF d.toNat (thr L N p)) r) ∧
      Out w' (mendE d N L) v' N (L (thr L N 0)) (Gf.mm d.toNat (Gf.rowF d.toNat) (Gf.mm d.toNat r (fun p => f (thr L N p)))) ∧ Below w.heap.size w w' := by
  obtain ⟨A, cap, R, C, hv, _⟩ := h.lies
  subst hv
  by_cases hw : wrongC d ((N : Int) - d) ≠ 0
  · rw [show mendE d N L = 5 from if_pos hw]
    exact (refMend_bad _ N A cap rfl d w hN hw).mono fun e w' ⟨h1, h2⟩ => ⟨_, f, h1, fun h => absurd h (by decide), Or.inr ⟨Or.inl (by decide), rfl⟩, h2⟩
  · have hw' : ¬ (d < 1 ∨ 8 < d ∨ (N : Int) - d < 0 ∨ 4 < (N : Int) - d) := fun h => hw (by rw [wrongC_bad h]; decide)
    obtain ⟨n, rfl⟩ := Int.eq_ofNat_of_zero_le (show 0 ≤ d by omega)
    obtain ⟨s, rfl⟩ : ∃ s, N = n + s := ⟨N - n, by omega⟩
    exact (refMend_any A cap n s L f w h (by omega) (by omega) (by omega)).mono fun e w' ⟨⟨v', r, h1, h2, h3⟩, h4⟩ => ⟨v', r, h1, h2, h3, h4⟩

end Go.Proofs.YtmcaejooaaahdaaGreat
