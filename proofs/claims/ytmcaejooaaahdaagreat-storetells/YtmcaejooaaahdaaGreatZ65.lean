/-
  Texts of the proof, joined: ERefB.
-/
import Derived.Test.YtmcaejooaaahdaaGreatZ64
namespace Go.Proofs.YtmcaejooaaahdaaGreat
open Go.RowKit

theorem buf_lit (w : World) (N : Nat) (xs : List Nat) (hN : N ≤ w.heap.size) (hl : xs.length ≤ 1000) : BufL (w.alloc (.cells (clB xs).toArray 5)) N (.slice (some ⟨w.heap.size, 0, none⟩) xs.length xs.length) xs :=
  ⟨by simp [clB], .inr ⟨w.heap.size, xs.length, (clB xs).toArray, rfl, hN, Deep.blk_alloc_new _ _, Nat.le_refl _, by unfold maxLen; omega, by simp [clB], by rw [Nat.mul_one]; exact List.take_of_length_le (by simp [clB])⟩⟩
theorem keep2_alloc {w : World} {p : Nat} {a b : Value} {o : Obj} (h : w.cell? ⟨p, 0, none⟩ = some a ∧ w.cell? ⟨p, 1, none⟩ = some b) : (w.alloc o).cell? ⟨p, 0, none⟩ = some a ∧ (w.alloc o).cell? ⟨p, 1, none⟩ = some b :=
  ⟨(World.cell?_alloc_lt _ _ _ (World.block_lt_of_cell? _ _ h.1)).trans h.1, (World.cell?_alloc_lt _ _ _ (World.block_lt_of_cell? _ _ h.2)).trans h.2⟩
theorem keep2_allocd {w : World} {p : Nat} {a b : Value} {o : Obj} (h : w.drew.cell? ⟨p, 0, none⟩ = some a ∧ w.drew.cell? ⟨p, 1, none⟩ = some b) : (w.alloc o).drew.cell? ⟨p, 0, none⟩ = some a ∧ (w.alloc o).drew.cell? ⟨p, 1, none⟩ = some b :=
  keep2_alloc (w := w.drew) h

theorem keep3_alloc {w : World} {p : Nat} {a b c : Value} {o : Obj} (h : w.cell? ⟨p, 0, none⟩ = some a ∧ w.cell? ⟨p, 1, none⟩ = some b ∧ w.cell? ⟨p, 2, none⟩ = some c) : (w.alloc o).cell? ⟨p, 0, none⟩ = some a ∧ (w.alloc o).cell? ⟨p, 1, none⟩ = some b ∧ (w.alloc o).cell? ⟨p, 2, none⟩ = some c :=
  ⟨(World.cell?_alloc_lt _ _ _ (World.block_lt_of_cell? _ _ h.1)).trans h.1, (World.cell?_alloc_lt _ _ _ (World.block_lt_of_cell? _ _ h.2.1)).trans h.2.1, (World.cell?_alloc_lt _ _ _ (World.block_lt_of_cell? _ _ h.2.2)).trans h.2.2⟩
theorem keep3_allocd {w : World} {p : Nat} {a b c : Value} {o : Obj} (h : w.drew.cell? ⟨p, 0, none⟩ = some a ∧ w.drew.cell? ⟨p, 1, none⟩ = some b ∧ w.drew.cell? ⟨p, 2, none⟩ = some c) : (w.alloc o).drew.cell? ⟨p, 0, none⟩ = some a ∧ (w.alloc o).drew.cell? ⟨p, 1, none⟩ = some b ∧ (w.alloc o).drew.cell? ⟨p, 2, none⟩ = some c :=
  keep3_alloc (w := w.drew) h
theorem take_right {l : List Evt.Bat} {k : Nat} (h : ∀ j, j < k → ∃ e, l[j]? = some e ∧ (Evt.wrongB e).1 = 0) : ((l.take k).flatMap Evt.encB).length ≤ l.length * 154 := by
  refine Nat.le_trans (flat_le Evt.encB 154 (l.take k) (fun a ha => ?_)) (Nat.mul_le_mul_right 154 (by simp; omega))
  obtain ⟨j, hj, rfl⟩ := List.mem_iff_getElem.1 ha
  have hj' : j < k ∧ j < l.length := by
    rw [List.length_take] at hj
    omega
  obtain ⟨e, h1, h2⟩ := h j hj'.1
  rw [List.getElem_take]
  rw [List.getElem?_eq_getElem hj'.2, Option.some.injEq] at h1
  rw [h1]
  exact encB_len h2
theorem three_len (n : Nat) : (Evt.three n).length = 3 := rfl

set_option maxHeartbeats 1000000 in
theorem refBytesL_many (v : Value) (l : List Evt.Bat) (w : World) (h : Bats w v l) (hm : 150 < l.length) :
    Calls Tryz.prog 61 #[v] w fun e w' => ∃ v', e = .returned (.tuple #[v', .agg #[.int .i64 ((Evt.wrongL l).1 : Nat), .int .i64 ((Evt.wrongL l).2 : Nat)]]) ∧ BufL w' w.heap.size v' (outL l) ∧ Below w.heap.size w w' := by
  have HW := wrongL_many hm
  rw [outL_no (by rw [HW]; decide), HW]
  obtain ⟨A, C, rfl⟩ := h.shape
  have hl := h.len
  have hm' : (150 : Int) < (l.length : Int) := by omega
  clear h HW
  go_enter Tryz.func61, Tryz.ntmps61
  go_wp2_with fail
  refine bodyPost_ret (v := .tuple #[.slice none 0 0, .agg #[.int .i64 5, .int .i64 0]]) (by simp [results, Tryz.results61, go_sem]) rfl ⟨_, rfl, owns_nil _ _, ?_⟩
  exact (Below.refl _ _).alloc (Nat.le_refl _) _

set_option maxHeartbeats 1000000 in
set_option maxRecDepth 100000 in
theorem refBytesL_few (v : Value) (l : List Evt.Bat) (w : World) (h : Bats w v l) (hm : ¬ 150 < l.length) :
    Calls Tryz.prog 61 #[v] w fun e w' => ∃ v', e = .returned (.tuple #[v', .agg #[.int .i64 ((Evt.wrongL l).1 : Nat), .int .i64 ((Evt.wrongL l).2 : Nat)]]) ∧ BufL w' w.heap.size v' (outL l) ∧ Below w.heap.size w w' := by
  obtain ⟨i1, hi1, hh1⟩ := Option.map_eq_some_iff.1 Tryz.infoByte
  simp only [Prod.mk.injEq] at hh1
  obtain ⟨hy0, hy1, hy2⟩ := hh1
  obtain ⟨A, C, rfl⟩ := h.shape
  have hm' : ¬ (150 : Int) < (l.length : Int) := by omega
  have hm2 : l.length ≤ 150 := by omega
  have HC : Hid (∀ i x, l[i]? = some x → ∃ b o, A = some ⟨b, o, none⟩ ∧ BatIn w b (o + i * 2) x) := bats_at h
  have X0 : Below w.heap.size w (w.alloc (.cells #[.int .i64 0, .int .i64 0] 78)) := (Below.refl _ _).alloc (Nat.le_refl _) _
  have V0 := box_new w #[.int .i64 0, .int .i64 0] 78 (by decide)
  have B0 : BufL ((w.alloc (.cells #[.int .i64 0, .int .i64 0] 78)).alloc (.cells #[.int .u8 (l.length : Int)] 5)) w.heap.size (.slice (some ⟨w.heap.size + 1, 0, none⟩) 1 1) [l.length] := by
    have := buf_lit (w.alloc (.cells #[.int .i64 0, .int .i64 0] 78)) w.heap.size [l.length] X0.size (by simp)
    have sz : (w.alloc (.cells #[.int .i64 0, .int .i64 0] 78)).heap.size = w.heap.size + 1 := by simp
    rw [sz] at this
    exact this
  have X1 : Below w.heap.size w ((w.alloc (.cells #[.int .i64 0, .int .i64 0] 78)).alloc (.cells #[.int .u8 (l.length : Int)] 5)) := X0.alloc X0.size _
  have V0 := V0.off (N := w.heap.size) (OffB.of_below ((Below.refl (w.alloc (.cells #[.int .i64 0, .int .i64 0] 78)).heap.size _).alloc (Nat.le_refl _) (.cells #[.int .u8 (l.length : Int)] 5)))
  clear h X0 hm
  go_enter Tryz.func61, Tryz.ntmps61
  go_wp2_with fail
  generalize (w.alloc (.cells #[.int .i64 0, .int .i64 0] 78)).alloc (.cells #[.int .u8 (l.length : Int)] 5) = W1 at B0 X1 V0 ⊢
  go_loopw [4, 20] (fun y x wr => ∃ k : Nat, k ≤ l.length ∧ x = .int .i64 k ∧ Hid (∀ j, j < k → ∃ e, l[j]? = some e ∧ (Evt.wrongB e).1 = 0) ∧ BufL wr w.heap.size y ([l.length] ++ (l.take k).flatMap Evt.encB) ∧ OffB w.heap.size W1 wr) (fun _ x _ => l.length - (intOf x).toNat)
  case atStart => exact ⟨0, Nat.zero_le _, rfl, (fun j hj => absurd hj (Nat.not_lt_zero j)), by simpa using B0, OffB.refl _ _⟩
  case round =>
    obtain ⟨k, hk, rfl, HS, BR, OR⟩ := hrel
    have hN1 := X1.size
    have hNr := Nat.le_trans hN1 OR.size
    have br := X1.trans (OR.below hN1)
    have VR := V0.off OR
    by_cases hlt : k < l.length
    · have hlt' : (k : Int) < (l.length : Int) := by omega
      obtain ⟨x, hx⟩ : ∃ x, l[k]? = some x := ⟨l[k], List.getElem?_eq_getElem hlt⟩
      have HX : Hid (l[k]? = some x) := hx
      obtain ⟨b, o, rfl, vs0, d00, d10, he⟩ := HC.out k x hx
      have d0 := (br.cell (p := ⟨b, o + k * 2, none⟩) (World.block_lt_of_cell? _ _ d00)).trans d00
      have d1 := (br.cell (p := ⟨b, o + k * 2 + 1, none⟩) (World.block_lt_of_cell? _ _ d10)).trans d10
      obtain ⟨wo, rfl⟩ : ∃ y, y = wr := ⟨wr, rfl⟩
      have bA : Below wo.heap.size wo (wo.alloc (.cells #[.int .i64 x.cmd, vs0] 47)) := (Below.refl _ _).alloc (Nat.le_refl _) _
      have VX := box_new wo #[.int .i64 x.cmd, vs0] 47 (by decide)
      have HW := refWrongB_any x.cmd vs0 x.evs _ (he.below (br.trans (bA.mono hNr)))
      have HQ : Hid (Evt.wrongB ⟨x.cmd, x.evs⟩ = Evt.wrongB x) := rfl
      rw [HQ.out] at HW
      have HEE : Hid (∀ i e, x.evs[i]? = some e → ∃ b' o', (match vs0 with | .slice A' _ _ => A' | _ => none) = some ⟨b', o', none⟩ ∧ EvIn w b' (o' + i * 3) e) := by
        obtain ⟨A', C', hv', _, _, hc'⟩ := he
        subst hv'
        exact hc'
      obtain ⟨As, Cs, rfl⟩ := he.shape
      have HEE : Hid (∀ i e, x.evs[i]? = some e → ∃ b' o', As = some ⟨b', o', none⟩ ∧ EvIn w b' (o' + i * 3) e) := HEE
      clear hx d00 d10
      by_cases hE : (Evt.wrongB x).1 = 0
      · obtain ⟨g1, g2, g3, g4, g5⟩ := Evt.wrongB_inv hE
        have HE0 : Hid ((Evt.wrongB x).1 = 0) := hE
        have HEV : Hid (∀ e, e ∈ x.evs → Evt.wrongE e = 0) := g5
        obtain ⟨c, hc⟩ : ∃ c : Nat, x.cmd = c := ⟨x.cmd.toNat, by omega⟩
        have HCC : Hid (x.cmd = (c : Int)) := hc
        have hc2 : c < 16777216 := by omega
        rw [hc] at d0 HW VX bA
        rw [hE] at HW
        generalize (Evt.wrongB x).2 = y at HW
        clear hE g5 hc g1 g2
        go_upto_region 10 with (first | (go_at_call 59; refine HW.mono ?_; rintro e w1 ⟨rfl, b1⟩; have bF : Below w1.heap.size w1 (w1.alloc (.cells #[.int .i64 0, .int .i64 (y : Nat)] 78)) := (Below.refl _ _).alloc (Nat.le_refl _) _))
        have bB := bt (bt bA b1) bF
        have VX := (VX.off (N := w.heap.size) (OffB.of_below b1)).off (N := w.heap.size) (OffB.of_below bF)
        have A0 : RA (w1.alloc (.cells #[.int .i64 0, .int .i64 (y : Nat)] 78)) (w1.alloc (.cells #[.int .i64 0, .int .i64 (y : Nat)] 78)) w.heap.size u4 ([l.length] ++ (l.take k).flatMap Evt.encB) := ⟨OffB.refl _ _, BR.below bB, Nat.le_trans hNr bB.size⟩
        generalize w1.alloc (.cells #[.int .i64 0, .int .i64 (y : Nat)] 78) = WZ at *
        have HZL : ([l.length] ++ (l.take k).flatMap Evt.encB).length ≤ 100000 := by
          have := take_right HS.out
          rw [List.length_append]
          simp only [List.length_cons, List.length_nil]
          omega
        generalize hbs : [l.length] ++ (l.take k).flatMap Evt.encB = bs at A0 HZL
        have TD : WZ.drew.cell? ⟨wo.heap.size, 0, none⟩ = some (.int .i64 (c : Int)) ∧ WZ.drew.cell? ⟨wo.heap.size, 1, none⟩ = some (.slice As x.evs.length Cs) := ⟨VX.cell 0 _ rfl, VX.cell 1 _ rfl⟩
        have A0 := A0.drew
        have hwr : IntKind.u8.wrap ((x.evs.length : Nat) : Int) = (x.evs.length : Nat) := by rw [IntKind.wrap_u8]; omega
        go_cut [4] from 34 to 44 (fun v' wx => ∃ v5, v' = v5 ∧ RA WZ wx w.heap.size v5 (bs ++ Evt.three c ++ [x.evs.length]))
        case first =>
          go_region_held3 (fun w' => w'.cell? ⟨wo.heap.size, 0, none⟩ = some (.int .i64 (c : Int)) ∧ w'.cell? ⟨wo.heap.size, 1, none⟩ = some (.slice As x.evs.length Cs))
            (first | with_reducible exact TD | with_reducible assumption | with_reducible exact keep2_alloc (by assumption) | with_reducible exact keep2_allocd (by assumption))
            (first | (go_at_call 93; refine (refThree_tmp c _ hc2).mono ?_; rintro e3 w3 ⟨g3, rfl, b3, T3⟩; (first | (have A3 := A0.below b3; have T3 := T3 A0; have S3 := (VX.off (N := w.heap.size) A3.off)) | (have A3 := (A0.alloc (.cells #[.int .u8 (x.evs.length : Int)] 5)).below b3; have L3 := (tmp_new A0 [x.evs.length] (by simp)).below b3; have T3 := T3 (A0.alloc (.cells #[.int .u8 (x.evs.length : Int)] 5)); have S3 := (VX.off (N := w.heap.size) A3.off))); have S3' : w3.cell? ⟨wo.heap.size, 0, none⟩ = some (.int .i64 (c : Int)) ∧ w3.cell? ⟨wo.heap.size, 1, none⟩ = some (.slice As x.evs.length Cs) := ⟨S3.cell 0 _ rfl, S3.cell 1 _ rfl⟩)
                      | (refine app_step rfl (.tmp 34) (.tmp 37) rfl (xs := Evt.three c) rfl rfl (by first | exact A3 | exact A3.alloc _) (by first | exact T3 | exact T3.alloc _) (by simp [Evt.three]; omega) ?_; intro v4 w4 A4 TT4; have S4 := VX.off (N := w.heap.size) A4.off; have S4' : w4.cell? ⟨wo.heap.size, 0, none⟩ = some (.int .i64 (c : Int)) ∧ w4.cell? ⟨wo.heap.size, 1, none⟩ = some (.slice As x.evs.length Cs) := ⟨S4.cell 0 _ rfl, S4.cell 1 _ rfl⟩; (first | (have L4 := TT4 _ _ L3) | (have L4 := TT4 _ _ (tmp_new A3 [x.evs.length] (by simp))) | skip))
                      | (refine app_step rfl (.tmp 38) (.tmp 43) rfl (xs := [x.evs.length]) rfl rfl (by first | exact A4 | exact A4.alloc _) (by first | exact L4 | exact tmp_new A4 [x.evs.length] (by simp)) (by simp [Evt.three]; omega) ?_; intro v5 w5 A5 TT5; have S5 := VX.off (N := w.heap.size) A5.off; have S5' : w5.cell? ⟨wo.heap.size, 0, none⟩ = some (.int .i64 (c : Int)) ∧ w5.cell? ⟨wo.heap.size, 1, none⟩ = some (.slice As x.evs.length Cs) := ⟨S5.cell 0 _ rfl, S5.cell 1 _ rfl⟩))
          all_goals go_wp2_with fail
          all_goals go_meet
          all_goals exact ⟨_, rfl, A5⟩
        case rest =>
          obtain ⟨v5, rfl, A5⟩ := hcut
          obtain ⟨wcc, rfl⟩ : ∃ y, y = wc := ⟨wc, rfl⟩
          have VY := VX.off A5.off
          have c1 := VY.cell 1 _ rfl
          have hN5 := A5.hN
          have B5 := A5.buf
          have bc := br.trans ((bB.mono hNr).trans (A5.off.below (Nat.le_trans hNr bB.size)))
          have OC : Hid (OffB w.heap.size W1 wcc) := OR.trans ((OffB.of_below bB).trans A5.off)
          have L5 : (bs ++ Evt.three c ++ [x.evs.length]).length = bs.length + 4 := by simp [three_len]
          clear A5 TD A0 hwr VX
          go_wp2_with fail
          clear c1
          go_loopw [4, 48] (fun y x' wi => ∃ j : Nat, j ≤ x.evs.length ∧ x' = .int .i64 j ∧ BufL wi w.heap.size y (bs ++ Evt.three c ++ [x.evs.length] ++ (x.evs.take j).flatMap Evt.encE) ∧ OffB w.heap.size wcc wi) (fun _ x' _ => x.evs.length - (intOf x').toNat)
          case atStart => exact ⟨0, Nat.zero_le _, rfl, by simpa using B5, OffB.refl _ _⟩
          case round =>
            obtain ⟨j, hj, rfl, BI, OI⟩ := hrel
            have hNi := Nat.le_trans hN5 OI.size
            have bi := bc.trans (OI.below hN5)
            by_cases hjl : j < x.evs.length
            · have hjl' : (j : Int) < (x.evs.length : Int) := by omega
              obtain ⟨ev, hev⟩ : ∃ ev, x.evs[j]? = some ev := ⟨x.evs[j], List.getElem?_eq_getElem hjl⟩
              have hwe := HEV.out ev (List.mem_of_getElem? hev)
              obtain ⟨⟨_, _, n3⟩, k1, k2, m1, m2⟩ := Evt.wrongE_inv hwe
              have HT : Hid ((x.evs.take (j + 1)).flatMap Evt.encE = (x.evs.take j).flatMap Evt.encE ++ Evt.encE ev) := take_flat Evt.encE x.evs j ev hev
              have HZ : ((x.evs.take j).flatMap Evt.encE).length ≤ x.evs.length * 15 := take_len_le Evt.encE 15 j x.evs (fun e he => encE_len (HEV.out e he))
              obtain ⟨be, oe, rfl, s, hs1, hs2, d00, d10, d20⟩ := HEE.out j ev hev
              have e0 := (bi.cell (p := ⟨be, oe + j * 3, none⟩) (World.block_lt_of_cell? _ _ d00)).trans d00
              have e1 := (bi.cell (p := ⟨be, oe + j * 3 + 1, none⟩) (World.block_lt_of_cell? _ _ d10)).trans d10
              have e2 := (bi.cell (p := ⟨be, oe + j * 3 + 2, none⟩) (World.block_lt_of_cell? _ _ d20)).trans d20
              obtain ⟨kn, hkn⟩ : ∃ kn : Nat, ev.kind = kn := ⟨ev.kind.toNat, by omega⟩
              obtain ⟨mn, hmn⟩ : ∃ mn : Nat, ev.num = mn := ⟨ev.num.toNat, by omega⟩
              rw [hkn] at e1
              rw [hmn] at e2
              have hsz : s.size ≤ 10 := by rw [← nb_len, hs2]; exact n3
              have hkb : kn ≤ 4 := by omega
              have hmb : mn < 16777216 := by omega
              have HEN : Hid (Evt.encE ev = [s.size] ++ nb s ++ [kn] ++ Evt.three mn) := by
                show Evt.encE ev = _
                unfold Evt.encE
                rw [← hs2, nb_len, hkn, hmn]
                simp
              obtain ⟨wj, rfl⟩ : ∃ y, y = wr := ⟨wr, rfl⟩
              have bE : Below wj.heap.size wj (wj.alloc (.cells #[.string s, .int .i64 (kn : Int), .int .i64 (mn : Int)] 83)) := (Below.refl _ _).alloc (Nat.le_refl _) _
              have VE := box_new wj #[.string s, .int .i64 (kn : Int), .int .i64 (mn : Int)] 83 (by decide)
              have AI : RA (wj.alloc (.cells #[.string s, .int .i64 (kn : Int), .int .i64 (mn : Int)] 83)) (wj.alloc (.cells #[.string s, .int .i64 (kn : Int), .int .i64 (mn : Int)] 83)) w.heap.size u4 (bs ++ Evt.three c ++ [x.evs.length] ++ (x.evs.take j).flatMap Evt.encE) := ⟨OffB.refl _ _, BI.below bE, Nat.le_trans hNi bE.size⟩
              have HLB : (bs ++ Evt.three c ++ [x.evs.length] ++ (x.evs.take j).flatMap Evt.encE).length ≤ 200000 ∧ 4 ≤ (bs ++ Evt.three c ++ [x.evs.length] ++ (x.evs.take j).flatMap Evt.encE).length := by
                rw [List.length_append, L5]
                omega
              obtain ⟨bj, hbj⟩ : ∃ bj, Hid (bs ++ Evt.three c ++ [x.evs.length] ++ (x.evs.take j).flatMap Evt.encE = bj) := ⟨_, rfl⟩
              rw [hbj.out] at AI HLB
              clear hev hwe d00 d10 d20 hkn hmn BI HZ k1 k2 m1 m2 n3 hs2
              have TL := tmp_new AI [s.size] (by simp)
              have szE : (wj.alloc (.cells #[.string s, .int .i64 (kn : Int), .int .i64 (mn : Int)] 83)).heap.size = wj.heap.size + 1 := by simp
              rw [szE] at TL
              have AL := AI.alloc (.cells (clB [s.size]).toArray 5)
              have hbl : (bj ++ [s.size]).length = bj.length + 1 := by simp
              have hszI : (s.size : Int) ≤ 10 := by omega
              go_upto_region 15 with (at_builtin; go_loud (refine wpList_append_own_at _ rfl (.tmp 52) (.tmp 57) 59 rfl w.heap.size 5 i1 (.int .u8 0) 1 1 Tryz.underlying59 hi1 hy0 hy1 hy2 rfl (by decide) _ _ _ rfl AL.buf ⟨wj.heap.size + 1, 0, none⟩ 1 1 (clB [s.size]) rfl rfl TL.cells (clB_one _) (by unfold maxLen; omega) (by omega) AL.hN ?_; intro v6 w6 hown6 hgrow6 _ _))
              have A6 : RA (wj.alloc (.cells #[.string s, .int .i64 (kn : Int), .int .i64 (mn : Int)] 83)) w6 w.heap.size v6 (bj ++ [s.size]) := ⟨AL.off.trans (OffB.grown AL.buf hgrow6), BufL.more hown6 rfl rfl, Nat.le_trans AL.hN hgrow6.size⟩
              have VE6 := VE.off A6.off
              have O6 : Hid (OffB w.heap.size wj w6) := (OffB.of_below bE).trans A6.off
              have AC : RA w6 w6.drew w.heap.size v6 (bj ++ [s.size]) := (RA.mk (OffB.refl _ _) A6.buf A6.hN).drew
              have TD : w6.drew.cell? ⟨wj.heap.size, 0, none⟩ = some (.string s) ∧ w6.drew.cell? ⟨wj.heap.size, 1, none⟩ = some (.int .i64 (kn : Int)) ∧ w6.drew.cell? ⟨wj.heap.size, 2, none⟩ = some (.int .i64 (mn : Int)) := ⟨VE6.cell 0 _ rfl, VE6.cell 1 _ rfl, VE6.cell 2 _ rfl⟩
              have hwk : IntKind.u8.wrap ((kn : Nat) : Int) = (kn : Nat) := by rw [IntKind.wrap_u8]; omega
              have hLB1 : bj.length ≤ 200000 := HLB.1
              have hLB2 : 4 ≤ bj.length := HLB.2
              clear hown6 hgrow6 AL TL szE AI A6 VE
              go_region_held3 (fun w' => w'.cell? ⟨wj.heap.size, 0, none⟩ = some (.string s) ∧ w'.cell? ⟨wj.heap.size, 1, none⟩ = some (.int .i64 (kn : Int)) ∧ w'.cell? ⟨wj.heap.size, 2, none⟩ = some (.int .i64 (mn : Int)))
                (first | with_reducible exact TD | with_reducible assumption | with_reducible exact keep3_alloc (by assumption) | with_reducible exact keep3_allocd (by assumption))
                (first | (go_at_call 93; refine (refThree_tmp mn _ hmb).mono ?_; rintro e7 w7 ⟨g7, rfl, b7, T7⟩; (first | (have LT := LT.below b7) | (have LT := (tmp_new AC [kn] (by simp)).below b7) | skip); (first | (have TT := T7 AC) | (have TT := T7 (AC.alloc (.cells #[.int .u8 (kn : Int)] 5)))); (first | (have AC := AC.below b7) | (have AC := (AC.alloc (.cells #[.int .u8 (kn : Int)] 5)).below b7)); have SX := VE6.off (N := w.heap.size) AC.off; have SX' : w7.cell? ⟨wj.heap.size, 0, none⟩ = some (.string s) ∧ w7.cell? ⟨wj.heap.size, 1, none⟩ = some (.int .i64 (kn : Int)) ∧ w7.cell? ⟨wj.heap.size, 2, none⟩ = some (.int .i64 (mn : Int)) := ⟨SX.cell 0 _ rfl, SX.cell 1 _ rfl, SX.cell 2 _ rfl⟩)
                          | (refine app_step_str rfl (.tmp 59) (.tmp 61) rfl rfl rfl (by first | exact AC | exact AC.alloc _) (by omega) (by omega) ?_; intro v8 w8 AD TR; (first | (have LT := TR _ _ LT) | (have LT := TR _ _ (tmp_new AC [kn] (by simp))) | skip); (first | (have TT := TR _ _ TT) | (have TT := TR _ _ (TT.alloc _)) | skip); have AC := AD; have SX := VE6.off (N := w.heap.size) AC.off; have SX' : w8.cell? ⟨wj.heap.size, 0, none⟩ = some (.string s) ∧ w8.cell? ⟨wj.heap.size, 1, none⟩ = some (.int .i64 (kn : Int)) ∧ w8.cell? ⟨wj.heap.size, 2, none⟩ = some (.int .i64 (mn : Int)) := ⟨SX.cell 0 _ rfl, SX.cell 1 _ rfl, SX.cell 2 _ rfl⟩)
                          | (refine app_step rfl (.tmp 62) (.tmp 66) rfl (xs := [kn]) rfl rfl (by first | exact AC | exact AC.alloc _) (by first | exact LT | exact tmp_new AC [kn] (by simp)) (by simp only [List.length_append, nb_len, List.length_cons, List.length_nil]; omega) ?_; intro v9 w9 AD TR; (first | (have LT := TR _ _ LT) | (have LT := TR _ _ (tmp_new AC [kn] (by simp))) | skip); (first | (have TT := TR _ _ TT) | (have TT := TR _ _ (TT.alloc _)) | skip); have AC := AD; have SX := VE6.off (N := w.heap.size) AC.off; have SX' : w9.cell? ⟨wj.heap.size, 0, none⟩ = some (.string s) ∧ w9.cell? ⟨wj.heap.size, 1, none⟩ = some (.int .i64 (kn : Int)) ∧ w9.cell? ⟨wj.heap.size, 2, none⟩ = some (.int .i64 (mn : Int)) := ⟨SX.cell 0 _ rfl, SX.cell 1 _ rfl, SX.cell 2 _ rfl⟩)
                          | (refine app_step rfl (.tmp 67) (.tmp 70) rfl (xs := Evt.three mn) rfl rfl (by first | exact AC | exact AC.alloc _) (by first | exact TT | exact TT.alloc _) (by simp only [List.length_append, nb_len, List.length_cons, List.length_nil, three_len]; omega) ?_; intro v10 w10 AD TR; (first | (have LT := TR _ _ LT) | (have LT := TR _ _ (tmp_new AC [kn] (by simp))) | skip); (first | (have TT := TR _ _ TT) | (have TT := TR _ _ (TT.alloc _)) | skip); have AC := AD; have SX := VE6.off (N := w.heap.size) AC.off; have SX' : w10.cell? ⟨wj.heap.size, 0, none⟩ = some (.string s) ∧ w10.cell? ⟨wj.heap.size, 1, none⟩ = some (.int .i64 (kn : Int)) ∧ w10.cell? ⟨wj.heap.size, 2, none⟩ = some (.int .i64 (mn : Int)) := ⟨SX.cell 0 _ rfl, SX.cell 1 _ rfl, SX.cell 2 _ rfl⟩))
              all_goals
                have HBB : Hid (BufL w10 w.heap.size v10 (bs ++ Evt.three c ++ [x.evs.length] ++ (x.evs.take (j + 1)).flatMap Evt.encE)) := by
                  have q := AC.buf
                  show BufL w10 w.heap.size v10 _
                  rw [HT.out, HEN.out, ← List.append_assoc, hbj.out]
                  simpa [List.append_assoc] using q
                have HOO : Hid (OffB w.heap.size wcc w10) := OI.trans (O6.out.trans AC.off)
                clear AC TD
                go_wp2_with fail
                exact ⟨⟨j + 1, by omega, by go_num, HBB.out, HOO.out⟩, by simp [intOf]; omega⟩
            · obtain rfl : j = x.evs.length := by omega
              have HBB : Hid (BufL wr w.heap.size u4 ([l.length] ++ (l.take (k + 1)).flatMap Evt.encB)) := by
                have q := BI
                rw [List.take_length] at q
                have e : bs ++ Evt.three c ++ [x.evs.length] ++ x.evs.flatMap Evt.encE = [l.length] ++ (l.take (k + 1)).flatMap Evt.encB := by
                  rw [take_flat Evt.encB l k x HX.out, ← List.append_assoc, hbs]
                  unfold Evt.encB
                  rw [HCC.out]
                  simp
                rw [e] at q
                exact q
              have HOO : Hid (OffB w.heap.size W1 wr) := OC.out.trans OI
              have HSS : Hid (∀ j, j < k + 1 → ∃ e, l[j]? = some e ∧ (Evt.wrongB e).1 = 0) := fun j hj => by
                by_cases e : j = k
                · rw [e]; exact ⟨x, HX.out, HE0.out⟩
                · exact HS.out j (by omega)
              clear BI
              go_wp2_with fail
              exact ⟨⟨k + 1, by omega, by go_num, HSS.out, HBB.out, HOO.out⟩, by simp [intOf]; omega⟩
      · have HE1 : Hid (Evt.wrongL l = ((Evt.wrongB x).1, k)) := by
          show Evt.wrongL l = _
          rw [wrongL_else (by omega)]
          exact Evt.firstB_some l k x HX.out hE HS.out
        have HO1 : Hid (outL l = []) := outL_no (by rw [HE1.out]; exact hE)
        generalize (Evt.wrongB x).1 = x1 at HW HE1 hE
        generalize (Evt.wrongB x).2 = y at HW
        have hx' : ((x1 : Int) == 0) = false := by rw [beq_eq_false_iff_ne]; omega
        have hxn : ((x1 : Int) != 0) = true := by rw [bne, hx']; rfl
        clear hE
        go_wp2_with fail
        refine HW.mono ?_
        rintro e w1 ⟨rfl, b1⟩
        have bF : Below w1.heap.size w1 (w1.alloc (.cells #[.int .i64 (x1 : Nat), .int .i64 (y : Nat)] 78)) := (Below.refl _ _).alloc (Nat.le_refl _) _
        have bB := bt (bt bA b1) bF
        have VZ := VR.off (N := w.heap.size) (OffB.of_below bB)
        have c0 := VZ.cell 0 _ rfl
        have c1 := VZ.cell 1 _ rfl
        have f0 := VZ.frozen 0
        have f1 := VZ.frozen 1
        have bz := br.trans (bB.mono hNr)
        clear HW
        go_wp2_with fail
        go_region
        go_wp2_with fail
        refine bodyPost_ret (v := .tuple #[.slice none 0 0, .agg #[.int .i64 (x1 : Nat), .int .i64 (k : Nat)]]) (by simp [results, Tryz.results61, go_sem, c0, c1]) rfl ⟨_, by rw [HE1.out], by rw [HO1.out]; exact owns_nil _ _, ?_⟩
        exact ((bz.setCell (Nat.le_refl _) _).setCell (Nat.le_refl _) _).drew
    · obtain rfl : k = l.length := by omega
      have HWL : (Evt.wrongL l).1 = 0 ∧ (Evt.wrongL l).2 = 0 := by
        rw [wrongL_else (by omega), Evt.firstB_none l 0 (fun e he => by
          obtain ⟨j, hj, rfl⟩ := List.mem_iff_getElem.1 he
          obtain ⟨e', h1, h2⟩ := HS.out j hj
          rw [List.getElem?_eq_getElem hj, Option.some.injEq] at h1
          rw [h1]
          exact h2)]
        exact ⟨rfl, rfl⟩
      have HB : BufL wr w.heap.size u4 (outL l) := by
        have q := BR
        rw [List.take_length] at q
        rw [outL_ok HWL.1]
        exact q
      have HWH : Hid ((Evt.wrongL l).1 = 0 ∧ (Evt.wrongL l).2 = 0) := HWL
      have c0 := VR.cell 0 _ rfl
      have c1 := VR.cell 1 _ rfl
      have f0 := VR.frozen 0
      have f1 := VR.frozen 1
      clear BR OR HWL
      go_wp2_with fail
      refine bodyPost_ret (v := .tuple #[u4, .agg #[.int .i64 0, .int .i64 0]]) (by simp [results, Tryz.results61, go_sem, c0, c1]) rfl ⟨_, by rw [HWH.out.1, HWH.out.2]; rfl, ?_, ?_⟩
      · refine BufL.off (S := fun k => k = w.heap.size) HB (((Off.refl (fun k => k = w.heap.size) _).set (p := ⟨w.heap.size, 0, none⟩) rfl _).set (p := ⟨w.heap.size, 1, none⟩) rfl _) (fun g hg e => ?_)
        obtain ⟨c, hc⟩ := owns_heap HB hg
        rw [e, VR.hp] at hc
        cases hc
      · exact (br.setCell (Nat.le_refl _) _).setCell (Nat.le_refl _) _

/-- The document's own Bytes of whatever batches. -/
theorem refBytesL_any (v : Value) (l : List Evt.Bat) (w : World) (h : Bats w v l) :
    Calls Tryz.prog 61 #[v] w fun e w' => ∃ v', e = .returned (.tuple #[v', .agg #[.int .i64 ((Evt.wrongL l).1 : Nat), .int .i64 ((Evt.wrongL l).2 : Nat)]]) ∧ BufL w' w.heap.size v' (outL l) ∧ Below w.heap.size w w' := by
  by_cases hm : 150 < l.length
  · exact refBytesL_many v l w h hm
  · exact refBytesL_few v l w h hm

end Go.Proofs.YtmcaejooaaahdaaGreat
