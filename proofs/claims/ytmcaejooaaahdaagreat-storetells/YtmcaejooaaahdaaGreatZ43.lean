/-
  Texts of the proof, joined: HPut.
-/
import Derived.Test.YtmcaejooaaahdaaGreatZ42
namespace Go.Proofs.YtmcaejooaaahdaaGreat
open Go.RowKit

section
variable {N R D : Nat} {F E : Nat → Prop} {c : Sto.Cfg} {s : Sto.St} {V : Nat → Value} {U : Nat → List HeC} {vt vs va : Value} {tc : List (Int × Sl)} {X : Sto.Six}
set_option maxHeartbeats 8000000 in
set_option maxRecDepth 100000 in
theorem put_any (hX : Sto.SixOk X) (w : World) (h : StP w N R F E c s D V U vt vs va tc) (d : Sto.Do) (ve : Value) (t : ByteArray) (hd : DoIn w d ve t) (hNw : N ≤ w.heap.size) :
    Calls Tryz.prog 17 #[.pointer (some ⟨R, 0, none⟩), .agg (doCells d ve t).toArray] w fun e w' => DoO e w w' N R F E c (Sto.put X c s d) := by
  obtain ⟨A, C, rfl⟩ := hd.evs.shape
  show Calls Tryz.prog 17 #[.pointer (some ⟨R, 0, none⟩), .agg #[.int .i64 d.kind, .int .i64 d.n, .int .i64 d.seg, .int .i64 d.pos, .int .u8 (d.turn : Int), .int .i64 d.bat.cmd, .slice A d.bat.evs.length C, .string t, .int .i64 d.ver]] w fun e w' => DoO e w w' N R F E c (Sto.put X c s d)
  have HPW : PW w ((w.alloc (.cells #[.int .i64 d.kind, .int .i64 d.n, .int .i64 d.seg, .int .i64 d.pos, .int .u8 (d.turn : Int), .int .i64 d.bat.cmd, .slice A d.bat.evs.length C, .string t, .int .i64 d.ver] 49)).alloc (.cells (ansC 0 0) 42)) N R F E c s D V U vt vs va tc d (.slice A d.bat.evs.length C) t := pw_start h hd
  have HX : Hid (Sto.SixOk X) := hX
  have HNW : Hid (N ≤ w.heap.size) := hNw
  have HPT : Hid (Sto.put X c s d = if (Evt.wrongB d.bat).1 ≠ 0 then (s, Sto.no (Evt.wrongB d.bat).1) else if d.bat.cmd ∈ s.seen then (s, Sto.told s.u) else if 0 ≤ d.ver ∧ d.ver ≠ (Vw.get s.acc d.name).cnt then (s, Sto.no 11) else if (Vw.fold s.u s.acc d.bat.evs).1.1 ≠ 0 then (s, Sto.no (Vw.fold s.u s.acc d.bat.evs).1.1) else if (Sto.laid X c s d.bat (Vw.fold s.u s.acc d.bat.evs).2).1 ≠ 0 then (s, Sto.no (Sto.laid X c s d.bat (Vw.fold s.u s.acc d.bat.evs).2).1) else ((Sto.laid X c s d.bat (Vw.fold s.u s.acc d.bat.evs).2).2, Sto.told (Vw.fold s.u s.acc d.bat.evs).2.1)) := rfl
  clear h hd hX hNw
  go_enter Tryz.func17, Tryz.ntmps17
  go_upto_region 1 with fail
  generalize (w.alloc (.cells #[.int .i64 d.kind, .int .i64 d.n, .int .i64 d.seg, .int .i64 d.pos, .int .u8 (d.turn : Int), .int .i64 d.bat.cmd, .slice A d.bat.evs.length C, .string t, .int .i64 d.ver] 49)).alloc (.cells (ansC 0 0) 42) = w2 at HPW ⊢
  have d5 : w2.cell? ⟨w.heap.size, 5, none⟩ = some (.int .i64 d.bat.cmd) := HPW.vd.cell (i := 5) rfl
  have d6 : w2.cell? ⟨w.heap.size, 6, none⟩ = some (.slice A d.bat.evs.length C) := HPW.vd.cell (i := 6) rfl
  have HW := wrongB_any d.bat.cmd (.slice A d.bat.evs.length C) d.bat.evs w2 HPW.din.evs
  have HW : Calls Tryz.prog 41 #[.agg #[.int .i64 d.bat.cmd, .slice A d.bat.evs.length C]] w2 fun e w' => e = .returned (.agg #[.int .i64 ((Evt.wrongB d.bat).1 : Nat), .int .i64 ((Evt.wrongB d.bat).2 : Nat)]) ∧ Below w2.heap.size w2 w' := HW
  obtain ⟨x, hx⟩ : ∃ x, x = (Evt.wrongB d.bat).1 := ⟨_, rfl⟩
  obtain ⟨y, hy⟩ : ∃ y, y = (Evt.wrongB d.bat).2 := ⟨_, rfl⟩
  have HXX : Hid (x = (Evt.wrongB d.bat).1) := hx
  rw [← hx, ← hy] at HW
  clear hx hy
  go_upto_region 2 with (first | (go_at_call 41; refine HW.mono ?_; rintro e3 w3 ⟨rfl, b3⟩))
  have bA : Below w3.heap.size w3 (w3.alloc (.cells #[.int .i64 (x : Nat), .int .i64 (y : Nat)] 78)) := (Below.refl _ _).alloc (Nat.le_refl _) _
  have g0 := (varN_new w3 #[.int .i64 (x : Nat), .int .i64 (y : Nat)] 78).cell (i := 0) rfl
  have HP4 := HPW.below (bt b3 bA)
  generalize w3.alloc (.cells #[.int .i64 (x : Nat), .int .i64 (y : Nat)] 78) = w4 at *
  clear HW HPW d5 d6 b3 bA
  by_cases hx0 : x = 0
  case neg =>
    have HR : Hid (∀ w', Off (fun k => k = w.heap.size + 1) w4 w' → DoO (.returned (ansVal (x : Nat) 0)) w w' N R F E c (Sto.put X c s d)) := fun w' ho => by
      rw [HPT.out, if_pos (by rw [← HXX.out]; exact hx0), ← HXX.out]
      exact HP4.same ho x 0
    have b0 := HP4.va.cell (i := 0) rfl
    have b1 := HP4.va.cell (i := 1) rfl
    have b2 := HP4.va.cell (i := 2) rfl
    have b3 := HP4.va.cell (i := 3) rfl
    have b4 := HP4.va.cell (i := 4) rfl
    have f0 := HP4.va.frozen 0
    have f1 := HP4.va.frozen 1
    have f2 := HP4.va.frozen 2
    have f3 := HP4.va.frozen 3
    have f4 := HP4.va.frozen 4
    have hxn : ((x : Int) != 0) = true := by rw [bne_iff_ne]; omega
    clear hx0 HP4
    go_wp2_with fail
    refine bodyPost_ret (v := ansVal (x : Nat) 0) (by simp [results, Tryz.results17, go_sem, b0, b1, b2, b3, b4]) rfl ?_
    exact HR.out _ (off_five _ _ _ _ _ _ _)
  case pos =>
    have hxn : ((x : Int) != 0) = false := by rw [bne_eq_false_iff_eq]; omega
    have HW0 : Hid ((Evt.wrongB d.bat).1 = 0) := by
      show (Evt.wrongB d.bat).1 = 0
      rw [← HXX.out]
      exact hx0
    have hr := HP4.st.wf.right
    have hul := hr.hi
    have hsl : s.seen.length ≤ 150 := by
      have := HP4.st.wf.cmds
      omega
    have HSL : Hid (s.seen.length ≤ 150) := hsl
    have c6 := HP4.st.var.cell (i := 6) rfl
    have d5 : w4.cell? ⟨w.heap.size, 5, none⟩ = some (.int .i64 d.bat.cmd) := HP4.vd.cell (i := 5) rfl
    have HSK := seekN_any d.bat.cmd vs s.seen w4.drew (insIn_of (owns_below HP4.st.seen (Below.refl _ _).drew)) HP4.st.wf.up (by omega)
    obtain ⟨i, hi⟩ : ∃ i, i = Sto.below d.bat.cmd s.seen := ⟨_, rfl⟩
    obtain ⟨yb, hyb⟩ : ∃ yb, yb = decide (d.bat.cmd ∈ s.seen) := ⟨_, rfl⟩
    have HCUT : Hid (CutI s.seen d.bat.cmd i) := by
      show CutI s.seen d.bat.cmd i
      rw [hi]
      exact cut_below HP4.st.wf.up
    have HMEM : Hid (yb = true ↔ d.bat.cmd ∈ s.seen) := by
      show yb = true ↔ d.bat.cmd ∈ s.seen
      rw [hyb, decide_eq_true_iff]
    rw [← hi, ← hyb] at HSK
    have TD : w4.drew.cell? ⟨R, 6, none⟩ = some vs ∧ w4.drew.cell? ⟨w.heap.size, 5, none⟩ = some (.int .i64 d.bat.cmd) := ⟨c6, d5⟩
    have HP4d := HP4.below (Below.refl _ _).drew
    clear hx0 hr hul hsl hi hyb HP4 c6 d5
    go_wp2_with fail
    go_region_held3 (fun w' => w'.cell? ⟨R, 6, none⟩ = some vs ∧ w'.cell? ⟨w.heap.size, 5, none⟩ = some (.int .i64 d.bat.cmd))
      (first | with_reducible exact TD | with_reducible assumption)
      (first | (go_at_call 42; refine HSK.mono ?_; rintro e5 w5 ⟨rfl, b5⟩; have S5 := keepB b5 TD))
    have HP5 := HP4d.below b5
    clear HSK TD S5 b5 g0 HP4d
    cases yb with
    | true =>
      have HR : Hid (∀ w', Off (fun k => k = w.heap.size + 1) w5 w' → DoO (.returned (ansVal 0 s.u)) w w' N R F E c (Sto.put X c s d)) := fun w' ho => by
        rw [HPT.out, if_neg (fun z => z HW0.out), if_pos (HMEM.out.1 rfl)]
        exact HP5.same ho 0 s.u
      have b0 := HP5.va.cell (i := 0) rfl
      have b1 := HP5.va.cell (i := 1) rfl
      have b2 := HP5.va.cell (i := 2) rfl
      have b3 := HP5.va.cell (i := 3) rfl
      have b4 := HP5.va.cell (i := 4) rfl
      have f0 := HP5.va.frozen 0
      have f1 := HP5.va.frozen 1
      have f2 := HP5.va.frozen 2
      have f3 := HP5.va.frozen 3
      have f4 := HP5.va.frozen 4
      have c7 := HP5.st.var.cell (i := 7) rfl
      clear HP5
      go_wp2_with fail
      refine bodyPost_ret (v := ansVal 0 s.u) (by simp [results, Tryz.results17, go_sem, b0, b1, b2, b3, b4]) rfl ?_
      exact HR.out _ (off_five _ _ _ _ _ _ _)
    | false =>
      have HNM : Hid (d.bat.cmd ∉ s.seen) := fun z => absurd (HMEM.out.2 z) (by decide)
      obtain ⟨old, hold⟩ : ∃ old : Bool, old = decide (0 ≤ d.ver ∧ d.ver ≠ (Vw.get s.acc d.name).cnt) := ⟨_, rfl⟩
      have HOLD : Hid (old = decide (0 ≤ d.ver ∧ d.ver ≠ (Vw.get s.acc d.name).cnt)) := hold
      have c7 := HP5.st.var.cell (i := 7) rfl
      have c8 := HP5.st.var.cell (i := 8) rfl
      have e7 : w5.cell? ⟨w.heap.size, 7, none⟩ = some (.string t) := HP5.vd.cell (i := 7) rfl
      have e8 : w5.cell? ⟨w.heap.size, 8, none⟩ = some (.int .i64 d.ver) := HP5.vd.cell (i := 8) rfl
      obtain ⟨Aa, Ca, hva⟩ := HP5.st.acc.1.shape
      subst hva
      have HGT := get_any s.u t (.slice Aa s.acc.length Ca) s.acc w5.drew (HP5.st.acc.1.below (Below.refl _ _).drew) HP5.din.sz
      rw [HP5.din.name] at HGT
      unfold GetO AcV at HGT
      clear HMEM HW hold
      go_upto_region 7 with fail
      go_cut [56] from 40 to 56 (fun v56 wx => v56 = .bool old ∧ PW w wx N R F E c s D V U vt vs (.slice Aa s.acc.length Ca) tc d (.slice A d.bat.evs.length C) t)
      case first =>
        by_cases hv : 0 ≤ d.ver
        · have HOB : Hid (old = ((Vw.get s.acc d.name).cnt != d.ver)) := by
            show old = ((Vw.get s.acc d.name).cnt != d.ver)
            rw [HOLD.out]
            by_cases q : d.ver = (Vw.get s.acc d.name).cnt
            · rw [decide_eq_false (fun z => z.2 q), q]
              simp
            · rw [decide_eq_true ⟨hv, q⟩]
              exact (bne_iff_ne.2 fun z => q z.symm).symm
          have hvd : decide (d.ver ≥ 0) = true := decide_eq_true hv
          have TD : w5.drew.cell? ⟨R, 7, none⟩ = some (.int .i64 s.u) ∧ w5.drew.cell? ⟨R, 8, none⟩ = some (.slice Aa s.acc.length Ca) ∧ w5.drew.cell? ⟨w.heap.size, 7, none⟩ = some (.string t) ∧ w5.drew.cell? ⟨w.heap.size, 8, none⟩ = some (.int .i64 d.ver) ∧ Below w5.heap.size w5 w5.drew := ⟨c7, c8, e7, e8, (Below.refl _ _).drew⟩
          have hfc := fun s2 a2 o2 w' => field_acc2 s2 a2 (Vw.get s.acc d.name).cnt o2 w'
          generalize (Vw.get s.acc d.name).cnt = cn at HOB HGT hfc
          go_region_held3 (fun w' => w'.cell? ⟨R, 7, none⟩ = some (.int .i64 s.u) ∧ w'.cell? ⟨R, 8, none⟩ = some (.slice Aa s.acc.length Ca) ∧ w'.cell? ⟨w.heap.size, 7, none⟩ = some (.string t) ∧ w'.cell? ⟨w.heap.size, 8, none⟩ = some (.int .i64 d.ver) ∧ Below w5.heap.size w5 w')
            (first | with_reducible exact TD | with_reducible assumption)
            (first | (go_at_call 43; refine HGT.mono ?_; rintro e6 w6 ⟨⟨v6, rfl, s6, _, _, rfl⟩, b6⟩; have S6 := keepF b6 TD))
          go_wp2_with fail
          go_meet
          exact ⟨by rw [HOB.out], HP5.below S6.2.2.2.2⟩
        · have hvd : decide (d.ver ≥ 0) = false := decide_eq_false hv
          have hold : old = false := by
            rw [HOLD.out]
            exact decide_eq_false fun z => hv z.1
          subst hold
          clear HGT
          go_quiet (fail)
          go_wp2_with fail
          go_meet
          exact ⟨rfl, HP5.below (bdn (Below.refl _ _) _)⟩
      case rest =>
        obtain ⟨rfl, HP6⟩ := hcut
        obtain ⟨w6, hw6⟩ : ∃ y, y = wc := ⟨wc, rfl⟩
        rw [← hw6] at HP6 ⊢
        clear hw6 HP5 HGT c7 c8 e7 e8
        cases old with
        | true =>
          have HR : Hid (∀ w', Off (fun k => k = w.heap.size + 1) w6 w' → DoO (.returned (ansVal 11 0)) w w' N R F E c (Sto.put X c s d)) := fun w' ho => by
            rw [HPT.out, if_neg (fun z => z HW0.out), if_neg HNM.out, if_pos (of_decide_eq_true HOLD.out.symm)]
            exact HP6.same ho 11 0
          have b0 := HP6.va.cell (i := 0) rfl
          have b1 := HP6.va.cell (i := 1) rfl
          have b2 := HP6.va.cell (i := 2) rfl
          have b3 := HP6.va.cell (i := 3) rfl
          have b4 := HP6.va.cell (i := 4) rfl
          have f0 := HP6.va.frozen 0
          have f1 := HP6.va.frozen 1
          have f2 := HP6.va.frozen 2
          have f3 := HP6.va.frozen 3
          have f4 := HP6.va.frozen 4
          clear HP6
          go_wp2_with fail
          refine bodyPost_ret (v := ansVal 11 0) (by simp [results, Tryz.results17, go_sem, b0, b1, b2, b3, b4]) rfl ?_
          exact HR.out _ (off_five _ _ _ _ _ _ _)
        | false =>
          have HNO : Hid (¬ (0 ≤ d.ver ∧ d.ver ≠ (Vw.get s.acc d.name).cnt)) := of_decide_eq_false HOLD.out.symm
          have c7 := HP6.st.var.cell (i := 7) rfl
          have c8 := HP6.st.var.cell (i := 8) rfl
          have e6 : w6.cell? ⟨w.heap.size, 6, none⟩ = some (.slice A d.bat.evs.length C) := HP6.vd.cell (i := 6) rfl
          have HF2 : ∀ w', (w'.cell? ⟨R, 7, none⟩ = some (.int .i64 s.u) ∧ w'.cell? ⟨R, 8, none⟩ = some (.slice Aa s.acc.length Ca) ∧ w'.cell? ⟨w.heap.size, 6, none⟩ = some (.slice A d.bat.evs.length C) ∧ Below w6.heap.size w6 w') → Calls Tryz.prog 44 #[.agg #[.int .i64 s.u, .slice Aa s.acc.length Ca], .slice A d.bat.evs.length C] w' fun e w'' => FoO e w'' w'.heap.size (Vw.fold s.u s.acc d.bat.evs) ∧ Below w'.heap.size w' w'' := fun w' hS => fold_any s.u _ _ s.acc d.bat.evs w' (HP6.st.acc.1.below hS.2.2.2) (HP6.din.evs.below hS.2.2.2)
          obtain ⟨fo, hfo⟩ : ∃ fo, fo = Vw.fold s.u s.acc d.bat.evs := ⟨_, rfl⟩
          have HFO : Hid (fo = Vw.fold s.u s.acc d.bat.evs) := hfo
          rw [← hfo] at HF2
          clear hfo
          obtain ⟨⟨x2, y2⟩, u2, l2⟩ := fo
          unfold FoO faultV at HF2
          have TD : w6.drew.cell? ⟨R, 7, none⟩ = some (.int .i64 s.u) ∧ w6.drew.cell? ⟨R, 8, none⟩ = some (.slice Aa s.acc.length Ca) ∧ w6.drew.cell? ⟨w.heap.size, 6, none⟩ = some (.slice A d.bat.evs.length C) ∧ Below w6.heap.size w6 w6.drew := ⟨c7, c8, e6, (Below.refl _ _).drew⟩
          have hRw : R < w6.heap.size := World.block_lt_of_cell? _ _ c7
          have hBw : w.heap.size < w6.heap.size := World.block_lt_of_cell? _ _ e6
          have bD : ∀ X : World, Below X.heap.size X X.drew := fun X => (Below.refl _ _).drew
          have bAl : ∀ (X : World) (o : Obj), Below X.heap.size X (X.alloc o) := fun X o => (Below.refl _ _).alloc (Nat.le_refl _) o
          have sz1 : ∀ o, (w6.alloc o).heap.size = w6.heap.size + 1 := fun o => by simp
          have E1 : VarF (w6.alloc (.cells #[.int .i64 0, .slice none 0 0] 30)).drew w6.heap.size (.int .i64 0) (.slice none 0 0) := (varF_new w6 30 _ _).below (bD _)
          have E2 : VarF (w6.alloc (.cells #[.int .i64 0, .int .i64 0] 78)).drew w6.heap.size (.int .i64 0) (.int .i64 0) := (varF_new w6 78 _ _).below (bD _)
          have E3 : VarF ((w6.alloc (.cells #[.int .i64 0, .slice none 0 0] 30)).alloc (.cells #[.int .i64 0, .int .i64 0] 78)).drew w6.heap.size (.int .i64 0) (.slice none 0 0) := ((varF_new w6 30 _ _).below (bAl _ _)).below (bD _)
          have E4 : VarF ((w6.alloc (.cells #[.int .i64 0, .slice none 0 0] 30)).alloc (.cells #[.int .i64 0, .int .i64 0] 78)).drew (w6.heap.size + 1) (.int .i64 0) (.int .i64 0) := by
            have h := (varF_new (w6.alloc (.cells #[.int .i64 0, .slice none 0 0] 30)) 78 (.int .i64 0) (.int .i64 0)).below (bD _)
            rw [sz1] at h
            exact h
          have E5 : VarF ((w6.alloc (.cells #[.int .i64 0, .int .i64 0] 78)).alloc (.cells #[.int .i64 0, .slice none 0 0] 30)).drew w6.heap.size (.int .i64 0) (.int .i64 0) := ((varF_new w6 78 _ _).below (bAl _ _)).below (bD _)
          have E6 : VarF ((w6.alloc (.cells #[.int .i64 0, .int .i64 0] 78)).alloc (.cells #[.int .i64 0, .slice none 0 0] 30)).drew (w6.heap.size + 1) (.int .i64 0) (.slice none 0 0) := by
            have h := (varF_new (w6.alloc (.cells #[.int .i64 0, .int .i64 0] 78)) 30 (.int .i64 0) (.slice none 0 0)).below (bD _)
            rw [sz1] at h
            exact h
          have HP6h : Hid (PW w w6 N R F E c s D V U vt vs (.slice Aa s.acc.length Ca) tc d (.slice A d.bat.evs.length C) t) := HP6
          clear HP6
          go_upto_region 9 with fail
          go_cut [8, 9] from 58 to 70 (fun p8 p9 wx => ∃ (XV G : Nat) (v7 : Value), p8 = .pointer (some ⟨XV, 0, none⟩) ∧ p9 = .pointer (some ⟨G, 0, none⟩) ∧ w6.heap.size ≤ XV ∧ VarF wx XV (.int .i64 u2) v7 ∧ VarF wx G (.int .i64 (x2 : Nat)) (.int .i64 (y2 : Nat)) ∧ Accs wx v7 l2 ∧ Past w6.heap.size v7 ∧ Below w6.heap.size w6 wx)
          case first =>
            go_region_held3 (fun w' => w'.cell? ⟨R, 7, none⟩ = some (.int .i64 s.u) ∧ w'.cell? ⟨R, 8, none⟩ = some (.slice Aa s.acc.length Ca) ∧ w'.cell? ⟨w.heap.size, 6, none⟩ = some (.slice A d.bat.evs.length C) ∧ Below w6.heap.size w6 w')
              (first | with_reducible exact TD | with_reducible assumption | with_reducible exact keepW (by assumption) (by assumption) | with_reducible exact keepWa (by assumption) | with_reducible exact keepWd (by assumption) | with_reducible exact keepWs (by assumption) (by omega) (by omega) (by omega) | with_reducible exact keepWa (keepWa (by assumption)) | with_reducible exact keepWa (keepWs (by assumption) (by omega) (by omega) (by omega)) | with_reducible exact keepWs (keepWs (by assumption) (by omega) (by omega) (by omega)) (by omega) (by omega) (by omega))
              (first | (go_at_call 44; refine (HF2 _ (by assumption)).mono ?_; rintro e7 w7 ⟨⟨v7, rfl, A7, P7⟩, b7⟩; obtain ⟨Q7, C7, rfl⟩ := A7.shape; have S7 := keepW b7 (by assumption); have h7 : w6.heap.size ≤ w7.heap.size := S7.2.2.2.size; (first | (have Y := E3.below b7; obtain ⟨Y0, Y1, Yr⟩ := Y; have Yf := Yr 0; have Yg := Yr 1; have Yl : _ < w7.heap.size := World.block_lt_of_cell? _ _ Y0; have Yn := Nat.ne_of_lt Yl; have Ym := Nat.ne_of_gt Yl; have Y := E3.below b7; have Z := E4.below b7; obtain ⟨Z0, Z1, Zr⟩ := Z; have Zf := Zr 0; have Zg := Zr 1; have Zl : _ < w7.heap.size := World.block_lt_of_cell? _ _ Z0; have Zn := Nat.ne_of_lt Zl; have Zm := Nat.ne_of_gt Zl; have Z := E4.below b7) | (have Y := E6.below b7; obtain ⟨Y0, Y1, Yr⟩ := Y; have Yf := Yr 0; have Yg := Yr 1; have Yl : _ < w7.heap.size := World.block_lt_of_cell? _ _ Y0; have Yn := Nat.ne_of_lt Yl; have Ym := Nat.ne_of_gt Yl; have Y := E6.below b7; have Z := E5.below b7; obtain ⟨Z0, Z1, Zr⟩ := Z; have Zf := Zr 0; have Zg := Zr 1; have Zl : _ < w7.heap.size := World.block_lt_of_cell? _ _ Z0; have Zn := Nat.ne_of_lt Zl; have Zm := Nat.ne_of_gt Zl; have Z := E5.below b7) | (have Y := E1.below b7; obtain ⟨Y0, Y1, Yr⟩ := Y; have Yf := Yr 0; have Yg := Yr 1; have Yl : _ < w7.heap.size := World.block_lt_of_cell? _ _ Y0; have Yn := Nat.ne_of_lt Yl; have Ym := Nat.ne_of_gt Yl; have Y := E1.below b7) | (have Z := E2.below b7; obtain ⟨Z0, Z1, Zr⟩ := Z; have Zf := Zr 0; have Zg := Zr 1; have Zl : _ < w7.heap.size := World.block_lt_of_cell? _ _ Z0; have Zn := Nat.ne_of_lt Zl; have Zm := Nat.ne_of_gt Zl; have Z := E2.below b7) | skip)))
            all_goals go_wp2_with fail
            all_goals go_meet
            · obtain ⟨q1, q2, q3, q4⟩ := twoA (t := 30) (t' := 78) (p := .int .i64 u2) (q := .slice Q7 l2.length C7) (c := .int .i64 (x2 : Nat)) (d := .int .i64 (y2 : Nat)) A7 S7.2.2.2
              exact ⟨_, _, _, rfl, rfl, h7, q1, q2, q3, P7.mono (Nat.le_refl _), q4⟩
            · obtain ⟨q1, q2, q3, q4⟩ := twoA (t := 78) (t' := 30) (p := .int .i64 (x2 : Nat)) (q := .int .i64 (y2 : Nat)) (c := .int .i64 u2) (d := .slice Q7 l2.length C7) A7 S7.2.2.2
              exact ⟨_, _, _, rfl, rfl, Nat.le_succ_of_le h7, q2, q1, q3, P7.mono (Nat.le_refl _), q4⟩
            · obtain ⟨q1, q2, q3, q4⟩ := oneA (t := 78) (p := .int .i64 u2) (q := .slice Q7 l2.length C7) (c := .int .i64 (x2 : Nat)) (d := .int .i64 (y2 : Nat)) Y A7 (P7.mono (by simp [World.drew] <;> omega)) S7.2.2.2 (Nat.le_refl _)
              exact ⟨_, _, _, rfl, rfl, Nat.le_refl _, q1, q2, q3, P7.mono (by simp [World.drew]), q4⟩
            · obtain ⟨q1, q2, q3, q4⟩ := noA (p := .int .i64 u2) (q := .slice Q7 l2.length C7) (c := .int .i64 (x2 : Nat)) (d := .int .i64 (y2 : Nat)) Y Z A7 P7 S7.2.2.2 (Nat.le_refl _) (by omega) (by omega) (by simp [World.drew] <;> omega) (by simp [World.drew] <;> omega)
              exact ⟨_, _, _, rfl, rfl, Nat.le_refl _, q1, q2, q3, P7.mono (by simp [World.drew] <;> omega), q4⟩
            · obtain ⟨q1, q2, q3, q4⟩ := oneA (t := 30) (p := .int .i64 (x2 : Nat)) (q := .int .i64 (y2 : Nat)) (c := .int .i64 u2) (d := .slice Q7 l2.length C7) Z A7 (P7.mono (by simp [World.drew] <;> omega)) S7.2.2.2 (Nat.le_refl _)
              exact ⟨_, _, _, rfl, rfl, h7, q2, q1, q3, P7.mono (by simp [World.drew]), q4⟩
            · obtain ⟨q1, q2, q3, q4⟩ := noA (p := .int .i64 u2) (q := .slice Q7 l2.length C7) (c := .int .i64 (x2 : Nat)) (d := .int .i64 (y2 : Nat)) Y Z A7 P7 S7.2.2.2 (by omega) (Nat.le_refl _) (by omega) (by simp [World.drew] <;> omega) (by simp [World.drew] <;> omega)
              exact ⟨_, _, _, rfl, rfl, by omega, q1, q2, q3, P7.mono (by simp [World.drew] <;> omega), q4⟩
          case rest =>
            obtain ⟨XV, G, v7, rfl, rfl, hXV, VX, VG, A7, P7, b7⟩ := hcut
            obtain ⟨w7, hw7⟩ : ∃ y, y = wc := ⟨wc, rfl⟩
            rw [← hw7] at VX VG A7 b7 ⊢
            have HP7 := HP6h.out.below b7
            have HB1 : Hid (w.heap.size + 1 < w6.heap.size) := World.block_lt_of_cell? _ _ (HP6h.out.va.cell (i := 0) rfl)
            have HL7 : Hid (w6.heap.size ≤ w7.heap.size) := b7.size
            obtain ⟨g0, _, _⟩ := VG
            clear hw7 TD HF2 E1 E2 E3 E4 E5 E6 sz1 bD bAl c7 c8 e6 HP6h b7
            by_cases hx2 : x2 = 0
            case neg =>
              have HR : Hid (∀ w', Off (fun k => k = w.heap.size + 1) w7 w' → DoO (.returned (ansVal (x2 : Nat) 0)) w w' N R F E c (Sto.put X c s d)) := fun w' ho => by
                rw [HPT.out, if_neg (fun z => z HW0.out), if_neg HNM.out, if_neg HNO.out, ← HFO.out, if_pos hx2]
                exact HP7.same ho x2 0
              have b0 := HP7.va.cell (i := 0) rfl
              have b1 := HP7.va.cell (i := 1) rfl
              have b2 := HP7.va.cell (i := 2) rfl
              have b3 := HP7.va.cell (i := 3) rfl
              have b4 := HP7.va.cell (i := 4) rfl
              have f0 := HP7.va.frozen 0
              have f1 := HP7.va.frozen 1
              have f2 := HP7.va.frozen 2
              have f3 := HP7.va.frozen 3
              have f4 := HP7.va.frozen 4
              have hxn : ((x2 : Int) != 0) = true := by rw [bne_iff_ne]; omega
              clear hx2 HP7 VX A7 P7
              go_wp2_with fail
              refine bodyPost_ret (v := ansVal (x2 : Nat) 0) (by simp [results, Tryz.results17, go_sem, b0, b1, b2, b3, b4]) rfl ?_
              exact HR.out _ (off_five _ _ _ _ _ _ _)
            case pos =>
              have hxn : ((x2 : Int) != 0) = false := by rw [bne_eq_false_iff_eq]; omega
              have HX2 : Hid (x2 = 0) := hx2
              have HFK : Hid (Vw.Right u2 l2 ∧ u2 = s.u + d.bat.evs.length) := by
                have q := Vw.fold_keeps (u := s.u) (l := s.acc) (es := d.bat.evs) (by rw [← HFO.out]; exact hx2)
                rw [← HFO.out] at q
                exact ⟨q.1, q.2.1⟩
              have HL2 : Hid (l2 ≠ []) := fun z => by
                have q1 := HFK.out.1.tot
                have q2 := HFK.out.2
                have q3 := HP7.st.wf.right.lo
                have q4 := (Evt.wrongB_inv HW0.out).2.2.1
                rw [z] at q1
                have q1 : (0 : Int) = u2 := q1
                omega
              have HKP := keep_any HX.out w7 HP7.st d.bat (.slice A d.bat.evs.length C) HP7.din.evs HW0.out (Nat.le_trans HNW.out HP7.bel.size)
              have e5 : w7.cell? ⟨w.heap.size, 5, none⟩ = some (.int .i64 d.bat.cmd) := HP7.vd.cell (i := 5) rfl
              have e6 : w7.cell? ⟨w.heap.size, 6, none⟩ = some (.slice A d.bat.evs.length C) := HP7.vd.cell (i := 6) rfl
              obtain ⟨r8, hr8⟩ : ∃ r8, r8 = keepS X c s d.bat := ⟨_, rfl⟩
              have HR8 : Hid (r8 = keepS X c s d.bat) := hr8
              rw [← hr8] at HKP
              obtain ⟨k8, s8⟩ := r8
              unfold KeepO at HKP
              have HP7h : Hid (PW w w7 N R F E c s D V U vt vs (.slice Aa s.acc.length Ca) tc d (.slice A d.bat.evs.length C) t) := HP7
              have HVX : Hid (VarF w7 XV (.int .i64 u2) v7) := VX
              have HA7 : Hid (Accs w7 v7 l2) := A7
              have HPA : Hid (Past w6.heap.size v7) := P7
              have HLV : Hid (∀ g, v7.ownBlock = some g → l2 ≠ [] → g < w7.heap.size) := fun g hg hl => by
                obtain ⟨A, cap, rfl, _, _, h3⟩ := A7
                cases l2 with
                | nil => exact absurd rfl hl
                | cons a r =>
                  obtain ⟨b, o, rfl, _, _, _, q, _⟩ := h3 0 a rfl
                  cases hg
                  exact World.block_lt_of_cell? _ _ q
              clear hr8 hx2 HP7 VX A7 P7
              go_upto_region 13 with (first | (go_at_call 45; refine HKP.mono ?_; rintro e8 w8 ⟨rfl, F8, E8, D8, V8, U8, vt8, tc8, hP8, hF8⟩))
              have HF8 : Hid (Frame w7 w8 F F8 E E8) := hF8
              have HFL : ∀ k, w.heap.size ≤ k → ¬ F k := fun k hk z => by
                have := HP7h.out.lt k (Or.inl z)
                omega
              have VA8 : VarN w8 (w.heap.size + 1) 42 (ansC 0 0).toList := HP7h.out.va.off hF8.off (HFL _ (Nat.le_succ _))
              have VD8 : VarN w8 w.heap.size 49 (doCells d (.slice A d.bat.evs.length C) t) := HP7h.out.vd.off hF8.off (HFL _ (Nat.le_refl _))
              have VX8 : VarF w8 XV (.int .i64 u2) v7 := HVX.out.off hF8.off (HFL _ (by have := HB1.out; omega))
              have A8 : Accs w8 v7 l2 := HA7.out.off hF8.off fun g hg => HFL _ (by have := HPA.out g hg; have := HB1.out; omega)
              have HNF : Hid (∀ k, w.heap.size ≤ k → k < w7.heap.size → ¬ F8 k ∧ ¬ E8 k) := fun k hk hk2 => ⟨fun z => by
                rcases hF8.growF k z with q | q
                · exact HFL k hk q
                · omega, fun z => by
                rcases hF8.growE k z with q | q
                · have := HP7h.out.lt k (Or.inr q)
                  omega
                · omega⟩
              have HFW : Hid (Frame w w8 F F8 E E8) := (Frame.of_below F E HP7h.out.bel).trans hF8
              have hP8 : StP w8 N R F8 E8 c s8 D8 V8 U8 vt8 vs (.slice Aa s.acc.length Ca) tc8 := hP8
              have hs8 := keepS_same X c s d.bat
              rw [← HR8.out] at hs8
              have hsn : s8.seen = s.seen := hs8.1
              have hsu : s8.u = s.u := hs8.2.1
              by_cases hk8 : k8 = 0
              case neg =>
                have HR : Hid (∀ w', Off (fun k => k = w.heap.size + 1) w8 w' → DoO (.returned (ansVal (k8 : Nat) 0)) w w' N R F E c (Sto.put X c s d)) := fun w' ho => by
                  have hss : s8 = s := by
                    have := keepS_bad (X := X) (c := c) (s := s) (b := d.bat) (by rw [← HR8.out]; exact hk8)
                    rw [← HR8.out] at this
                    exact this
                  rw [HPT.out, if_neg (fun z => z HW0.out), if_neg HNM.out, if_neg HNO.out, ← HFO.out, if_neg (fun z => z HX2.out), laid_keep, ← HR8.out, if_pos hk8]
                  refine ⟨_, F8, E8, rfl, ⟨_, _, _, _, _, _, _, (hss ▸ hP8).out ho fun k e => ?_⟩, ⟨HFW.out.off.past ho fun k e hk => ?_, HFW.out.growF, HFW.out.growE⟩, ansV_plain _ _ _ _⟩
                  · have e : k = w.heap.size + 1 := e
                    omega
                  · rw [show k = w.heap.size + 1 from e]
                    exact HNF.out _ (Nat.le_succ _) (Nat.lt_of_lt_of_le HB1.out HL7.out)
                have b0 := VA8.cell (i := 0) rfl
                have b1 := VA8.cell (i := 1) rfl
                have b2 := VA8.cell (i := 2) rfl
                have b3 := VA8.cell (i := 3) rfl
                have b4 := VA8.cell (i := 4) rfl
                have f0 := VA8.frozen 0
                have f1 := VA8.frozen 1
                have f2 := VA8.frozen 2
                have f3 := VA8.frozen 3
                have f4 := VA8.frozen 4
                have hkn : ((k8 : Int) != 0) = true := by rw [bne_iff_ne]; omega
                clear hk8 hP8 VX8 A8 VD8 hF8 HKP
                go_wp2_with fail
                refine bodyPost_ret (v := ansVal (k8 : Nat) 0) (by simp [results, Tryz.results17, go_sem, b0, b1, b2, b3, b4]) rfl ?_
                exact HR.out _ (off_five _ _ _ _ _ _ _)
              case pos =>
                have hkn : ((k8 : Int) != 0) = false := by rw [bne_eq_false_iff_eq]; omega
                have HK8 : Hid (k8 = 0) := hk8
                have hRl : R < w.heap.size := HP7h.out.lt R (Or.inl HP7h.out.st.fR)
                have hXl : XV < w7.heap.size := World.block_lt_of_cell? _ _ HVX.out.c0
                have hb1 := HB1.out
                have hown8 : w8.ownsRow N 3 1 vs s.seen.length (s.seen.flatMap inCells) := by
                  have := hP8.seen
                  rw [hsn] at this
                  exact this
                have bi : Below w8.heap.size w8 (w8.alloc (.cells #[.int .i64 d.bat.cmd] 3)).drew := ((Below.refl _ _).alloc (Nat.le_refl _) _).drew
                have HIN := insI_any N i w8.heap.size vs s.seen d.bat.cmd (w8.alloc (.cells #[.int .i64 d.bat.cmd] 3)).drew (owns_below hown8 bi) (Nat.le_trans HNW.out (Nat.le_trans (Nat.le_trans HP7h.out.bel.size hF8.off.size) bi.size)) HCUT.out.1 (by have := HSL.out; omega) (heap_alloc_new w8 _) (fun z => absurd (hown8.lt _ z).2 (Nat.lt_irrefl _))
                have c6a : w8.drew.cell? ⟨R, 6, none⟩ = some vs := hP8.var.cell (i := 6) rfl
                have c6b : (w8.alloc (.cells #[.int .i64 d.bat.cmd] 3)).drew.cell? ⟨R, 6, none⟩ = some vs := (hP8.var.below bi).cell (i := 6) rfl
                have TD : w8.drew.cell? ⟨w.heap.size, 5, none⟩ = some (.int .i64 d.bat.cmd) := VD8.cell (i := 5) rfl
                have TDi : (w8.alloc (.cells #[.int .i64 d.bat.cmd] 3)).drew.cell? ⟨w.heap.size, 5, none⟩ = some (.int .i64 d.bat.cmd) := (VD8.below bi).cell (i := 5) rfl
                have hBR : w.heap.size ≠ R := by omega
                have hvsT : ∀ k, vs.ownBlock = some k → TyB (w8.alloc (.cells #[.int .i64 d.bat.cmd] 3)).drew k 3 := fun k q => owns_ty (owns_below hown8 bi) q
                have HVR : Hid (∀ w9, Off (fun k => vs.ownBlock = some k) (w8.alloc (.cells #[.int .i64 d.bat.cmd] 3)).drew w9 → VarN w9 R 45 (stCells c D8 s8.disks.length s8.segs vt8 vs s8.u (.slice Aa s.acc.length Ca)) ∧ VarN w9 w.heap.size 49 (doCells d (.slice A d.bat.evs.length C) t) ∧ VarN w9 (w.heap.size + 1) 42 (ansC 0 0).toList ∧ VarF w9 XV (.int .i64 u2) v7 ∧ Accs w9 v7 l2) := fun w9 ho => by
                  refine ⟨(hP8.var.below bi).off ho fun q => (hvsT _ q).ne (hP8.var.below bi).ty (by decide) rfl, (VD8.below bi).off ho fun q => (hvsT _ q).ne (VD8.below bi).ty (by decide) rfl, (VA8.below bi).off ho fun q => (hvsT _ q).ne (VA8.below bi).ty (by decide) rfl, (VX8.below bi).off ho fun q => (HNF.out XV (by omega) hXl).1 (hP8.fS XV q), (A8.below bi).off ho fun g hg q => ?_⟩
                  have h1 := HPA.out g hg
                  by_cases hl : l2 = []
                  · exact absurd hl HL2.out
                  · exact (HNF.out g (by omega) (HLV.out g hg hl)).1 (hP8.fS g q)
                obtain ⟨Q7, C7, rfl⟩ := A8.shape
                obtain ⟨L9, hL9⟩ : ∃ L, L = (s.seen.take i ++ d.bat.cmd :: s.seen.drop i).length := ⟨_, rfl⟩
                have HL9 : Hid (L9 = (s.seen.take i ++ d.bat.cmd :: s.seen.drop i).length) := hL9
                have HUP : Hid (UpI s.seen) := HP7h.out.st.wf.up
                clear hL9
                clear hk8 VX8 A8 VD8 VA8 HKP
                go_wp2_with fail
                go_cut [] from 84 to 99 (fun wx => InsS (w8.alloc (.cells #[.int .i64 d.bat.cmd] 3)).drew wx N R vs (s.seen.take i ++ d.bat.cmd :: s.seen.drop i))
                case first =>
                  go_region_with (go_at_call 46; refine HIN.mono ?_; rintro e9 w9 ⟨v9, rfl, hown9, ho9, hat9⟩; obtain ⟨hv9, hd9, ha9, hx9, hl9⟩ := HVR.out w9 ho9; have c69 := hv9.cell (i := 6) rfl; have z69 := hv9.frozen 6; have HIS : InsS (w8.alloc (.cells #[.int .i64 d.bat.cmd] 3)).drew (w9.setCell ⟨R, 6, none⟩ v9) N R vs (s.seen.take i ++ d.bat.cmd :: s.seen.drop i) := ⟨w9, v9, rfl, hown9, ho9, hat9⟩; obtain ⟨A9, C9, hvv, _⟩ := insIn_of hown9; rw [← HL9.out] at hvv; subst hvv)
                  all_goals go_wp2_with fail
                  all_goals go_meet
                  all_goals exact HIS
                case rest =>
                  obtain ⟨w9, v9, hwc, hown9, ho9, hat9⟩ := hcut
                  obtain ⟨hv9, hd9, ha9, hx9, hl9⟩ := HVR.out w9 ho9
                  have hX1 : XV ≠ R := by omega
                  have hX2 : R ≠ XV := by omega
                  have hA1 : w.heap.size + 1 ≠ R := by omega
                  have hA2 : R ≠ w.heap.size + 1 := by omega
                  have hX3 : XV ≠ w.heap.size + 1 := by omega
                  have hX4 : w.heap.size + 1 ≠ XV := by omega
                  have bi8 := bi.size
                  have HR : Hid (∀ w', Off (fun k => k = w.heap.size + 1) (((w9.setCell ⟨R, 6, none⟩ v9).setCell ⟨R, 7, none⟩ (.int .i64 u2)).setCell ⟨R, 8, none⟩ (.slice Q7 l2.length C7)) w' → DoO (.returned (ansVal 0 u2)) w w' N R F E c (Sto.put X c s d)) := fun w' ho => by
                    have hLD : Sto.laid X c s d.bat (u2, l2) = (0, { s8 with seen := s.seen.take i ++ d.bat.cmd :: s.seen.drop i, u := u2, acc := l2 }) := by
                      rw [laid_keep, ← HR8.out, below_cut HCUT.out]
                      show (k8, if k8 = 0 then _ else _) = _
                      rw [if_pos HK8.out, HK8.out]
                    rw [HPT.out, if_neg (fun z => z HW0.out), if_neg HNM.out, if_neg HNO.out, ← HFO.out, if_neg (fun z => z HX2.out), hLD, if_neg (fun z => z rfl)]
                    have hoA : Off (fun k => k = R ∨ vs.ownBlock = some k) w8 w9 := (Off.of_below bi).trans (ho9.wider fun k q => Or.inr q)
                    have hoW : Off (fun k => k = R ∨ vs.ownBlock = some k) w8 (((w9.setCell ⟨R, 6, none⟩ v9).setCell ⟨R, 7, none⟩ (.int .i64 u2)).setCell ⟨R, 8, none⟩ (.slice Q7 l2.length C7)) :=
                      ((hoA.set (p := ⟨R, 6, none⟩) (Or.inl rfl) v9).set (p := ⟨R, 7, none⟩) (Or.inl rfl) (.int .i64 u2)).set (p := ⟨R, 8, none⟩) (Or.inl rfl) (.slice Q7 l2.length C7)
                    have hoR : Off (fun k => k = R) w9 (((w9.setCell ⟨R, 6, none⟩ v9).setCell ⟨R, 7, none⟩ (.int .i64 u2)).setCell ⟨R, 8, none⟩ (.slice Q7 l2.length C7)) :=
                      (((Off.refl (fun k => k = R) w9).set (p := ⟨R, 6, none⟩) rfl v9).set (p := ⟨R, 7, none⟩) rfl (.int .i64 u2)).set (p := ⟨R, 8, none⟩) rfl (.slice Q7 l2.length C7)
                    have hg7 : ∀ g, (Value.slice Q7 l2.length C7).ownBlock = some g → w6.heap.size ≤ g ∧ g < w7.heap.size := fun g hg => ⟨HPA.out g hg, HLV.out g hg HL2.out⟩
                    have hS := hP8.putS (s' := { s8 with seen := s.seen.take i ++ d.bat.cmd :: s.seen.drop i, u := u2, acc := l2 }) (vs' := v9) (va' := .slice Q7 l2.length C7) hoW rfl rfl (((hv9.set 6 v9 (show 6 < 9 by decide)).set 7 (.int .i64 u2) (show 7 < 9 by decide)).set 8 (.slice Q7 l2.length C7) (show 8 < 9 by decide)) (owns_off hown9 hoR fun g hg e => ?_) (hat9.imp id fun z g hg => Nat.le_trans bi8 (z g hg)) (hl9.off hoR fun g hg e => ?_) (fun g hg => ?_) ⟨hP8.wf.len, hP8.wf.d1, hP8.wf.d8, hP8.wf.s4, hP8.wf.b1, hP8.wf.b10, hP8.wf.wd, hP8.wf.segs, hP8.wf.tail, hP8.wf.bats, up_ins HCUT.out HUP.out HNM.out, ?_, HFK.out.1⟩
                    · have hB1F : ∀ k, k = w.heap.size + 1 → ¬ (F8 k ∨ v9.ownBlock = some k) ∧ ¬ (E8 k ∨ (Value.slice Q7 l2.length C7).ownBlock = some k) := fun k e => by
                        have h0 := HNF.out k (by omega) (by have := HL7.out; omega)
                        refine ⟨fun z => z.elim h0.1 fun z => ?_, fun z => z.elim h0.2 fun z => ?_⟩
                        · rcases hat9 with q | q
                          · rw [q] at z
                            exact h0.1 (hP8.fS k z)
                          · have h1 := q k z
                            have h2 := HL7.out
                            have h3 := hF8.off.size
                            omega
                        · have := (hg7 k z).1
                          omega
                      refine ⟨_, _, _, rfl, ⟨_, _, _, _, _, _, _, hS.out ho hB1F⟩, ⟨(HFW.out.off.past hoW fun k q hk => ?_).past ho fun k q hk => ?_, fun k q => ?_, fun k q => ?_⟩, ansV_plain _ _ 0 u2⟩
                      · have h0 : F8 k := by
                          rcases q with rfl | q
                          · exact hP8.fR
                          · exact hP8.fS k q
                        rcases HFW.out.growF k h0 with z | z
                        · exact z
                        · omega
                      · have q : k = w.heap.size + 1 := q
                        omega
                      · rcases q with q | q
                        · exact HFW.out.growF k q
                        · rcases hat9 with z | z
                          · rw [z] at q
                            exact HFW.out.growF k (hP8.fS k q)
                          · have h1 := z k q
                            have h2 := HFW.out.off.size
                            exact Or.inr (by omega)
                      · rcases q with q | q
                        · exact HFW.out.growE k q
                        · have := (hg7 k q).1
                          exact Or.inr (by omega)
                    · have e : g = R := e
                      exact (owns_ty hown9 hg).ne hv9.ty (by decide) e
                    · have e : g = R := e
                      have := (hg7 g hg).1
                      omega
                    · have h0 := HNF.out g (by have := (hg7 g hg).1; omega) (hg7 g hg).2
                      exact ⟨h0.1, Nat.lt_of_lt_of_le (hg7 g hg).2 hF8.off.size⟩
                    · have h1 := hP8.wf.cmds
                      rw [hsn, hsu] at h1
                      have h2 := HFK.out.2
                      have h3 := (Evt.wrongB_inv HW0.out).2.2.1
                      show ((s.seen.take i ++ d.bat.cmd :: s.seen.drop i).length : Int) ≤ u2
                      have h4 : (s.seen.take i ++ d.bat.cmd :: s.seen.drop i).length = s.seen.length + 1 := by
                        have := HCUT.out.1
                        simp
                        omega
                      rw [h4]
                      omega
                  have c79 := hv9.cell (i := 7) rfl
                  have c89 := hv9.cell (i := 8) rfl
                  have z79 := hv9.frozen 7
                  have z89 := hv9.frozen 8
                  have x0 := hx9.c0
                  have x1 := hx9.c1
                  have b0 := ha9.cell (i := 0) rfl
                  have b1 := ha9.cell (i := 1) rfl
                  have b2 := ha9.cell (i := 2) rfl
                  have b3 := ha9.cell (i := 3) rfl
                  have b4 := ha9.cell (i := 4) rfl
                  have f0 := ha9.frozen 0
                  have f1 := ha9.frozen 1
                  have f2 := ha9.frozen 2
                  have f3 := ha9.frozen 3
                  have f4 := ha9.frozen 4
                  subst hwc
                  clear hown9 ho9 hat9 hv9 hd9 ha9 hx9 hl9 hP8 hF8 HIN c6a c6b TD TDi hvsT bi bi8 hown8
                  go_wp2_with fail
                  refine bodyPost_ret (v := ansVal 0 u2) (by simp [results, Tryz.results17, go_sem, b0, b1, b2, b3, b4]) rfl ?_
                  exact HR.out _ (off_five _ _ _ _ _ _ _)
end

end Go.Proofs.YtmcaejooaaahdaaGreat
