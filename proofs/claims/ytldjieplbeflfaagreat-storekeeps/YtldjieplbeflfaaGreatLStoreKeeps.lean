/-
  Whatever setup and things to do there are, no block having more than a byte turned: where no more disks than there are spare ones were harmed since all was mended, nothing is lost. No condition.
-/
import Derived.Test.YtldjieplbeflfaaGreatRows
import Derived.Test.YtldjieplbeflfaaGreatY43
import Derived.Test.YtldjieplbeflfaaGreatY45
import Derived.Test.YtldjieplbeflfaaGreatY44
import Derived.Test.YtldjieplbeflfaaGreatLHHd
import Derived.ProofKit
import Derived.OpenShut
import Derived.Carry
import Derived.Deep.Cut
import Derived.Deep.CutRange
namespace Go.Proofs.YtldjieplbeflfaaGreat.storeKeeps
open Go.ChangeShapes Go.WideShapes Go.ChangeAt Go.RowKit
set_option linter.unusedVariables false

theorem own : ownKnob Tryz.prog.godebug = none := by kernel_rfl

set_option maxHeartbeats 4000000 in
set_option maxRecDepth 100000 in
theorem walk (w : World) (d s b : Int) (v : Value) (l : List Sto.Do) (hD : Dos w v l) (hz : ∀ d, d ∈ l → RngD d) :
    Calls Tryz.prog 4 #[.agg #[.int .i64 d, .int .i64 s, .int .i64 b], v] w fun e w' => e = .returned (.bool true) ∧ Below w.heap.size w w' := by
  have b0 : Below w.heap.size w (w.alloc (.cells #[.int .i64 d, .int .i64 s, .int .i64 b] 23)) := (Below.refl _ _).alloc (Nat.le_refl _) _
  have VS := varN_new w #[.int .i64 d, .int .i64 s, .int .i64 b] 23
  have HA := alive_any (w.alloc (.cells #[.int .i64 d, .int .i64 s, .int .i64 b] 23))
  have HD : Hid (∀ w', Below w.heap.size w w' → Dos w' v l) := fun w' hb => hD.below hb
  have HZ : Hid (∀ d, d ∈ l → RngD d) := hz
  obtain ⟨A, C, rfl, hc1, hc2, _⟩ := hD
  have hc2 : C ≤ 9223372036854775807 := by unfold maxLen at hc2; exact hc2
  by_cases hok : wrongS d s b = 0 ∧ l.length ≤ 80
  · obtain ⟨h0, h80⟩ := hok
    obtain ⟨c, ed, es, eb, h1, h2, h3, h4, h5⟩ := setup_ok h0
    obtain ⟨X, hX⟩ := Sto.six
    have hsl : (Sto.steps X c (Sto.start c) l).2.length = l.length := Sto.steps_length X c l (Sto.start c)
    have HP : Hid (∀ w', Below w.heap.size w w' → Calls Tryz.prog 10 #[.agg #[.int .i64 d, .int .i64 s, .int .i64 b], .slice A l.length C] w' fun e w2 => PlayR e w' w2 c (Sto.steps X c (Sto.start c) l)) := fun w' hb => playR hX c d s b ed es eb h1 h2 h3 h4 h5 _ l w' (HD.out w' hb) h80
    have HON : Hid (∀ w', Below w.heap.size w w' → Calls Tryz.prog 11 #[.slice A l.length C] w' fun e w2 => OnceY e l ∧ Below w'.heap.size w' w2) := fun w' hb => once_any l _ w' (HD.out w' hb) HZ.out h80
    have HT : Hid (∀ w' va (i : Nat), i ≤ l.length → Below w.heap.size w w' → Anss w' va (Sto.steps X c (Sto.start c) l).2 → Calls Tryz.prog 13 #[.slice A l.length C, va, .int .i64 (i : Int)] w' fun e w2 => CloneE e w2 w'.heap.size (Sto.toldOf ((l.zip (Sto.steps X c (Sto.start c) l).2).take i) []) ∧ Below w'.heap.size w' w2) := fun w' va i hi hb ha => told_at (X := X) (c := c) l i hi h80 (.slice A l.length C) va w' (HD.out w' hb) ha
    have HTL : Hid (∀ i, (Sto.toldOf ((l.zip (Sto.steps X c (Sto.start c) l).2).take i) []).length ≤ 1000) := fun i => told_few l i h80
    have HG : Hid (Sto.Good X c) := Sto.six_good hX
    have HBY : Hid (∀ d, d ∈ l → d.turn < 256) := fun d hd => by
      obtain ⟨i, hi⟩ := List.mem_iff_getElem?.1 hd
      obtain ⟨_, _, _, _, _, hdo⟩ := HD.out w (Below.refl _ _)
      obtain ⟨_, _, _, _, _, hdin, _⟩ := hdo i d hi
      exact hdin.byte
    have hN12 : c.d + c.s ≤ 12 := by omega
    have HCS : Hid (s = (c.s : Int)) := es
    have HDO : Hid (∀ w', Below w.heap.size w w' → ∀ i d, l[i]? = some d → ∃ b o, A = some ⟨b, o, none⟩ ∧ DoAt w' b (o + i * 9) d) := fun w' hb => by
      obtain ⟨_, _, hv0, _, _, hdo⟩ := HD.out w' hb
      cases hv0
      exact hdo
    clear h0 h1 h2 h3 h4 h5 HD ed es eb HZ hz
    have HT : Hid (∀ w' va (i : Nat), i ≤ l.length → Below w.heap.size w w' → Anss w' va (Sto.steps X c (Sto.start c) l).2 → Calls Tryz.prog 13 #[.slice A l.length C, va, .int .i64 (i : Int)] w' fun e w2 => CloneE e w2 w'.heap.size (toldK X c l i) ∧ Below w'.heap.size w' w2) := HT
    have HTL : Hid (∀ i, (toldK X c l i).length ≤ 1000) := HTL
    have HAK : Hid (∀ (k : Nat) (d : Sto.Do), l[k]? = some d → (Sto.steps X c (Sto.start c) l).2[k]? = some (Sto.step X c (stK X c l k) d).2) := fun k d hd => ansK hd
    generalize Sto.steps X c (Sto.start c) l = r at HP HT HAK hsl
    obtain ⟨n, hn⟩ : ∃ n, n = l.length := ⟨_, rfl⟩
    have HN : Hid (n = l.length) := hn
    rw [← hn] at HP HT hc1 hsl h80 HON ⊢
    clear hn hX
    have hmm := @run_makeMap Tryz.prog
    go_enter Tryz.func4, Tryz.ntmps4
    go_wp2_with fail
    refine HA.mono ?_
    rintro e w1 ⟨rfl, b1⟩
    have VS1 := VS.below b1
    have s0 := VS1.cell (i := 0) rfl
    have s1 := VS1.cell (i := 1) rfl
    have s2 := VS1.cell (i := 2) rfl
    have HVS : Hid (w1.cell? ⟨w.heap.size, 1, none⟩ = some (.int .i64 s)) := s1
    have b1 := bt b0 b1
    have HP1 := HP.out w1 b1
    clear HA HP VS VS1 b0
    go_wp2_with fail
    refine HP1.mono ?_
    rintro e w2 ⟨vd, vt, vs, va, vr, rfl, hS, hR, b2, _⟩
    have HVS2 : Hid (w2.cell? ⟨w.heap.size, 1, none⟩ = some (.int .i64 s)) := (b2.cell (p := ⟨w.heap.size, 1, none⟩) (World.block_lt_of_cell? _ _ HVS.out)).trans HVS.out
    have b2 := bt b1 b2
    obtain ⟨Ad, nd, Cd, rfl⟩ : ∃ A n C, vd = .slice A n C := by
      obtain ⟨A, C, h, _⟩ := hS.dk
      exact ⟨A, _, C, h⟩
    obtain ⟨At, nt, Ct, rfl⟩ : ∃ A n C, vt = .slice A n C := by
      obtain ⟨A, C, h, _⟩ := hS.tl
      exact ⟨A, _, C, h⟩
    obtain ⟨As, ns, Cs, rfl⟩ : ∃ A n C, vs = .slice A n C := by
      obtain ⟨A, C, h, _⟩ := hS.sn
      exact ⟨A, _, C, h⟩
    obtain ⟨Aa, na, Ca, rfl⟩ : ∃ A n C, va = .slice A n C := by
      obtain ⟨A, C, h⟩ := hS.ac.shape
      exact ⟨A, _, C, h⟩
    have bz : ∀ o, Below w2.heap.size w2 (w2.alloc o) := fun o => (Below.refl _ _).alloc (Nat.le_refl _) _
    have b3 := bt b2 (bz (.cells #[.int .i64 (c.d : Int), .int .i64 (c.s : Int), .int .i64 (c.b : Int), .slice Ad nd Cd, .int .i64 (r.1.segs : Int), .slice At nt Ct, .slice As ns Cs, .int .i64 r.1.u, .slice Aa na Ca] 33))
    have HR : Hid (Anss (w2.alloc (.cells #[.int .i64 (c.d : Int), .int .i64 (c.s : Int), .int .i64 (c.b : Int), .slice Ad nd Cd, .int .i64 (r.1.segs : Int), .slice At nt Ct, .slice As ns Cs, .int .i64 r.1.u, .slice Aa na Ca] 33)) vr r.2) := hR.below (bz _)
    obtain ⟨Ar, Cr, hvr, hr1, hr2, hra⟩ := hR
    rw [hsl] at hvr hr1
    subst hvr
    have hr2 : Cr ≤ 9223372036854775807 := by unfold maxLen at hr2; exact hr2
    have HVS3 : Hid ((w2.alloc (.cells #[.int .i64 (c.d : Int), .int .i64 (c.s : Int), .int .i64 (c.b : Int), .slice Ad nd Cd, .int .i64 (r.1.segs : Int), .slice At nt Ct, .slice As ns Cs, .int .i64 r.1.u, .slice Aa na Ca] 33)).cell? ⟨w.heap.size, 1, none⟩ = some (.int .i64 s)) := ((bz _).cell (p := ⟨w.heap.size, 1, none⟩) (World.block_lt_of_cell? _ _ HVS2.out)).trans HVS2.out
    have HO := HON.out _ b3
    clear HP1 s0 s1 s2 hS b1 hra HON b2 bz HVS HVS2
    go_wp2_with fail
    generalize w2.alloc (.cells #[.int .i64 (c.d : Int), .int .i64 (c.s : Int), .int .i64 (c.b : Int), .slice Ad nd Cd, .int .i64 (r.1.segs : Int), .slice At nt Ct, .slice As ns Cs, .int .i64 r.1.u, .slice Aa na Ca] 33) = w3 at *
    refine HO.mono ?_
    rintro e w4 ⟨⟨y, rfl, hy⟩, b4⟩
    have HRW : Hid (Anss w4 (.slice Ar n Cr) r.2) := HR.out.below b4
    have HVS4 : Hid (w4.cell? ⟨w.heap.size, 1, none⟩ = some (.int .i64 s)) := (b4.cell (p := ⟨w.heap.size, 1, none⟩) (World.block_lt_of_cell? _ _ HVS3.out)).trans HVS3.out
    have b04 := bt b3 b4
    clear HO HR b3 b4 HVS3
    cases y with
    | false =>
      clear hy
      go_wp2_with fail
      go_ret
      exact ⟨rfl, b04⟩
    | true =>
      have HOW : Hid (Sto.Once l []) := hy rfl
      clear hy
      have hw5 : Hid (∃ (b m m2 : Nat) (M : Nat → Bool), Value.map (some w4.heap.size) = .map (some b) ∧ Hd8 ((w4.alloc (.map #[] 0)).alloc (.map #[] 0)) b m (c.d + c.s) M ∧ Go8 ((w4.alloc (.map #[] 0)).alloc (.map #[] 0)) (w4.heap.size + 1) m2 (c.d + c.s) (isGone (stK X c l 0)) ∧ b ≠ w4.heap.size + 1 ∧ w4.heap.size ≤ b ∧ m ≤ 0 + 20 ∧ m2 ≤ 0 ∧ KW X c l 0 M ∧ cnt M (c.d + c.s) ≤ c.s ∧ Below w4.heap.size w4 ((w4.alloc (.map #[] 0)).alloc (.map #[] 0))) := by
        have g1 := go8_start (w4.alloc (.map #[] 0)) (c.d + c.s)
        rw [show (w4.alloc (.map #[] 0)).heap.size = w4.heap.size + 1 by simp] at g1
        have e : isGone (stK X c l 0) = fun _ => false := by
          funext i
          unfold isGone stK
          show (match (List.replicate (c.d + c.s) (⟨false, []⟩ : Sto.Disk))[i]? with | some x => x.gone | none => false) = false
          by_cases q : i < c.d + c.s
          · rw [List.getElem?_replicate, if_pos q]
          · rw [List.getElem?_replicate, if_neg q]
        refine ⟨w4.heap.size, 0, 0, fun _ => false, rfl, (hd8_start w4 _).below ((Below.refl _ _).alloc (Nat.le_refl _) _), ?_, by omega, Nat.le_refl _, by omega, Nat.le_refl _, kw_start, by rw [cnt_none]; exact Nat.zero_le _, belA2 w4 _ _⟩
        rw [e]
        exact g1
      go_wp2_with fail
      go_loopw [8, 34] (fun y x wr => ∃ k : Nat, k ≤ n ∧ x = .int .i64 k ∧ Hid (∃ (b m m2 : Nat) (M : Nat → Bool), y = .map (some b) ∧ Hd8 wr b m (c.d + c.s) M ∧ Go8 wr (w4.heap.size + 1) m2 (c.d + c.s) (isGone (stK X c l k)) ∧ b ≠ w4.heap.size + 1 ∧ w4.heap.size ≤ b ∧ m ≤ k + 20 ∧ m2 ≤ k ∧ KW X c l k M ∧ cnt M (c.d + c.s) ≤ c.s ∧ Below w4.heap.size w4 wr)) (fun _ x _ => n - (intOf x).toNat)
      case atStart => exact ⟨0, Nat.zero_le _, rfl, hw5⟩
      case round =>
        obtain ⟨k, hk, rfl, HS⟩ := hrel
        obtain ⟨bh, m, m2, M, rfl, hHd, hGo, hbh, hbh2, hm20, hmk, hKW, hcM, hbr⟩ := HS.out
        have br := bt b04 hbr
        clear HS
        by_cases hlt : k < n
        · have hlt' : (k : Int) < (n : Int) := by omega
          obtain ⟨d9, hd9⟩ : ∃ d9, l[k]? = some d9 := ⟨l[k]'(by rw [← HN.out]; exact hlt), List.getElem?_eq_getElem _⟩
          obtain ⟨a9, ha9⟩ : ∃ a9, r.2[k]? = some a9 := ⟨r.2[k]'(by rw [hsl]; exact hlt), List.getElem?_eq_getElem _⟩
          have HA9 : Hid (a9 = (Sto.step X c (stK X c l k) d9).2) := by
            have := HAK.out k d9 hd9
            rw [ha9] at this
            exact Option.some.inj this
          have HD9 : Hid (l[k]? = some d9) := hd9
          have HKW : Hid (KW X c l k M) := hKW
          have HBY9 : Hid (d9.turn < 256) := HBY.out d9 (List.mem_of_getElem? hd9)
          have HO9 : Hid (d9.kind = 7 ∧ d9.turn ≠ 0 → (d9.n, d9.seg) ∉ hads (l.take k) []) := once_at HOW.out hd9
          have HRr := HRW.out.below hbr
          obtain ⟨bd, od, rfl, ved, td, hdin, hcs⟩ := HDO.out wr br k d9 hd9
          obtain ⟨Ae, Ce, rfl⟩ := hdin.evs.shape
          obtain ⟨Ar', Cr', hvr', _, _, hra⟩ := HRr
          obtain ⟨br9, or9, hA9, ve9, va9, f0, f1, f2, f3, f4, hev9, hac9⟩ := hra k a9 ha9
          have hvr2 : Value.slice Ar n Cr = .slice Ar' n Cr' := by rw [hvr', hsl]
          cases hvr2
          subst hA9
          obtain ⟨Ae9, Ce9, rfl⟩ := hev9.shape
          obtain ⟨Aa9, Ca9, rfl⟩ := hac9.shape
          obtain ⟨wo, hwo⟩ : ∃ y, y = wr := ⟨wr, rfl⟩
          rw [← hwo] at hbr br hHd hGo hdin hcs f0 f1 f2 f3 f4 hev9 hac9 ⊢
          clear hwo hvr' hra
          have c0 : wo.cell? ⟨bd, od + k * 9, none⟩ = some (.int .i64 d9.kind) := hcs 0 _ rfl
          have c1 := hcs 1 _ rfl
          have c2 := hcs 2 _ rfl
          have c3 := hcs 3 _ rfl
          have c4 := hcs 4 _ rfl
          have c5 := hcs 5 _ rfl
          have c6 := hcs 6 _ rfl
          have c7 := hcs 7 _ rfl
          have c8 := hcs 8 _ rfl
          have bE : Below wo.heap.size wo (wo.alloc (.cells #[.int .i64 d9.kind, .int .i64 d9.n, .int .i64 d9.seg, .int .i64 d9.pos, .int .u8 (d9.turn : Int), .int .i64 d9.bat.cmd, .slice Ae d9.bat.evs.length Ce, .string td, .int .i64 d9.ver] 43)) := (Below.refl _ _).alloc (Nat.le_refl _) _
          have VD := varN_new wo #[.int .i64 d9.kind, .int .i64 d9.n, .int .i64 d9.seg, .int .i64 d9.pos, .int .u8 (d9.turn : Int), .int .i64 d9.bat.cmd, .slice Ae d9.bat.evs.length Ce, .string td, .int .i64 d9.ver] 43
          go_upto_region 10 with fail
          have b5 := bt br bE
          have hbE := bt hbr bE
          have hl1 := hHd.lt
          have hl2 := hGo.lt
          have hHd := hHd.below bE
          have hGo := hGo.below bE
          have f0 := (bE.cell (p := ⟨br9, or9 + k * 5, none⟩) (World.block_lt_of_cell? _ _ f0)).trans f0
          have f1 := (bE.cell (p := ⟨br9, or9 + k * 5 + 1, none⟩) (World.block_lt_of_cell? _ _ f1)).trans f1
          have f2 := (bE.cell (p := ⟨br9, or9 + k * 5 + 2, none⟩) (World.block_lt_of_cell? _ _ f2)).trans f2
          have f3 := (bE.cell (p := ⟨br9, or9 + k * 5 + 3, none⟩) (World.block_lt_of_cell? _ _ f3)).trans f3
          have f4 := (bE.cell (p := ⟨br9, or9 + k * 5 + 4, none⟩) (World.block_lt_of_cell? _ _ f4)).trans f4
          have hdin := hdin.below bE
          have hev9 := hev9.below bE
          have hac9 := hac9.below bE
          have HRE := HRW.out.below hbE
          clear c0 c1 c2 c3 c4 c5 c6 c7 c8 hcs
          generalize wo.alloc (.cells #[.int .i64 d9.kind, .int .i64 d9.n, .int .i64 d9.seg, .int .i64 d9.pos, .int .u8 (d9.turn : Int), .int .i64 d9.bat.cmd, .slice Ae d9.bat.evs.length Ce, .string td, .int .i64 d9.ver] 43) = w5 at *
          have e0 := VD.cell (i := 0) rfl
          have e1 := VD.cell (i := 1) rfl
          clear hKW hd9 ha9
          by_cases hkind : d9.kind = 5
          · have hkk : d9.kind = 5 ∨ d9.kind = 6 ∨ d9.kind = 7 := by omega
            have kb5 : (d9.kind == 5) = true := by rw [hkind]; rfl
            rcases harm_gone (X := X) (c := c) (stK X c l k) hkk with ⟨he9, hgn⟩ | ⟨he9, hn0, hnl, hgn⟩
            · have eb : ((a9.err : Int) == 0) = false := by rw [beq_eq_false_iff_ne, HA9.out]; omega
              have HNX : Hid (∃ (b m m2 : Nat) (M : Nat → Bool), Value.map (some bh) = .map (some b) ∧ Hd8 w5 b m (c.d + c.s) M ∧ Go8 w5 (w4.heap.size + 1) m2 (c.d + c.s) (isGone (stK X c l (k + 1))) ∧ b ≠ w4.heap.size + 1 ∧ w4.heap.size ≤ b ∧ m ≤ k + 1 + 20 ∧ m2 ≤ k + 1 ∧ KW X c l (k + 1) M ∧ cnt M (c.d + c.s) ≤ c.s ∧ Below w4.heap.size w4 w5) := by
                refine ⟨bh, m, m2, M, rfl, hHd, ?_, hbh, hbh2, by omega, by omega, ?_, hcM, hbE⟩
                · have e : isGone (stK X c l (k + 1)) = isGone (stK X c l k) := by
                    funext i
                    rw [stK_next HD9.out]
                    exact hgn i
                  rw [e]
                  exact hGo
                · refine HKW.out.next HG.out HD9.out HBY9.out HO9.out hcM fun x hx hxl => ?_
                  unfold Sto.hurtOf at hx
                  rw [if_pos hkk, if_neg (fun z => he9 z.1)] at hx
                  exact (mem_few.1 hx).2
              have sv := (hbE.cell (p := ⟨w.heap.size, 1, none⟩) (World.block_lt_of_cell? _ _ HVS4.out)).trans HVS4.out
              have hlen := hHd.len
              have hcs' : ¬ s < (cnt M (c.d + c.s) : Int) := by have := HCS.out; omega
              clear hgn he9 hHd hGo hkind hkk hdin hev9 hac9 HRE
              go_wp2_with fail
              exact ⟨⟨k + 1, by omega, by go_num, HNX⟩, by simp [intOf]; omega⟩
            · have eb : ((a9.err : Int) == 0) = true := by rw [HA9.out, he9]; rfl
              obtain ⟨j, hjn⟩ : ∃ j : Nat, d9.n = (j : Int) := ⟨d9.n.toNat, by omega⟩
              have hjt : d9.n.toNat = j := by omega
              rw [hjt] at hnl hgn
              have hj : j < c.d + c.s := by
                obtain ⟨BL, i1, _⟩ := HKW.out.ok
                have := i1.dl
                omega
              rw [hjn] at e1
              clear hjn
              obtain ⟨D, hoM, hT, hh, hxx, hsz⟩ := hHd
              obtain ⟨D2, hoM2, hD2, hat2⟩ := hGo
              have HHH : Hid (Maps.Tidy D ∧ (∀ j : Nat, j < c.d + c.s → Maps.has D (.int .i64 (j : Int)) = M j) ∧ (∀ x : Int, Maps.has D (.int .i64 x) = true → ∃ j : Nat, j < c.d + c.s ∧ x = (j : Int)) ∧ Maps.size D = cnt M (c.d + c.s)) := ⟨hT, hh, hxx, hsz⟩
              have HHG : Hid (Maps.IsMap D2 ∧ ∀ j : Nat, j < c.d + c.s → D2.atKey (.int .i64 (j : Int)) (.lit (.bool false)) = .lit (.bool (isGone (stK X c l k) j))) := ⟨hD2, hat2⟩
              have HGN : Hid (∀ i, isGone (stK X c l (k + 1)) i = if i = j then true else isGone (stK X c l k) i) := fun i => by
                rw [stK_next HD9.out, hgn i, hkind]
                by_cases e : i = j
                · rw [if_pos e, if_pos e]
                  first | rfl | simp
                · rw [if_neg e, if_neg e]
              have HKN : Hid (KW X c l (k + 1) (lose j M)) := HKW.out.next HG.out HD9.out HBY9.out HO9.out hcM fun x hx hxl => by
                unfold Sto.hurtOf at hx
                rw [if_pos hkk, hjt] at hx
                by_cases q : x = j
                · exact if_pos q
                · have hx2 : x ∈ (List.range (c.d + c.s)).filter M := by
                    split at hx
                    · rcases List.mem_cons.1 hx with z | z
                      · exact absurd z q
                      · exact z
                    · exact hx
                  rw [show lose j M x = M x from if_neg q]
                  exact (mem_few.1 hx2).2
              clear hT hh hxx hsz hD2 hat2 hgn he9 hn0 hnl hkind hkk hjt hdin hev9 hac9 HRE HKW
              go_upto_region 18 with (at_mapUpdate; refine wpList_mapUpdate_own _ rfl (.tmp 62) (.tmp 64) (.const (.bool true)) 49 rfl 3 4 keyedI Tryz.mapIB (plainElem Tryz.prog 4) bh m D rfl hoM (by unfold maxLen; omega) (.int .i64 (j : Int)) (.bool true) (.int .i64 (j : Int)) rfl rfl (key8 j (by omega)) (.lit (.bool true)) [] (plainElem_bool Tryz.underlying4 true) ?_; intro w6 hM6 hg6)
              have hoM2 := hoM2.kept hg6 (by simp; omega)
              have e0 := (World.cell?_of_block (w := w5) (a := ⟨wo.heap.size, 0, none⟩) (hg6.block wo.heap.size (World.block_lt_of_cell? _ _ e0) (fun z => by cases z; omega))).trans e0
              have e1 := (World.cell?_of_block (w := w5) (a := ⟨wo.heap.size, 1, none⟩) (hg6.block wo.heap.size (World.block_lt_of_cell? _ _ e1) (fun z => by cases z; omega))).trans e1
              have b46 : Below w4.heap.size w4 w6 := hbE.grown hg6 hbE.size (fun y hy => by cases hy; exact hbh2)
              have HH6 : Hid (Hd8 w6 bh (m + 1) (c.d + c.s) (lose j M)) := Hd8.put HHH.out.1 HHH.out.2.1 HHH.out.2.2.1 HHH.out.2.2.2 hj hM6
              have hGo6 : Go8 w6 (w4.heap.size + 1) m2 (c.d + c.s) (isGone (stK X c l k)) := ⟨D2, hoM2, HHG.out.1, HHG.out.2⟩
              clear hGo6 hM6 hoM
              go_upto_region 19 with (at_mapUpdate; refine wpList_mapUpdate_own _ rfl (.tmp 65) (.tmp 67) (.tmp 81) 49 rfl 3 4 keyedI Tryz.mapIB (plainElem Tryz.prog 4) (w4.heap.size + 1) m2 D2 rfl hoM2 (by unfold maxLen; omega) (.int .i64 (j : Int)) (.bool true) (.int .i64 (j : Int)) rfl rfl (key8 j (by omega)) (.lit (.bool true)) [] (plainElem_bool Tryz.underlying4 true) ?_; intro w7 hM7 hg7)
              have b47 : Below w4.heap.size w4 w7 := b46.grown hg7 b46.size (fun y hy => by cases hy; exact Nat.le_succ _)
              have HH7 : Hd8 w7 bh (m + 1) (c.d + c.s) (lose j M) := HH6.out.kept hg7 (by simp; omega)
              have hGo7 : Go8 w7 (w4.heap.size + 1) (m2 + 1) (c.d + c.s) (isGone (stK X c l (k + 1))) := by
                have := Go8.put (N := c.d + c.s) (k := j) (y := true) HHG.out.1 HHG.out.2 hM7
                have e : isGone (stK X c l (k + 1)) = fun i => if i = j then true else isGone (stK X c l k) i := by
                  funext i
                  exact HGN.out i
                rw [e]
                exact this
              have sv := (b47.cell (p := ⟨w.heap.size, 1, none⟩) (World.block_lt_of_cell? _ _ HVS4.out)).trans HVS4.out
              have hlen := HH7.len
              have b07 := bt b04 b47
              by_cases hq : c.s < cnt (lose j M) (c.d + c.s)
              · have hq' : s < (cnt (lose j M) (c.d + c.s) : Int) := by have := HCS.out; omega
                clear HH7 hGo7 hM7 hg7 hg6 hoM2 hq e0 e1
                go_wp2_with fail
                go_ret
                exact ⟨rfl, b07⟩
              · have hq' : ¬ s < (cnt (lose j M) (c.d + c.s) : Int) := by have := HCS.out; omega
                have HNX : Hid (∃ (b m m2 : Nat) (M : Nat → Bool), Value.map (some bh) = .map (some b) ∧ Hd8 w7 b m (c.d + c.s) M ∧ Go8 w7 (w4.heap.size + 1) m2 (c.d + c.s) (isGone (stK X c l (k + 1))) ∧ b ≠ w4.heap.size + 1 ∧ w4.heap.size ≤ b ∧ m ≤ k + 1 + 20 ∧ m2 ≤ k + 1 ∧ KW X c l (k + 1) M ∧ cnt M (c.d + c.s) ≤ c.s ∧ Below w4.heap.size w4 w7) := ⟨bh, m + 1, m2 + 1, lose j M, rfl, HH7, hGo7, hbh, hbh2, by omega, by omega, HKN.out, by omega, b47⟩
                clear HH7 hGo7 hM7 hg7 hg6 hoM2 hq e0 e1
                go_wp2_with fail
                exact ⟨⟨k + 1, by omega, by go_num, HNX⟩, by simp [intOf]; omega⟩
          by_cases hkind : d9.kind = 6
          · have hkk : d9.kind = 5 ∨ d9.kind = 6 ∨ d9.kind = 7 := by omega
            have kb5 : (d9.kind == 5) = false := by rw [hkind]; rfl
            have kb6 : (d9.kind == 6) = true := by rw [hkind]; rfl
            have kb7 : (d9.kind == 7) = false := by rw [hkind]; rfl
            rcases harm_gone (X := X) (c := c) (stK X c l k) hkk with ⟨he9, hgn⟩ | ⟨he9, hn0, hnl, hgn⟩
            · have eb : ((a9.err : Int) == 0) = false := by rw [beq_eq_false_iff_ne, HA9.out]; omega
              have HNX : Hid (∃ (b m m2 : Nat) (M : Nat → Bool), Value.map (some bh) = .map (some b) ∧ Hd8 w5 b m (c.d + c.s) M ∧ Go8 w5 (w4.heap.size + 1) m2 (c.d + c.s) (isGone (stK X c l (k + 1))) ∧ b ≠ w4.heap.size + 1 ∧ w4.heap.size ≤ b ∧ m ≤ k + 1 + 20 ∧ m2 ≤ k + 1 ∧ KW X c l (k + 1) M ∧ cnt M (c.d + c.s) ≤ c.s ∧ Below w4.heap.size w4 w5) := by
                refine ⟨bh, m, m2, M, rfl, hHd, ?_, hbh, hbh2, by omega, by omega, ?_, hcM, hbE⟩
                · have e : isGone (stK X c l (k + 1)) = isGone (stK X c l k) := by
                    funext i
                    rw [stK_next HD9.out]
                    exact hgn i
                  rw [e]
                  exact hGo
                · refine HKW.out.next HG.out HD9.out HBY9.out HO9.out hcM fun x hx hxl => ?_
                  unfold Sto.hurtOf at hx
                  rw [if_pos hkk, if_neg (fun z => he9 z.1)] at hx
                  exact (mem_few.1 hx).2
              have sv := (hbE.cell (p := ⟨w.heap.size, 1, none⟩) (World.block_lt_of_cell? _ _ HVS4.out)).trans HVS4.out
              have hlen := hHd.len
              have hcs' : ¬ s < (cnt M (c.d + c.s) : Int) := by have := HCS.out; omega
              clear hgn he9 hHd hGo hkind hkk hdin hev9 hac9 HRE
              go_wp2_with fail
              exact ⟨⟨k + 1, by omega, by go_num, HNX⟩, by simp [intOf]; omega⟩
            · have eb : ((a9.err : Int) == 0) = true := by rw [HA9.out, he9]; rfl
              obtain ⟨j, hjn⟩ : ∃ j : Nat, d9.n = (j : Int) := ⟨d9.n.toNat, by omega⟩
              have hjt : d9.n.toNat = j := by omega
              rw [hjt] at hnl hgn
              have hj : j < c.d + c.s := by
                obtain ⟨BL, i1, _⟩ := HKW.out.ok
                have := i1.dl
                omega
              rw [hjn] at e1
              clear hjn
              obtain ⟨D, hoM, hT, hh, hxx, hsz⟩ := hHd
              obtain ⟨D2, hoM2, hD2, hat2⟩ := hGo
              have HHH : Hid (Maps.Tidy D ∧ (∀ j : Nat, j < c.d + c.s → Maps.has D (.int .i64 (j : Int)) = M j) ∧ (∀ x : Int, Maps.has D (.int .i64 x) = true → ∃ j : Nat, j < c.d + c.s ∧ x = (j : Int)) ∧ Maps.size D = cnt M (c.d + c.s)) := ⟨hT, hh, hxx, hsz⟩
              have HHG : Hid (Maps.IsMap D2 ∧ ∀ j : Nat, j < c.d + c.s → D2.atKey (.int .i64 (j : Int)) (.lit (.bool false)) = .lit (.bool (isGone (stK X c l k) j))) := ⟨hD2, hat2⟩
              have HGN : Hid (∀ i, isGone (stK X c l (k + 1)) i = if i = j then false else isGone (stK X c l k) i) := fun i => by
                rw [stK_next HD9.out, hgn i, hkind]
                by_cases e : i = j
                · rw [if_pos e, if_pos e]
                  first | rfl | simp
                · rw [if_neg e, if_neg e]
              have HKN : Hid (KW X c l (k + 1) (lose j M)) := HKW.out.next HG.out HD9.out HBY9.out HO9.out hcM fun x hx hxl => by
                unfold Sto.hurtOf at hx
                rw [if_pos hkk, hjt] at hx
                by_cases q : x = j
                · exact if_pos q
                · have hx2 : x ∈ (List.range (c.d + c.s)).filter M := by
                    split at hx
                    · rcases List.mem_cons.1 hx with z | z
                      · exact absurd z q
                      · exact z
                    · exact hx
                  rw [show lose j M x = M x from if_neg q]
                  exact (mem_few.1 hx2).2
              clear hT hh hxx hsz hD2 hat2 hgn he9 hn0 hnl hkind hkk hjt hdin hev9 hac9 HRE HKW
              go_upto_region 18 with (at_mapUpdate; refine wpList_mapUpdate_own _ rfl (.tmp 62) (.tmp 64) (.const (.bool true)) 49 rfl 3 4 keyedI Tryz.mapIB (plainElem Tryz.prog 4) bh m D rfl hoM (by unfold maxLen; omega) (.int .i64 (j : Int)) (.bool true) (.int .i64 (j : Int)) rfl rfl (key8 j (by omega)) (.lit (.bool true)) [] (plainElem_bool Tryz.underlying4 true) ?_; intro w6 hM6 hg6)
              have hoM2 := hoM2.kept hg6 (by simp; omega)
              have e0 := (World.cell?_of_block (w := w5) (a := ⟨wo.heap.size, 0, none⟩) (hg6.block wo.heap.size (World.block_lt_of_cell? _ _ e0) (fun z => by cases z; omega))).trans e0
              have e1 := (World.cell?_of_block (w := w5) (a := ⟨wo.heap.size, 1, none⟩) (hg6.block wo.heap.size (World.block_lt_of_cell? _ _ e1) (fun z => by cases z; omega))).trans e1
              have b46 : Below w4.heap.size w4 w6 := hbE.grown hg6 hbE.size (fun y hy => by cases hy; exact hbh2)
              have HH6 : Hid (Hd8 w6 bh (m + 1) (c.d + c.s) (lose j M)) := Hd8.put HHH.out.1 HHH.out.2.1 HHH.out.2.2.1 HHH.out.2.2.2 hj hM6
              have hGo6 : Go8 w6 (w4.heap.size + 1) m2 (c.d + c.s) (isGone (stK X c l k)) := ⟨D2, hoM2, HHG.out.1, HHG.out.2⟩
              clear hGo6 hM6 hoM
              go_upto_region 19 with (at_mapUpdate; refine wpList_mapUpdate_own _ rfl (.tmp 65) (.tmp 67) (.tmp 81) 49 rfl 3 4 keyedI Tryz.mapIB (plainElem Tryz.prog 4) (w4.heap.size + 1) m2 D2 rfl hoM2 (by unfold maxLen; omega) (.int .i64 (j : Int)) (.bool false) (.int .i64 (j : Int)) rfl rfl (key8 j (by omega)) (.lit (.bool false)) [] (plainElem_bool Tryz.underlying4 false) ?_; intro w7 hM7 hg7)
              have b47 : Below w4.heap.size w4 w7 := b46.grown hg7 b46.size (fun y hy => by cases hy; exact Nat.le_succ _)
              have HH7 : Hd8 w7 bh (m + 1) (c.d + c.s) (lose j M) := HH6.out.kept hg7 (by simp; omega)
              have hGo7 : Go8 w7 (w4.heap.size + 1) (m2 + 1) (c.d + c.s) (isGone (stK X c l (k + 1))) := by
                have := Go8.put (N := c.d + c.s) (k := j) (y := false) HHG.out.1 HHG.out.2 hM7
                have e : isGone (stK X c l (k + 1)) = fun i => if i = j then false else isGone (stK X c l k) i := by
                  funext i
                  exact HGN.out i
                rw [e]
                exact this
              have sv := (b47.cell (p := ⟨w.heap.size, 1, none⟩) (World.block_lt_of_cell? _ _ HVS4.out)).trans HVS4.out
              have hlen := HH7.len
              have b07 := bt b04 b47
              by_cases hq : c.s < cnt (lose j M) (c.d + c.s)
              · have hq' : s < (cnt (lose j M) (c.d + c.s) : Int) := by have := HCS.out; omega
                clear HH7 hGo7 hM7 hg7 hg6 hoM2 hq e0 e1
                go_wp2_with fail
                go_ret
                exact ⟨rfl, b07⟩
              · have hq' : ¬ s < (cnt (lose j M) (c.d + c.s) : Int) := by have := HCS.out; omega
                have HNX : Hid (∃ (b m m2 : Nat) (M : Nat → Bool), Value.map (some bh) = .map (some b) ∧ Hd8 w7 b m (c.d + c.s) M ∧ Go8 w7 (w4.heap.size + 1) m2 (c.d + c.s) (isGone (stK X c l (k + 1))) ∧ b ≠ w4.heap.size + 1 ∧ w4.heap.size ≤ b ∧ m ≤ k + 1 + 20 ∧ m2 ≤ k + 1 ∧ KW X c l (k + 1) M ∧ cnt M (c.d + c.s) ≤ c.s ∧ Below w4.heap.size w4 w7) := ⟨bh, m + 1, m2 + 1, lose j M, rfl, HH7, hGo7, hbh, hbh2, by omega, by omega, HKN.out, by omega, b47⟩
                clear HH7 hGo7 hM7 hg7 hg6 hoM2 hq e0 e1
                go_wp2_with fail
                exact ⟨⟨k + 1, by omega, by go_num, HNX⟩, by simp [intOf]; omega⟩
          by_cases hkind : d9.kind = 7
          · have hkk : d9.kind = 5 ∨ d9.kind = 6 ∨ d9.kind = 7 := by omega
            have kb5 : (d9.kind == 5) = false := by rw [hkind]; rfl
            have kb6 : (d9.kind == 6) = false := by rw [hkind]; rfl
            have kb7 : (d9.kind == 7) = true := by rw [hkind]; rfl
            rcases harm_gone (X := X) (c := c) (stK X c l k) hkk with ⟨he9, hgn⟩ | ⟨he9, hn0, hnl, hgn⟩
            · have eb : ((a9.err : Int) == 0) = false := by rw [beq_eq_false_iff_ne, HA9.out]; omega
              have HNX : Hid (∃ (b m m2 : Nat) (M : Nat → Bool), Value.map (some bh) = .map (some b) ∧ Hd8 w5 b m (c.d + c.s) M ∧ Go8 w5 (w4.heap.size + 1) m2 (c.d + c.s) (isGone (stK X c l (k + 1))) ∧ b ≠ w4.heap.size + 1 ∧ w4.heap.size ≤ b ∧ m ≤ k + 1 + 20 ∧ m2 ≤ k + 1 ∧ KW X c l (k + 1) M ∧ cnt M (c.d + c.s) ≤ c.s ∧ Below w4.heap.size w4 w5) := by
                refine ⟨bh, m, m2, M, rfl, hHd, ?_, hbh, hbh2, by omega, by omega, ?_, hcM, hbE⟩
                · have e : isGone (stK X c l (k + 1)) = isGone (stK X c l k) := by
                    funext i
                    rw [stK_next HD9.out]
                    exact hgn i
                  rw [e]
                  exact hGo
                · refine HKW.out.next HG.out HD9.out HBY9.out HO9.out hcM fun x hx hxl => ?_
                  unfold Sto.hurtOf at hx
                  rw [if_pos hkk, if_neg (fun z => he9 z.1)] at hx
                  exact (mem_few.1 hx).2
              have sv := (hbE.cell (p := ⟨w.heap.size, 1, none⟩) (World.block_lt_of_cell? _ _ HVS4.out)).trans HVS4.out
              have hlen := hHd.len
              have hcs' : ¬ s < (cnt M (c.d + c.s) : Int) := by have := HCS.out; omega
              clear hgn he9 hHd hGo hkind hkk hdin hev9 hac9 HRE
              go_wp2_with fail
              exact ⟨⟨k + 1, by omega, by go_num, HNX⟩, by simp [intOf]; omega⟩
            · have eb : ((a9.err : Int) == 0) = true := by rw [HA9.out, he9]; rfl
              obtain ⟨j, hjn⟩ : ∃ j : Nat, d9.n = (j : Int) := ⟨d9.n.toNat, by omega⟩
              have hjt : d9.n.toNat = j := by omega
              rw [hjt] at hnl hgn
              have hj : j < c.d + c.s := by
                obtain ⟨BL, i1, _⟩ := HKW.out.ok
                have := i1.dl
                omega
              rw [hjn] at e1
              clear hjn
              obtain ⟨D, hoM, hT, hh, hxx, hsz⟩ := hHd
              obtain ⟨D2, hoM2, hD2, hat2⟩ := hGo
              have HHH : Hid (Maps.Tidy D ∧ (∀ j : Nat, j < c.d + c.s → Maps.has D (.int .i64 (j : Int)) = M j) ∧ (∀ x : Int, Maps.has D (.int .i64 x) = true → ∃ j : Nat, j < c.d + c.s ∧ x = (j : Int)) ∧ Maps.size D = cnt M (c.d + c.s)) := ⟨hT, hh, hxx, hsz⟩
              have HHG : Hid (Maps.IsMap D2 ∧ ∀ j : Nat, j < c.d + c.s → D2.atKey (.int .i64 (j : Int)) (.lit (.bool false)) = .lit (.bool (isGone (stK X c l k) j))) := ⟨hD2, hat2⟩
              have HGN : Hid (∀ i, isGone (stK X c l (k + 1)) i = if i = j then (isGone (stK X c l k) j) else isGone (stK X c l k) i) := fun i => by
                rw [stK_next HD9.out, hgn i, hkind]
                by_cases e : i = j
                · rw [if_pos e, if_pos e]
                  first | rfl | simp
                · rw [if_neg e, if_neg e]
              have HKN : Hid (KW X c l (k + 1) (lose j M)) := HKW.out.next HG.out HD9.out HBY9.out HO9.out hcM fun x hx hxl => by
                unfold Sto.hurtOf at hx
                rw [if_pos hkk, hjt] at hx
                by_cases q : x = j
                · exact if_pos q
                · have hx2 : x ∈ (List.range (c.d + c.s)).filter M := by
                    split at hx
                    · rcases List.mem_cons.1 hx with z | z
                      · exact absurd z q
                      · exact z
                    · exact hx
                  rw [show lose j M x = M x from if_neg q]
                  exact (mem_few.1 hx2).2
              clear hT hh hxx hsz hD2 hat2 hgn he9 hn0 hnl hkind hkk hjt hdin hev9 hac9 HRE HKW
              go_upto_region 18 with (at_mapUpdate; refine wpList_mapUpdate_own _ rfl (.tmp 62) (.tmp 64) (.const (.bool true)) 49 rfl 3 4 keyedI Tryz.mapIB (plainElem Tryz.prog 4) bh m D rfl hoM (by unfold maxLen; omega) (.int .i64 (j : Int)) (.bool true) (.int .i64 (j : Int)) rfl rfl (key8 j (by omega)) (.lit (.bool true)) [] (plainElem_bool Tryz.underlying4 true) ?_; intro w6 hM6 hg6)
              have hoM2 := hoM2.kept hg6 (by simp; omega)
              have e0 := (World.cell?_of_block (w := w5) (a := ⟨wo.heap.size, 0, none⟩) (hg6.block wo.heap.size (World.block_lt_of_cell? _ _ e0) (fun z => by cases z; omega))).trans e0
              have e1 := (World.cell?_of_block (w := w5) (a := ⟨wo.heap.size, 1, none⟩) (hg6.block wo.heap.size (World.block_lt_of_cell? _ _ e1) (fun z => by cases z; omega))).trans e1
              have b46 : Below w4.heap.size w4 w6 := hbE.grown hg6 hbE.size (fun y hy => by cases hy; exact hbh2)
              have HH6 : Hid (Hd8 w6 bh (m + 1) (c.d + c.s) (lose j M)) := Hd8.put HHH.out.1 HHH.out.2.1 HHH.out.2.2.1 HHH.out.2.2.2 hj hM6
              have hGo6 : Go8 w6 (w4.heap.size + 1) m2 (c.d + c.s) (isGone (stK X c l k)) := ⟨D2, hoM2, HHG.out.1, HHG.out.2⟩
              have hlk := hGo6.look j hj (by omega)
              clear hGo6 hM6 hoM
              go_upto_region 19 with (at_mapUpdate; refine wpList_mapUpdate_own _ rfl (.tmp 65) (.tmp 67) (.tmp 81) 49 rfl 3 4 keyedI Tryz.mapIB (plainElem Tryz.prog 4) (w4.heap.size + 1) m2 D2 rfl hoM2 (by unfold maxLen; omega) (.int .i64 (j : Int)) (.bool (isGone (stK X c l k) j)) (.int .i64 (j : Int)) rfl rfl (key8 j (by omega)) (.lit (.bool (isGone (stK X c l k) j))) [] (plainElem_bool Tryz.underlying4 (isGone (stK X c l k) j)) ?_; intro w7 hM7 hg7)
              have b47 : Below w4.heap.size w4 w7 := b46.grown hg7 b46.size (fun y hy => by cases hy; exact Nat.le_succ _)
              have HH7 : Hd8 w7 bh (m + 1) (c.d + c.s) (lose j M) := HH6.out.kept hg7 (by simp; omega)
              have hGo7 : Go8 w7 (w4.heap.size + 1) (m2 + 1) (c.d + c.s) (isGone (stK X c l (k + 1))) := by
                have := Go8.put (N := c.d + c.s) (k := j) (y := (isGone (stK X c l k) j)) HHG.out.1 HHG.out.2 hM7
                have e : isGone (stK X c l (k + 1)) = fun i => if i = j then (isGone (stK X c l k) j) else isGone (stK X c l k) i := by
                  funext i
                  exact HGN.out i
                rw [e]
                exact this
              have sv := (b47.cell (p := ⟨w.heap.size, 1, none⟩) (World.block_lt_of_cell? _ _ HVS4.out)).trans HVS4.out
              have hlen := HH7.len
              have b07 := bt b04 b47
              by_cases hq : c.s < cnt (lose j M) (c.d + c.s)
              · have hq' : s < (cnt (lose j M) (c.d + c.s) : Int) := by have := HCS.out; omega
                clear HH7 hGo7 hM7 hg7 hg6 hoM2 hq e0 e1
                go_wp2_with fail
                go_ret
                exact ⟨rfl, b07⟩
              · have hq' : ¬ s < (cnt (lose j M) (c.d + c.s) : Int) := by have := HCS.out; omega
                have HNX : Hid (∃ (b m m2 : Nat) (M : Nat → Bool), Value.map (some bh) = .map (some b) ∧ Hd8 w7 b m (c.d + c.s) M ∧ Go8 w7 (w4.heap.size + 1) m2 (c.d + c.s) (isGone (stK X c l (k + 1))) ∧ b ≠ w4.heap.size + 1 ∧ w4.heap.size ≤ b ∧ m ≤ k + 1 + 20 ∧ m2 ≤ k + 1 ∧ KW X c l (k + 1) M ∧ cnt M (c.d + c.s) ≤ c.s ∧ Below w4.heap.size w4 w7) := ⟨bh, m + 1, m2 + 1, lose j M, rfl, HH7, hGo7, hbh, hbh2, by omega, by omega, HKN.out, by omega, b47⟩
                clear HH7 hGo7 hM7 hg7 hg6 hoM2 hq e0 e1
                go_wp2_with fail
                exact ⟨⟨k + 1, by omega, by go_num, HNX⟩, by simp [intOf]; omega⟩
          have kb5 : (d9.kind == 5) = false := by rw [beq_eq_false_iff_ne]; omega
          have kb6 : (d9.kind == 6) = false := by rw [beq_eq_false_iff_ne]; omega
          have kb7 : (d9.kind == 7) = false := by rw [beq_eq_false_iff_ne]; omega
          have hk567 : ¬ (d9.kind = 5 ∨ d9.kind = 6 ∨ d9.kind = 7) := by omega
          have HGE : Hid (isGone (stK X c l (k + 1)) = isGone (stK X c l k)) := by
            funext i
            rw [stK_next HD9.out]
            exact gone_else _ hk567 i
          by_cases hkind8 : d9.kind = 8
          · have kb8 : (d9.kind == 8) = true := by rw [hkind8]; rfl
            have eb : ((a9.err : Int) != 0) = false := by rw [HA9.out, HKW.out.scrub HG.out hcM hkind8]; rfl
            have HK8 : Hid (d9.kind = 8) := hkind8
            have b6 : Below w5.heap.size w5 (w5.alloc (.map #[] 0)) := (Below.refl _ _).alloc (Nat.le_refl _) _
            obtain ⟨D, hoM, hT, hh, hxx, hsz⟩ := hHd.below b6
            have HHH : Hid (Maps.Tidy D ∧ (∀ j : Nat, j < c.d + c.s → Maps.has D (.int .i64 (j : Int)) = M j) ∧ (∀ x : Int, Maps.has D (.int .i64 x) = true → ∃ j : Nat, j < c.d + c.s ∧ x = (j : Int)) ∧ Maps.size D = cnt M (c.d + c.s)) := ⟨hT, hh, hxx, hsz⟩
            have HGO6 : Hid (Go8 (w5.alloc (.map #[] 0)) (w4.heap.size + 1) m2 (c.d + c.s) (isGone (stK X c l k))) := hGo.below b6
            have HST6 : Hid (Hd8 (w5.alloc (.map #[] 0)) w5.heap.size 0 (c.d + c.s) (fun _ => false)) := hd8_start w5 _
            have hl3 : w4.heap.size + 1 < w5.heap.size := hGo.lt
            have hl4 : bh < w5.heap.size := hHd.lt
            clear hT hh hxx hsz hHd hGo hkind8 hk567 hdin hev9 hac9 HRE VD f1 f2 f3 f4
            go_wp2_with (first | (at_range; refine wpList_range_own _ rfl _ 49 rfl 3 4 keyedI Tryz.mapIB _ bh m D rfl hoM ?_; intro w7 hrg0 hg0 hs0) | go_in)
            try go_frame
            have e1' : (w5.alloc (.map #[] 0)).heap.size = w5.heap.size + 1 := by simp
            rw [e1'] at hrg0 hs0 ⊢
            have HST : Hid (∃ (left : Lit → Bool) (cnt' m3 : Nat) (M3 : Nat → Bool), w7.ranges Tryz.prog 3 (plainElem Tryz.prog 4) bh (w5.heap.size + 1) m D left cnt' ∧ Hd8 w7 w5.heap.size m3 (c.d + c.s) M3 ∧ Go8 w7 (w4.heap.size + 1) m2 (c.d + c.s) (isGone (stK X c l k)) ∧ (∀ j : Nat, j < c.d + c.s → M3 j = (M j && isGone (stK X c l k) j && !left (.int .i64 (j : Int)))) ∧ m3 + cnt' ≤ Maps.size D ∧ Below w5.heap.size w5 w7) := by
              refine ⟨_, _, 0, fun _ => false, hrg0, HST6.out.kept hg0 (by simp), HGO6.out.kept hg0 (by simp), fun j hj => ?_, by omega, b6.grown hg0 b6.size (fun j hj => by cases hj)⟩
              rw [HHH.out.2.1 j hj]
              cases M j <;> cases isGone (stK X c l k) j <;> rfl
            clear hg0 hs0 hrg0 HST6 HGO6 hoM b6 e1'
            go_loopw [13] (fun _ wr => Hid (∃ (left : Lit → Bool) (cnt' m3 : Nat) (M3 : Nat → Bool), wr.ranges Tryz.prog 3 (plainElem Tryz.prog 4) bh (w5.heap.size + 1) m D left cnt' ∧ Hd8 wr w5.heap.size m3 (c.d + c.s) M3 ∧ Go8 wr (w4.heap.size + 1) m2 (c.d + c.s) (isGone (stK X c l k)) ∧ (∀ j : Nat, j < c.d + c.s → M3 j = (M j && isGone (stK X c l k) j && !left (.int .i64 (j : Int)))) ∧ m3 + cnt' ≤ Maps.size D ∧ Below w5.heap.size w5 wr)) (fun _ wr => wr.rangeLeft bh (w5.heap.size + 1))
            case atStart => exact HST
            case round =>
              obtain ⟨left, cnt', m3, M3, hrg, hH3, hG3, hM3, hms, hb3⟩ := hrel.out
              have HM3 : Hid (∀ j : Nat, j < c.d + c.s → M3 j = (M j && isGone (stK X c l k) j && !left (.int .i64 (j : Int)))) := hM3
              have hcl := cnt_le M (c.d + c.s)
              have hszD : Maps.size D = cnt M (c.d + c.s) := HHH.out.2.2.2
              clear hM3 hrel HST
              go_wp2_with (first | (at_next; refine wpList_next_ranges _ rfl _ rfl 3 keyedI (plainElem Tryz.prog 4) (Value.int .i64) Value.bool invK8 invV8 bh (w5.heap.size + 1) m D left cnt' rfl hrg ?_ ?_) | go_in)
              · intro hc0 hl0
                have HNX : Hid (∃ (b m m2 : Nat) (M : Nat → Bool), Value.map (some w5.heap.size) = .map (some b) ∧ Hd8 wr b m (c.d + c.s) M ∧ Go8 wr (w4.heap.size + 1) m2 (c.d + c.s) (isGone (stK X c l (k + 1))) ∧ b ≠ w4.heap.size + 1 ∧ w4.heap.size ≤ b ∧ m ≤ k + 1 + 20 ∧ m2 ≤ k + 1 ∧ KW X c l (k + 1) M ∧ cnt M (c.d + c.s) ≤ c.s ∧ Below w4.heap.size w4 wr) := by
                  refine ⟨w5.heap.size, m3, m2, M3, rfl, hH3, ?_, by omega, by omega, by omega, by omega, ?_, ?_, bt hbE hb3⟩
                  · rw [HGE.out]
                    exact hG3
                  · refine HKW.out.next HG.out HD9.out HBY9.out HO9.out hcM fun x hx hxl => ?_
                    have hx := hurt8 HK8.out hx
                    rw [HM3.out x hxl, (mem_few.1 hx.1).2, hx.2, hl0]
                    rfl
                  · refine Nat.le_trans (cnt_mono (c.d + c.s) fun i hi q => ?_) hcM
                    rw [HM3.out i hi] at q
                    cases hMi : M i
                    · rw [hMi] at q
                      cases q
                    · rfl
                clear hrg hH3 hG3
                go_wp2_with fail
                exact ⟨⟨k + 1, by omega, by go_num, HNX⟩, by simp [intOf]; omega⟩
              · intro x
                refine ⟨?_, ?_⟩
                all_goals
                  intro kl ya yb w8 cnt1 hkx hlx hvx hat8 hrg1 hlt8 hg8 hs8 hen
                  obtain ⟨x', ex, rfl, hwx⟩ := Maps.keyOf_int_inv Tryz.underlying3 hkx
                  cases ex
                  obtain ⟨j, hj, rfl⟩ := HHH.out.2.2.1 x (Maps.has_true_of_atKey hat8)
                  have hMj : M j = true := by
                    rw [← HHH.out.2.1 j hj]
                    exact Maps.has_true_of_atKey hat8
                  have hH8 := hH3.kept hg8 (by simp)
                  have hG8 := hG3.kept hg8 (by simp; omega)
                  have hb8 : Below w5.heap.size w5 w8 := hb3.grown hg8 hb3.size (fun j hj => by cases hj; exact Nat.le_succ _)
                  have hlk := hG8.look j hj (by omega)
                  have hleft := hrg.left_eq
                  cases hgj : isGone (stK X c l k) j with
                  | true =>
                    rw [hgj] at hlk
                    obtain ⟨D3, hoM3, hT3, hh3, hxx3, hsz3⟩ := hH8
                    have HH3 : Hid (Maps.Tidy D3 ∧ (∀ j : Nat, j < c.d + c.s → Maps.has D3 (.int .i64 (j : Int)) = M3 j) ∧ (∀ x : Int, Maps.has D3 (.int .i64 x) = true → ∃ j : Nat, j < c.d + c.s ∧ x = (j : Int)) ∧ Maps.size D3 = cnt M3 (c.d + c.s)) := ⟨hT3, hh3, hxx3, hsz3⟩
                    clear hT3 hh3 hxx3 hsz3 hH3 hG3
                    go_wp2_with (first | (at_mapUpdate; refine wpList_mapUpdate_own _ rfl (.tmp 105) (.tmp 106) (.const (.bool true)) 49 rfl 3 4 keyedI Tryz.mapIB (plainElem Tryz.prog 4) w5.heap.size m3 D3 rfl hoM3 (by unfold maxLen; omega) (.int .i64 (j : Int)) (.bool true) (.int .i64 (j : Int)) rfl rfl (key8 j (by omega)) (.lit (.bool true)) [] (plainElem_bool Tryz.underlying4 true) ?_; intro w9 hM9 hg9; go_frame) | go_in)
                    have hrg9 := hrg1.kept hg9 (fun e => by have := Option.some.inj e; omega) (fun e => by have := Option.some.inj e; omega)
                    go_roundw
                    case rel =>
                      refine ⟨_, cnt1, m3 + 1, lose j M3, hrg9, Hd8.put HH3.out.1 HH3.out.2.1 HH3.out.2.2.1 HH3.out.2.2.2 hj hM9, hG8.kept hg9 (by simp; omega), fun i hi => ?_, by omega, hb8.grown hg9 hb8.size (fun j hj => by cases hj; exact Nat.le_refl _)⟩
                      by_cases e : i = j
                      · subst e
                        rw [show lose i M3 i = true from if_pos rfl, hMj, hgj, key_same]
                        cases left (.int .i64 (i : Int)) <;> rfl
                      · rw [show lose j M3 i = M3 i from if_neg e, HM3.out i hi, key_ne e]
                        cases left (.int .i64 (i : Int)) <;> rfl
                    case measure => rw [hrg9.left_eq, hleft]; exact hlt8
                  | false =>
                    rw [hgj] at hlk
                    have HNX : Hid (∃ (left : Lit → Bool) (cnt' m3 : Nat) (M3 : Nat → Bool), w8.ranges Tryz.prog 3 (plainElem Tryz.prog 4) bh (w5.heap.size + 1) m D left cnt' ∧ Hd8 w8 w5.heap.size m3 (c.d + c.s) M3 ∧ Go8 w8 (w4.heap.size + 1) m2 (c.d + c.s) (isGone (stK X c l k)) ∧ (∀ j : Nat, j < c.d + c.s → M3 j = (M j && isGone (stK X c l k) j && !left (.int .i64 (j : Int)))) ∧ m3 + cnt' ≤ Maps.size D ∧ Below w5.heap.size w5 w8) := by
                      refine ⟨_, cnt1, m3, M3, hrg1, hH8, hG8, fun i hi => ?_, by omega, hb8⟩
                      rw [HM3.out i hi]
                      by_cases e : i = j
                      · subst e
                        rw [hgj]
                        cases M i <;> rfl
                      · rw [key_ne e]
                        cases left (.int .i64 (i : Int)) <;> rfl
                    have HME : Hid (w8.rangeLeft bh (w5.heap.size + 1) < wr.rangeLeft bh (w5.heap.size + 1)) := by
                      show _ < _
                      rw [hrg1.left_eq, hleft]
                      exact hlt8
                    clear hrg hrg1 hH3 hG3 hH8 hG8
                    go_wp2_with fail
                    exact ⟨HNX, HME.out⟩
          · have kb8 : (d9.kind == 8) = false := by rw [beq_eq_false_iff_ne]; exact hkind8
            have HQ : Sto.Answers d9 a9 (toldK X c l k) := by
              rw [HA9.out]
              exact HKW.out.told HG.out hcM
            have HNK : Hid (∀ w10, Below w5.heap.size w5 w10 → ∃ (b m m2 : Nat) (M : Nat → Bool), Value.map (some bh) = .map (some b) ∧ Hd8 w10 b m (c.d + c.s) M ∧ Go8 w10 (w4.heap.size + 1) m2 (c.d + c.s) (isGone (stK X c l (k + 1))) ∧ b ≠ w4.heap.size + 1 ∧ w4.heap.size ≤ b ∧ m ≤ k + 1 + 20 ∧ m2 ≤ k + 1 ∧ KW X c l (k + 1) M ∧ cnt M (c.d + c.s) ≤ c.s ∧ Below w4.heap.size w4 w10) := fun w10 hb => ⟨bh, m, m2, M, rfl, hHd.below hb, by rw [HGE.out]; exact hGo.below hb, hbh, hbh2, by omega, by omega, HKW.out.next HG.out HD9.out HBY9.out HO9.out hcM (fun x hx hxl => by
              unfold Sto.hurtOf at hx
              rw [if_neg hk567, if_neg hkind8] at hx
              exact (mem_few.1 hx).2), hcM, bt hbE hb⟩
            clear hkind8 hk567 hHd hGo
            go_upto_region 11 with fail
            have bD : Below w5.heap.size w5 w5.drew := (Below.refl _ _).drew
            have HT9 := HT.out w5.drew (.slice (some ⟨br9, or9, none⟩) n Cr) k (by omega) (bt b5 bD) (HRE.below bD)
            have HAN : ∀ w9 v9 es9, Below w5.heap.size w5 w9 → EBuf w9 w5.drew.heap.size v9 es9 → es9.map evOf = toldK X c l k → AnsC d9 Ae Ce td a9 (.slice Ae9 a9.evs.length Ce9) (.slice Aa9 a9.vl.length Ca9) v9 w9 := fun w9 v9 es9 hb hE hm => answers_any d9 Ae Ce td a9 _ _ v9 _ es9 w9 (hdin.below hb) (by rw [hm]; exact HQ) hE (by
              have := HTL.out k
              rw [← hm, List.length_map] at this
              exact this) (hev9.below hb) (hac9.below hb)
            have HSo : ∀ w', Below w5.heap.size w5 w' → ((w'.cell? ⟨wo.heap.size, 0, none⟩ = some (.int .i64 d9.kind) ∧ w'.cell? ⟨wo.heap.size, 1, none⟩ = some (.int .i64 d9.n) ∧ w'.cell? ⟨wo.heap.size, 2, none⟩ = some (.int .i64 d9.seg) ∧ w'.cell? ⟨wo.heap.size, 3, none⟩ = some (.int .i64 d9.pos) ∧ w'.cell? ⟨wo.heap.size, 4, none⟩ = some (.int .u8 (d9.turn : Int)) ∧ w'.cell? ⟨wo.heap.size, 5, none⟩ = some (.int .i64 d9.bat.cmd) ∧ w'.cell? ⟨wo.heap.size, 6, none⟩ = some (.slice Ae d9.bat.evs.length Ce) ∧ w'.cell? ⟨wo.heap.size, 7, none⟩ = some (.string td) ∧ w'.cell? ⟨wo.heap.size, 8, none⟩ = some (.int .i64 d9.ver)) ∧ w'.cell? ⟨br9, or9 + k * 5, none⟩ = some (.int .i64 (a9.err : Nat)) ∧ w'.cell? ⟨br9, or9 + k * 5 + 1, none⟩ = some (.int .i64 a9.n) ∧ w'.cell? ⟨br9, or9 + k * 5 + 2, none⟩ = some (.slice Ae9 a9.evs.length Ce9) ∧ w'.cell? ⟨br9, or9 + k * 5 + 3, none⟩ = some (.int .i64 a9.vu) ∧ w'.cell? ⟨br9, or9 + k * 5 + 4, none⟩ = some (.slice Aa9 a9.vl.length Ca9)) ∧ Below w5.heap.size w5 w' := fun w' hb => ⟨⟨⟨(VD.below hb).cell (i := 0) rfl, (VD.below hb).cell (i := 1) rfl, (VD.below hb).cell (i := 2) rfl, (VD.below hb).cell (i := 3) rfl, (VD.below hb).cell (i := 4) rfl, (VD.below hb).cell (i := 5) rfl, (VD.below hb).cell (i := 6) rfl, (VD.below hb).cell (i := 7) rfl, (VD.below hb).cell (i := 8) rfl⟩, (hb.cell (p := ⟨br9, or9 + k * 5, none⟩) (World.block_lt_of_cell? _ _ f0)).trans f0, (hb.cell (p := ⟨br9, or9 + k * 5 + 1, none⟩) (World.block_lt_of_cell? _ _ f1)).trans f1, (hb.cell (p := ⟨br9, or9 + k * 5 + 2, none⟩) (World.block_lt_of_cell? _ _ f2)).trans f2, (hb.cell (p := ⟨br9, or9 + k * 5 + 3, none⟩) (World.block_lt_of_cell? _ _ f3)).trans f3, (hb.cell (p := ⟨br9, or9 + k * 5 + 4, none⟩) (World.block_lt_of_cell? _ _ f4)).trans f4⟩, hb⟩
            have TD := HSo w5.drew bD
            clear HQ VD f0 f1 f2 f3 f4 hdin hev9 hac9 HRE
            go_region_held3 (fun w' => ((w'.cell? ⟨wo.heap.size, 0, none⟩ = some (.int .i64 d9.kind) ∧ w'.cell? ⟨wo.heap.size, 1, none⟩ = some (.int .i64 d9.n) ∧ w'.cell? ⟨wo.heap.size, 2, none⟩ = some (.int .i64 d9.seg) ∧ w'.cell? ⟨wo.heap.size, 3, none⟩ = some (.int .i64 d9.pos) ∧ w'.cell? ⟨wo.heap.size, 4, none⟩ = some (.int .u8 (d9.turn : Int)) ∧ w'.cell? ⟨wo.heap.size, 5, none⟩ = some (.int .i64 d9.bat.cmd) ∧ w'.cell? ⟨wo.heap.size, 6, none⟩ = some (.slice Ae d9.bat.evs.length Ce) ∧ w'.cell? ⟨wo.heap.size, 7, none⟩ = some (.string td) ∧ w'.cell? ⟨wo.heap.size, 8, none⟩ = some (.int .i64 d9.ver)) ∧ w'.cell? ⟨br9, or9 + k * 5, none⟩ = some (.int .i64 (a9.err : Nat)) ∧ w'.cell? ⟨br9, or9 + k * 5 + 1, none⟩ = some (.int .i64 a9.n) ∧ w'.cell? ⟨br9, or9 + k * 5 + 2, none⟩ = some (.slice Ae9 a9.evs.length Ce9) ∧ w'.cell? ⟨br9, or9 + k * 5 + 3, none⟩ = some (.int .i64 a9.vu) ∧ w'.cell? ⟨br9, or9 + k * 5 + 4, none⟩ = some (.slice Aa9 a9.vl.length Ca9)) ∧ Below w5.heap.size w5 w')
              (first | with_reducible exact TD | with_reducible assumption)
              (first | (go_at_call 13; refine HT9.mono ?_; rintro e9 w9 ⟨⟨v9, es9, rfl, hm9, hE9⟩, b9⟩; have B9 := bt bD b9; have S9 := HSo w9 B9)
                     | (go_at_call 12; refine (HAN w9 _ es9 B9 hE9 hm9).mono ?_; rintro e10 w10 ⟨rfl, b10⟩; have S10 := HSo w10 (bt B9 b10)))
            go_wp2_with fail
            exact ⟨⟨k + 1, by omega, by go_num, HNK.out _ (bt B9 b10)⟩, by simp [intOf]; omega⟩
        · obtain rfl : k = n := by omega
          clear hHd hGo hKW
          go_wp2_with fail
          go_ret
          exact ⟨rfl, br⟩
  · obtain ⟨x, hx, HP⟩ : ∃ x : Nat, x ≠ 0 ∧ Hid (∀ w', Calls Tryz.prog 10 #[.agg #[.int .i64 d, .int .i64 s, .int .i64 b], .slice A l.length C] w' fun e w2 => NoPlay e w' w2 x) := by
      by_cases h0 : wrongS d s b = 0
      · exact ⟨5, by decide, fun w' => play_many d s b A l.length C w' h0 (by
          have : ¬ l.length ≤ 80 := fun q => hok ⟨h0, q⟩
          omega)⟩
      · exact ⟨_, h0, fun w' => play_bad d s b A l.length C w' _ rfl h0⟩
    have hxn : ((x : Int) != 0) = true := by rw [bne_iff_ne]; omega
    have hxe : ((x : Int) == 0) = false := by rw [beq_eq_false_iff_ne]; omega
    clear hx hok HD
    obtain ⟨n, hn⟩ : ∃ n, n = l.length := ⟨_, rfl⟩
    rw [← hn] at HP hc1 ⊢
    clear hn
    go_enter Tryz.func4, Tryz.ntmps4
    go_wp2_with fail
    refine HA.mono ?_
    rintro e w1 ⟨rfl, b1⟩
    have VS1 := VS.below b1
    have s0 := VS1.cell (i := 0) rfl
    have s1 := VS1.cell (i := 1) rfl
    have s2 := VS1.cell (i := 2) rfl
    have b1 := bt b0 b1
    have HP1 := HP.out w1
    clear HA HP VS VS1 b0
    go_wp2_with fail
    refine HP1.mono ?_
    rintro e w2 ⟨rfl, b2⟩
    have b2 := bt b1 b2
    have bz : ∀ o, Below w.heap.size w (w2.alloc o) := fun o => b2.alloc b2.size _
    clear HP1 s0 s1 s2 b2 b1
    go_wp2_with fail
    go_ret
    exact ⟨rfl, bz _⟩

set_option maxRecDepth 100000 in
theorem lifted (os : Os) (started : os.Started) (H : Type) (enc : TypeId × Value → H) :
    ReturnsInHanded {} Tryz.checked os 4 .any (Rows.storeKeepsSpec.pre6 enc Tryz.prog Tryz.f4 Rows.storeKeepsRow.domain false) (Rows.storeKeepsSpec.post enc Tryz.prog Tryz.f4 false true false false) := by
  refine returnsInHanded_of_change (C := Tryz.checked) own started (by kernel_rfl) Tryz.func4
    (ChangeSpec.witness6 (enc := enc) (C := Tryz.checked) false ⟨#[], #[.agg #[.int .i64 0, .int .i64 0, .int .i64 0], .slice none 0 0], []⟩ 8 (by kernel_rfl) (by kernel_rfl) (by kernel_rfl) (by kernel_rfl)) ?_
  intro W base args ds gs before hval0 hW hcnd _
  have hval : ∀ (j : Nat) t v, Tryz.f4.params[j]? = some t → args[j]? = some v → Value.okWide Tryz.prog W .any base t v := hval0
  have hW' := hW
  obtain ⟨p, q, hA0, hV, rfl, hfz, hnd⟩ := hW
  have hA : DataW.TrodAll enc Tryz.prog W 0 (fun _ => true) true Tryz.f4.params.toList args.toList ds p := hA0
  rw [Tryz.params4] at hA hval
  obtain ⟨v0, vs0, d0, ds0, p0, q0, hargs, rfl, rfl, h0, r0⟩ := trodAll_cons hA
  obtain ⟨v1, vs1, d1, ds1, p1, q1, rfl, rfl, rfl, h1, r1⟩ := trodAll_cons r0
  obtain ⟨rfl, rfl, rfl⟩ := trodAll_nil r1
  obtain rfl : args = #[v0, v1] := by cases args; simp_all
  obtain ⟨rfl, rfl⟩ := trodVars_none hV
  have k0 := h0
  have lt0 : ∀ x ∈ p0, x.block < W.heap.size := by obtain ⟨m, hm⟩ := k0; exact DataW.trod_lt m _ _ _ hm
  obtain ⟨s0, t0, z0, rfl⟩ := setup_of (hval 0 23 v0 rfl rfl) h0
  obtain ⟨a1, l1, c1, rfl⟩ := okWide_slice Tryz.underlying24 (hval 1 24 v1 rfl rfl)
  have k1 := h1
  have lt1 : ∀ x ∈ p1, x.block < W.heap.size := by obtain ⟨m, hm⟩ := k1; exact DataW.trod_lt m _ _ _ hm
  obtain ⟨f1, g1, z1⟩ := dos_of h1
  clear hA0 hval0
  refine (walk W s0 t0 z0 _ _ g1 z1).mono fun e W' ⟨he, bel⟩ => ?_
  subst he
  exact ⟨_, rfl, _, _, _, [], _, [], hW', trodAll_mk1 (shut_bool Tryz.underlying4 _), (trodAll_cons_mk (Below.trod Tryz.laidOut (by kernel_rfl) (of_decide_eq_true (by kernel_rfl)) k0 bel lt0) (trodAll_cons_mk (Below.trod Tryz.laidOut (by kernel_rfl) (of_decide_eq_true (by kernel_rfl)) k1 bel lt1) trodAll_mk0)), rfl, bel.frame _, fun h => by cases h⟩

theorem over : Rows.storeKeepsRow.holds Tryz.pinned (OpenSpec.ofChange Rows.storeKeepsSpec) :=
  OpenClaim.holds_of_wide 4 Tryz.f4 rfl rfl rfl rfl rfl rfl rfl ⟨rfl, rfl, rfl, rfl, rfl⟩ rfl rfl rfl rfl rfl (by kernel_rfl) Tryz.func4 (by kernel_rfl)
    (of_decide_eq_true (by kernel_rfl)) (by unfold Func.isWrapper; first | (rw [if_pos (by decide +kernel)]; kernel_rfl) | (rw [if_neg (by decide +kernel)]; exact ⟨rfl, rfl⟩))
    (fun os started H enc _ => lifted os started H enc)
end Go.Proofs.YtldjieplbeflfaaGreat.storeKeeps

namespace Go.Proofs.YtldjieplbeflfaaGreat
theorem storeKeeps_holds : Rows.StoreKeepsSaid := storeKeeps.over
#print axioms storeKeeps_holds
end Go.Proofs.YtldjieplbeflfaaGreat
