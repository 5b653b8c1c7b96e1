/-
  Whatever setup and things to do there are, no block having more than a byte turned: what is read is what was put in, all of it, or it is said that too much is gone. No condition.
-/
import Derived.Test.YtldjieplbeflfaaGreatRows
import Derived.Test.YtldjieplbeflfaaGreatZ51
import Derived.Test.YtldjieplbeflfaaGreatZ53
import Derived.Test.YtldjieplbeflfaaGreatZ52
import Derived.ProofKit
import Derived.OpenShut
import Derived.Carry
import Derived.Deep.Cut
import Derived.Deep.CutRange
namespace Go.Proofs.YtldjieplbeflfaaGreat.storeTruth
open Go.ChangeShapes Go.WideShapes Go.ChangeAt Go.RowKit
set_option linter.unusedVariables false

theorem own : ownKnob Tryz.prog.godebug = none := by kernel_rfl

set_option maxHeartbeats 4000000 in
set_option maxRecDepth 100000 in
theorem walk (w : World) (d s b : Int) (v : Value) (l : List Sto.Do) (hD : Dos w v l) (hz : ∀ d, d ∈ l → RngD d) :
    Calls Tryz.prog 3 #[.agg #[.int .i64 d, .int .i64 s, .int .i64 b], v] w fun e w' => e = .returned (.bool true) ∧ Below w.heap.size w w' := by
  have b0 : Below w.heap.size w (w.alloc (.cells #[.int .i64 d, .int .i64 s, .int .i64 b] 23)) := (Below.refl _ _).alloc (Nat.le_refl _) _
  have VS := varN_new w #[.int .i64 d, .int .i64 s, .int .i64 b] 23
  have HA := alive_any (w.alloc (.cells #[.int .i64 d, .int .i64 s, .int .i64 b] 23))
  have HD : Hid (∀ w', Below w.heap.size w w' → Dos w' v l) := fun w' hb => hD.below hb
  have HZ : Hid (∀ d, d ∈ l → RngD d) := hz
  obtain ⟨A, C, rfl, hc1, hc2, _⟩ := hD
  have hc2 : C ≤ 9223372036854775807 := by unfold maxLen at hc2; exact hc2
  by_cases hok : wrongS d s b = 0 ∧ l.length ≤ 80
  · obtain ⟨h0, h80⟩ := hok
    obtain ⟨c, ed, es, eb, h1, h2, h3, h4, h5⟩ := setup_ok h0
    obtain ⟨X, hX⟩ := Sto.six
    have hsl : (Sto.steps X c (Sto.start c) l).2.length = l.length := Sto.steps_length X c l (Sto.start c)
    have HP : Hid (∀ w', Below w.heap.size w w' → Calls Tryz.prog 10 #[.agg #[.int .i64 d, .int .i64 s, .int .i64 b], .slice A l.length C] w' fun e w2 => PlayR e w' w2 c (Sto.steps X c (Sto.start c) l)) := fun w' hb => playR hX c d s b ed es eb h1 h2 h3 h4 h5 _ l w' (HD.out w' hb) h80
    have HON : Hid (∀ w', Below w.heap.size w w' → Calls Tryz.prog 11 #[.slice A l.length C] w' fun e w2 => OnceY e l ∧ Below w'.heap.size w' w2) := fun w' hb => once_any l _ w' (HD.out w' hb) HZ.out h80
    have HT : Hid (∀ w' va (i : Nat), i ≤ l.length → Below w.heap.size w w' → Anss w' va (Sto.steps X c (Sto.start c) l).2 → Calls Tryz.prog 13 #[.slice A l.length C, va, .int .i64 (i : Int)] w' fun e w2 => CloneE e w2 w'.heap.size (Sto.toldOf ((l.zip (Sto.steps X c (Sto.start c) l).2).take i) []) ∧ Below w'.heap.size w' w2) := fun w' va i hi hb ha => told_at (X := X) (c := c) l i hi h80 (.slice A l.length C) va w' (HD.out w' hb) ha
    have HTL : Hid (∀ i, (Sto.toldOf ((l.zip (Sto.steps X c (Sto.start c) l).2).take i) []).length ≤ 1000) := fun i => told_few l i h80
    have HTR : Hid (Sto.Once l [] → ∀ (i : Nat) (d : Sto.Do) (a : Sto.Ans), l[i]? = some d → (Sto.steps X c (Sto.start c) l).2[i]? = some a → a.err = 10 ∨ Sto.Answers d a (Sto.toldOf ((l.zip (Sto.steps X c (Sto.start c) l).2).take i) [])) := fun ho i d a hd ha => by
      have := Sto.steps_truth (X := X) (c := c) (Sto.six_good hX) l (Sto.start c) [] [] [] [] (Sto.inv_start X c) rfl (Sto.agrees_start c) ho (fun d hd => by
        obtain ⟨i, hi⟩ := List.mem_iff_getElem?.1 hd
        obtain ⟨_, _, _, _, _, hdo⟩ := HD.out w (Below.refl _ _)
        obtain ⟨_, _, _, _, _, hdin, _⟩ := hdo i d hi
        exact hdin.byte) i d a hd ha
      rw [List.nil_append] at this
      exact this
    have HDO : Hid (∀ w', Below w.heap.size w w' → ∀ i d, l[i]? = some d → ∃ b o, A = some ⟨b, o, none⟩ ∧ DoAt w' b (o + i * 9) d) := fun w' hb => by
      obtain ⟨_, _, hv0, _, _, hdo⟩ := HD.out w' hb
      cases hv0
      exact hdo
    clear h0 h1 h2 h3 h4 h5 HD ed es eb HZ hz
    obtain ⟨tl, htl⟩ : ∃ tl : Nat → List Evt.Ev, tl = fun i => Sto.toldOf ((l.zip (Sto.steps X c (Sto.start c) l).2).take i) [] := ⟨_, rfl⟩
    have HT : Hid (∀ w' va (i : Nat), i ≤ l.length → Below w.heap.size w w' → Anss w' va (Sto.steps X c (Sto.start c) l).2 → Calls Tryz.prog 13 #[.slice A l.length C, va, .int .i64 (i : Int)] w' fun e w2 => CloneE e w2 w'.heap.size (tl i) ∧ Below w'.heap.size w' w2) := by rw [htl]; exact HT
    have HTL : Hid (∀ i, (tl i).length ≤ 1000) := by rw [htl]; exact HTL
    have HTR : Hid (Sto.Once l [] → ∀ (i : Nat) (d : Sto.Do) (a : Sto.Ans), l[i]? = some d → (Sto.steps X c (Sto.start c) l).2[i]? = some a → a.err = 10 ∨ Sto.Answers d a (tl i)) := by rw [htl]; exact HTR
    clear htl
    generalize Sto.steps X c (Sto.start c) l = r at HP HT HTR hsl
    obtain ⟨n, hn⟩ : ∃ n, n = l.length := ⟨_, rfl⟩
    have HN : Hid (n = l.length) := hn
    rw [← hn] at HP HT hc1 hsl h80 HON ⊢
    clear hn hX
    go_enter Tryz.func3, Tryz.ntmps3
    go_wp2_with fail
    refine HA.mono ?_
    rintro e w1 ⟨rfl, b1⟩
    have VS1 := VS.below b1
    have s0 := VS1.cell (i := 0) rfl
    have s1 := VS1.cell (i := 1) rfl
    have s2 := VS1.cell (i := 2) rfl
    have b1 := bt b0 b1
    have HP1 := HP.out w1 b1
    clear HA HP VS VS1 b0
    go_wp2_with fail
    refine HP1.mono ?_
    rintro e w2 ⟨vd, vt, vs, va, vr, rfl, hS, hR, b2, _⟩
    have b2 := bt b1 b2
    obtain ⟨Ad, nd, Cd, rfl⟩ : ∃ A n C, vd = .slice A n C := by
      obtain ⟨A, C, h, _⟩ := hS.dk
      exact ⟨A, _, C, h⟩
    obtain ⟨At, nt, Ct, rfl⟩ : ∃ A n C, vt = .slice A n C := by
      obtain ⟨A, C, h, _⟩ := hS.tl
      exact ⟨A, _, C, h⟩
    obtain ⟨As, ns, Cs, rfl⟩ : ∃ A n C, vs = .slice A n C := by
      obtain ⟨A, C, h, _⟩ := hS.sn
      exact ⟨A, _, C, h⟩
    obtain ⟨Aa, na, Ca, rfl⟩ : ∃ A n C, va = .slice A n C := by
      obtain ⟨A, C, h⟩ := hS.ac.shape
      exact ⟨A, _, C, h⟩
    have bz : ∀ o, Below w2.heap.size w2 (w2.alloc o) := fun o => (Below.refl _ _).alloc (Nat.le_refl _) _
    have b3 := bt b2 (bz (.cells #[.int .i64 (c.d : Int), .int .i64 (c.s : Int), .int .i64 (c.b : Int), .slice Ad nd Cd, .int .i64 (r.1.segs : Int), .slice At nt Ct, .slice As ns Cs, .int .i64 r.1.u, .slice Aa na Ca] 33))
    have HR : Hid (Anss (w2.alloc (.cells #[.int .i64 (c.d : Int), .int .i64 (c.s : Int), .int .i64 (c.b : Int), .slice Ad nd Cd, .int .i64 (r.1.segs : Int), .slice At nt Ct, .slice As ns Cs, .int .i64 r.1.u, .slice Aa na Ca] 33)) vr r.2) := hR.below (bz _)
    obtain ⟨Ar, Cr, hvr, hr1, hr2, hra⟩ := hR
    rw [hsl] at hvr hr1
    subst hvr
    have hr2 : Cr ≤ 9223372036854775807 := by unfold maxLen at hr2; exact hr2
    have HO := HON.out _ b3
    clear HP1 s0 s1 s2 hS b1 hra HON b2 bz
    go_wp2_with fail
    generalize w2.alloc (.cells #[.int .i64 (c.d : Int), .int .i64 (c.s : Int), .int .i64 (c.b : Int), .slice Ad nd Cd, .int .i64 (r.1.segs : Int), .slice At nt Ct, .slice As ns Cs, .int .i64 r.1.u, .slice Aa na Ca] 33) = w3 at *
    refine HO.mono ?_
    rintro e w4 ⟨⟨y, rfl, hy⟩, b4⟩
    have HRW : Hid (Anss w4 (.slice Ar n Cr) r.2) := HR.out.below b4
    have b04 := bt b3 b4
    clear HO HR b3 b4
    cases y with
    | false =>
      clear hy
      go_wp2_with fail
      go_ret
      exact ⟨rfl, b04⟩
    | true =>
      have HTW : Hid (∀ (i : Nat) (d : Sto.Do) (a : Sto.Ans), l[i]? = some d → r.2[i]? = some a → a.err = 10 ∨ Sto.Answers d a (tl i)) := HTR.out (hy rfl)
      clear hy HTR
      go_wp2_with fail
      go_loopw [35] (fun x wr => ∃ k : Nat, k ≤ n ∧ x = .int .i64 k ∧ Below w4.heap.size w4 wr) (fun x _ => n - (intOf x).toNat)
      case atStart => exact ⟨0, Nat.zero_le _, rfl, Below.refl _ _⟩
      case round =>
        obtain ⟨k, hk, rfl, hbr⟩ := hrel
        have br := bt b04 hbr
        by_cases hlt : k < n
        · have hlt' : (k : Int) < (n : Int) := by omega
          obtain ⟨d9, hd9⟩ : ∃ d9, l[k]? = some d9 := ⟨l[k]'(by rw [← HN.out]; exact hlt), List.getElem?_eq_getElem _⟩
          obtain ⟨a9, ha9⟩ : ∃ a9, r.2[k]? = some a9 := ⟨r.2[k]'(by rw [hsl]; exact hlt), List.getElem?_eq_getElem _⟩
          have HQ := HTW.out k d9 a9 hd9 ha9
          obtain ⟨bd, od, rfl, ved, td, hdin, hcs⟩ := HDO.out wr br k d9 hd9
          obtain ⟨Ae, Ce, rfl⟩ := hdin.evs.shape
          have HRr := HRW.out.below hbr
          obtain ⟨Ar', Cr', hvr', _, _, hra⟩ := HRr
          obtain ⟨br9, or9, hA9, ve9, va9, f0, f1, f2, f3, f4, hev9, hac9⟩ := hra k a9 ha9
          have hvr2 : Value.slice Ar n Cr = .slice Ar' n Cr' := by rw [hvr', hsl]
          cases hvr2
          subst hA9
          obtain ⟨Ae9, Ce9, rfl⟩ := hev9.shape
          obtain ⟨Aa9, Ca9, rfl⟩ := hac9.shape
          obtain ⟨wo, hwo⟩ : ∃ y, y = wr := ⟨wr, rfl⟩
          rw [← hwo] at hbr br hdin hcs f0 f1 f2 f3 f4 hev9 hac9 ⊢
          clear hwo hvr' hra
          have c0 : wo.cell? ⟨bd, od + k * 9, none⟩ = some (.int .i64 d9.kind) := hcs 0 _ rfl
          have c1 := hcs 1 _ rfl
          have c2 := hcs 2 _ rfl
          have c3 := hcs 3 _ rfl
          have c4 := hcs 4 _ rfl
          have c5 := hcs 5 _ rfl
          have c6 := hcs 6 _ rfl
          have c7 := hcs 7 _ rfl
          have c8 := hcs 8 _ rfl
          have bE : Below wo.heap.size wo (wo.alloc (.cells #[.int .i64 d9.kind, .int .i64 d9.n, .int .i64 d9.seg, .int .i64 d9.pos, .int .u8 (d9.turn : Int), .int .i64 d9.bat.cmd, .slice Ae d9.bat.evs.length Ce, .string td, .int .i64 d9.ver] 43)) := (Below.refl _ _).alloc (Nat.le_refl _) _
          have VD := varN_new wo #[.int .i64 d9.kind, .int .i64 d9.n, .int .i64 d9.seg, .int .i64 d9.pos, .int .u8 (d9.turn : Int), .int .i64 d9.bat.cmd, .slice Ae d9.bat.evs.length Ce, .string td, .int .i64 d9.ver] 43
          go_upto_region 9 with fail
          have b5 := bt br bE
          have hbE := bt hbr bE
          have f0 := (bE.cell (p := ⟨br9, or9 + k * 5, none⟩) (World.block_lt_of_cell? _ _ f0)).trans f0
          have f1 := (bE.cell (p := ⟨br9, or9 + k * 5 + 1, none⟩) (World.block_lt_of_cell? _ _ f1)).trans f1
          have f2 := (bE.cell (p := ⟨br9, or9 + k * 5 + 2, none⟩) (World.block_lt_of_cell? _ _ f2)).trans f2
          have f3 := (bE.cell (p := ⟨br9, or9 + k * 5 + 3, none⟩) (World.block_lt_of_cell? _ _ f3)).trans f3
          have f4 := (bE.cell (p := ⟨br9, or9 + k * 5 + 4, none⟩) (World.block_lt_of_cell? _ _ f4)).trans f4
          have hdin := hdin.below bE
          have hev9 := hev9.below bE
          have hac9 := hac9.below bE
          have HRE := HRW.out.below hbE
          clear c0 c1 c2 c3 c4 c5 c6 c7 c8 hcs
          generalize wo.alloc (.cells #[.int .i64 d9.kind, .int .i64 d9.n, .int .i64 d9.seg, .int .i64 d9.pos, .int .u8 (d9.turn : Int), .int .i64 d9.bat.cmd, .slice Ae d9.bat.evs.length Ce, .string td, .int .i64 d9.ver] 43) = w5 at *
          by_cases h10 : a9.err = 10
          · have x10 : ((a9.err : Int) != 10) = false := by rw [h10]; rfl
            clear HQ VD
            go_quiet (fail)
            go_wp2_with fail
            exact ⟨⟨k + 1, by omega, by go_num, bdn hbE _⟩, by simp [intOf]; omega⟩
          · have x10 : ((a9.err : Int) != 10) = true := by rw [bne_iff_ne]; omega
            have HQ : Sto.Answers d9 a9 (tl k) := HQ.resolve_left h10
            have bD : Below w5.heap.size w5 w5.drew := (Below.refl _ _).drew
            have HT9 := HT.out w5.drew (.slice (some ⟨br9, or9, none⟩) n Cr) k (by omega) (bt b5 bD) (HRE.below bD)
            have HAN : ∀ w9 v9 es9, Below w5.heap.size w5 w9 → EBuf w9 w5.drew.heap.size v9 es9 → es9.map evOf = tl k → AnsC d9 Ae Ce td a9 (.slice Ae9 a9.evs.length Ce9) (.slice Aa9 a9.vl.length Ca9) v9 w9 := fun w9 v9 es9 hb hE hm => answers_any d9 Ae Ce td a9 _ _ v9 _ es9 w9 (hdin.below hb) (by rw [hm]; exact HQ) hE (by
              have := HTL.out k
              rw [← hm, List.length_map] at this
              exact this) (hev9.below hb) (hac9.below hb)
            have HSo : ∀ w', Below w5.heap.size w5 w' → ((w'.cell? ⟨wo.heap.size, 0, none⟩ = some (.int .i64 d9.kind) ∧ w'.cell? ⟨wo.heap.size, 1, none⟩ = some (.int .i64 d9.n) ∧ w'.cell? ⟨wo.heap.size, 2, none⟩ = some (.int .i64 d9.seg) ∧ w'.cell? ⟨wo.heap.size, 3, none⟩ = some (.int .i64 d9.pos) ∧ w'.cell? ⟨wo.heap.size, 4, none⟩ = some (.int .u8 (d9.turn : Int)) ∧ w'.cell? ⟨wo.heap.size, 5, none⟩ = some (.int .i64 d9.bat.cmd) ∧ w'.cell? ⟨wo.heap.size, 6, none⟩ = some (.slice Ae d9.bat.evs.length Ce) ∧ w'.cell? ⟨wo.heap.size, 7, none⟩ = some (.string td) ∧ w'.cell? ⟨wo.heap.size, 8, none⟩ = some (.int .i64 d9.ver)) ∧ w'.cell? ⟨br9, or9 + k * 5, none⟩ = some (.int .i64 (a9.err : Nat)) ∧ w'.cell? ⟨br9, or9 + k * 5 + 1, none⟩ = some (.int .i64 a9.n) ∧ w'.cell? ⟨br9, or9 + k * 5 + 2, none⟩ = some (.slice Ae9 a9.evs.length Ce9) ∧ w'.cell? ⟨br9, or9 + k * 5 + 3, none⟩ = some (.int .i64 a9.vu) ∧ w'.cell? ⟨br9, or9 + k * 5 + 4, none⟩ = some (.slice Aa9 a9.vl.length Ca9)) ∧ Below w5.heap.size w5 w' := fun w' hb => ⟨⟨⟨(VD.below hb).cell (i := 0) rfl, (VD.below hb).cell (i := 1) rfl, (VD.below hb).cell (i := 2) rfl, (VD.below hb).cell (i := 3) rfl, (VD.below hb).cell (i := 4) rfl, (VD.below hb).cell (i := 5) rfl, (VD.below hb).cell (i := 6) rfl, (VD.below hb).cell (i := 7) rfl, (VD.below hb).cell (i := 8) rfl⟩, (hb.cell (p := ⟨br9, or9 + k * 5, none⟩) (World.block_lt_of_cell? _ _ f0)).trans f0, (hb.cell (p := ⟨br9, or9 + k * 5 + 1, none⟩) (World.block_lt_of_cell? _ _ f1)).trans f1, (hb.cell (p := ⟨br9, or9 + k * 5 + 2, none⟩) (World.block_lt_of_cell? _ _ f2)).trans f2, (hb.cell (p := ⟨br9, or9 + k * 5 + 3, none⟩) (World.block_lt_of_cell? _ _ f3)).trans f3, (hb.cell (p := ⟨br9, or9 + k * 5 + 4, none⟩) (World.block_lt_of_cell? _ _ f4)).trans f4⟩, hb⟩
            have TD := HSo w5.drew bD
            clear HQ VD f0 f1 f2 f3 f4 hdin hev9 hac9 HRE h10
            go_region_held3 (fun w' => ((w'.cell? ⟨wo.heap.size, 0, none⟩ = some (.int .i64 d9.kind) ∧ w'.cell? ⟨wo.heap.size, 1, none⟩ = some (.int .i64 d9.n) ∧ w'.cell? ⟨wo.heap.size, 2, none⟩ = some (.int .i64 d9.seg) ∧ w'.cell? ⟨wo.heap.size, 3, none⟩ = some (.int .i64 d9.pos) ∧ w'.cell? ⟨wo.heap.size, 4, none⟩ = some (.int .u8 (d9.turn : Int)) ∧ w'.cell? ⟨wo.heap.size, 5, none⟩ = some (.int .i64 d9.bat.cmd) ∧ w'.cell? ⟨wo.heap.size, 6, none⟩ = some (.slice Ae d9.bat.evs.length Ce) ∧ w'.cell? ⟨wo.heap.size, 7, none⟩ = some (.string td) ∧ w'.cell? ⟨wo.heap.size, 8, none⟩ = some (.int .i64 d9.ver)) ∧ w'.cell? ⟨br9, or9 + k * 5, none⟩ = some (.int .i64 (a9.err : Nat)) ∧ w'.cell? ⟨br9, or9 + k * 5 + 1, none⟩ = some (.int .i64 a9.n) ∧ w'.cell? ⟨br9, or9 + k * 5 + 2, none⟩ = some (.slice Ae9 a9.evs.length Ce9) ∧ w'.cell? ⟨br9, or9 + k * 5 + 3, none⟩ = some (.int .i64 a9.vu) ∧ w'.cell? ⟨br9, or9 + k * 5 + 4, none⟩ = some (.slice Aa9 a9.vl.length Ca9)) ∧ Below w5.heap.size w5 w')
              (first | with_reducible exact TD | with_reducible assumption)
              (first | (go_at_call 13; refine HT9.mono ?_; rintro e9 w9 ⟨⟨v9, es9, rfl, hm9, hE9⟩, b9⟩; have B9 := bt bD b9; have S9 := HSo w9 B9)
                     | (go_at_call 12; refine (HAN w9 _ es9 B9 hE9 hm9).mono ?_; rintro e10 w10 ⟨rfl, b10⟩; have S10 := HSo w10 (bt B9 b10)))
            go_wp2_with fail
            exact ⟨⟨k + 1, by omega, by go_num, bt (bt hbE B9) b10⟩, by simp [intOf]; omega⟩
        · obtain rfl : k = n := by omega
          go_wp2_with fail
          go_ret
          exact ⟨rfl, br⟩
  · obtain ⟨x, hx, HP⟩ : ∃ x : Nat, x ≠ 0 ∧ Hid (∀ w', Calls Tryz.prog 10 #[.agg #[.int .i64 d, .int .i64 s, .int .i64 b], .slice A l.length C] w' fun e w2 => NoPlay e w' w2 x) := by
      by_cases h0 : wrongS d s b = 0
      · exact ⟨5, by decide, fun w' => play_many d s b A l.length C w' h0 (by
          have : ¬ l.length ≤ 80 := fun q => hok ⟨h0, q⟩
          omega)⟩
      · exact ⟨_, h0, fun w' => play_bad d s b A l.length C w' _ rfl h0⟩
    have hxn : ((x : Int) != 0) = true := by rw [bne_iff_ne]; omega
    have hxe : ((x : Int) == 0) = false := by rw [beq_eq_false_iff_ne]; omega
    clear hx hok HD
    obtain ⟨n, hn⟩ : ∃ n, n = l.length := ⟨_, rfl⟩
    rw [← hn] at HP hc1 ⊢
    clear hn
    go_enter Tryz.func3, Tryz.ntmps3
    go_wp2_with fail
    refine HA.mono ?_
    rintro e w1 ⟨rfl, b1⟩
    have VS1 := VS.below b1
    have s0 := VS1.cell (i := 0) rfl
    have s1 := VS1.cell (i := 1) rfl
    have s2 := VS1.cell (i := 2) rfl
    have b1 := bt b0 b1
    have HP1 := HP.out w1
    clear HA HP VS VS1 b0
    go_wp2_with fail
    refine HP1.mono ?_
    rintro e w2 ⟨rfl, b2⟩
    have b2 := bt b1 b2
    have bz : ∀ o, Below w.heap.size w (w2.alloc o) := fun o => b2.alloc b2.size _
    clear HP1 s0 s1 s2 b2 b1
    go_wp2_with fail
    go_ret
    exact ⟨rfl, bz _⟩

set_option maxRecDepth 100000 in
theorem lifted (os : Os) (started : os.Started) (H : Type) (enc : TypeId × Value → H) :
    ReturnsInHanded {} Tryz.checked os 3 .any (Rows.storeTruthSpec.pre6 enc Tryz.prog Tryz.f3 Rows.storeTruthRow.domain false) (Rows.storeTruthSpec.post enc Tryz.prog Tryz.f3 false true false false) := by
  refine returnsInHanded_of_change (C := Tryz.checked) own started (by kernel_rfl) Tryz.func3
    (ChangeSpec.witness6 (enc := enc) (C := Tryz.checked) false ⟨#[], #[.agg #[.int .i64 0, .int .i64 0, .int .i64 0], .slice none 0 0], []⟩ 8 (by kernel_rfl) (by kernel_rfl) (by kernel_rfl) (by kernel_rfl)) ?_
  intro W base args ds gs before hval0 hW hcnd _
  have hval : ∀ (j : Nat) t v, Tryz.f3.params[j]? = some t → args[j]? = some v → Value.okWide Tryz.prog W .any base t v := hval0
  have hW' := hW
  obtain ⟨p, q, hA0, hV, rfl, hfz, hnd⟩ := hW
  have hA : DataW.TrodAll enc Tryz.prog W 0 (fun _ => true) true Tryz.f3.params.toList args.toList ds p := hA0
  rw [Tryz.params3] at hA hval
  obtain ⟨v0, vs0, d0, ds0, p0, q0, hargs, rfl, rfl, h0, r0⟩ := trodAll_cons hA
  obtain ⟨v1, vs1, d1, ds1, p1, q1, rfl, rfl, rfl, h1, r1⟩ := trodAll_cons r0
  obtain ⟨rfl, rfl, rfl⟩ := trodAll_nil r1
  obtain rfl : args = #[v0, v1] := by cases args; simp_all
  obtain ⟨rfl, rfl⟩ := trodVars_none hV
  have k0 := h0
  have lt0 : ∀ x ∈ p0, x.block < W.heap.size := by obtain ⟨m, hm⟩ := k0; exact DataW.trod_lt m _ _ _ hm
  obtain ⟨s0, t0, z0, rfl⟩ := setup_of (hval 0 23 v0 rfl rfl) h0
  obtain ⟨a1, l1, c1, rfl⟩ := okWide_slice Tryz.underlying24 (hval 1 24 v1 rfl rfl)
  have k1 := h1
  have lt1 : ∀ x ∈ p1, x.block < W.heap.size := by obtain ⟨m, hm⟩ := k1; exact DataW.trod_lt m _ _ _ hm
  obtain ⟨f1, g1, z1⟩ := dos_of h1
  clear hA0 hval0
  refine (walk W s0 t0 z0 _ _ g1 z1).mono fun e W' ⟨he, bel⟩ => ?_
  subst he
  exact ⟨_, rfl, _, _, _, [], _, [], hW', trodAll_mk1 (shut_bool Tryz.underlying4 _), (trodAll_cons_mk (Below.trod Tryz.laidOut (by kernel_rfl) (of_decide_eq_true (by kernel_rfl)) k0 bel lt0) (trodAll_cons_mk (Below.trod Tryz.laidOut (by kernel_rfl) (of_decide_eq_true (by kernel_rfl)) k1 bel lt1) trodAll_mk0)), rfl, bel.frame _, fun h => by cases h⟩

theorem over : Rows.storeTruthRow.holds Tryz.pinned (OpenSpec.ofChange Rows.storeTruthSpec) :=
  OpenClaim.holds_of_wide 3 Tryz.f3 rfl rfl rfl rfl rfl rfl rfl ⟨rfl, rfl, rfl, rfl, rfl⟩ rfl rfl rfl rfl rfl (by kernel_rfl) Tryz.func3 (by kernel_rfl)
    (of_decide_eq_true (by kernel_rfl)) (by unfold Func.isWrapper; first | (rw [if_pos (by decide +kernel)]; kernel_rfl) | (rw [if_neg (by decide +kernel)]; exact ⟨rfl, rfl⟩))
    (fun os started H enc _ => lifted os started H enc)
end Go.Proofs.YtldjieplbeflfaaGreat.storeTruth

namespace Go.Proofs.YtldjieplbeflfaaGreat
theorem storeTruth_holds : Rows.StoreTruthSaid := storeTruth.over
#print axioms storeTruth_holds
end Go.Proofs.YtldjieplbeflfaaGreat
