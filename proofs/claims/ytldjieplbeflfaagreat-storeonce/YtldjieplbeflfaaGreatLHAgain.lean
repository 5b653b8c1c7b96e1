/-
  StoreOnce, where a command that was done is said again.
-/
import Derived.Test.YtldjieplbeflfaaGreatZ53
import Derived.Test.YtldjieplbeflfaaGreatZ51
import Derived.Test.YtldjieplbeflfaaGreatZ52
import Derived.Deep.CutRange
namespace Go.Proofs.YtldjieplbeflfaaGreat
open Go.RowKit
set_option linter.unusedVariables false

/-- The command, said again. -/
theorem again8 {X : Sto.Six} {c : Sto.Cfg} {l : List Sto.Do} {k : Nat} {d : Sto.Do} {a : Sto.Ans} (hd : l[k]? = some d) (ha : (Sto.steps X c (Sto.start c) l).2[k]? = some a) (hk : d.kind = 1) (he : a.err = 0) :
    (Sto.steps X c (Sto.start c) (l ++ [{ d with ver := 7 }])).1 = (Sto.steps X c (Sto.start c) l).1 ∧ (Sto.steps X c (Sto.start c) (l ++ [{ d with ver := 7 }])).2[l.length]? = some ⟨0, (Sto.toldOf (l.zip (Sto.steps X c (Sto.start c) l).2) []).length, [], 0, []⟩ := by
  obtain ⟨h1, h2⟩ := Sto.steps_done hd ha hk he
  have hp := Sto.put_again (X := X) (c := c) (s := (Sto.steps X c (Sto.start c) l).1) (d := { d with ver := 7 }) h1 h2
  have hs : Sto.step X c (Sto.steps X c (Sto.start c) l).1 { d with ver := 7 } = ((Sto.steps X c (Sto.start c) l).1, Sto.told (Sto.steps X c (Sto.start c) l).1.u) := (Sto.step_put (d := { d with ver := 7 }) hk).trans hp
  have hl : (Sto.steps X c (Sto.start c) l).2.length = l.length := Sto.steps_length X c l (Sto.start c)
  have e1 : (Sto.steps X c (Sto.steps X c (Sto.start c) l).1 [{ d with ver := 7 }]).1 = (Sto.step X c (Sto.steps X c (Sto.start c) l).1 { d with ver := 7 }).1 := rfl
  have e2 : (Sto.steps X c (Sto.steps X c (Sto.start c) l).1 [{ d with ver := 7 }]).2 = [(Sto.step X c (Sto.steps X c (Sto.start c) l).1 { d with ver := 7 }).2] := rfl
  rw [Sto.steps_append]
  refine ⟨?_, ?_⟩
  · show (Sto.steps X c (Sto.steps X c (Sto.start c) l).1 [{ d with ver := 7 }]).1 = _
    rw [e1, hs]
  · show ((Sto.steps X c (Sto.start c) l).2 ++ (Sto.steps X c (Sto.steps X c (Sto.start c) l).1 [{ d with ver := 7 }]).2)[l.length]? = _
    rw [e2, hs, List.getElem?_append_right (by omega), hl, Nat.sub_self, ← (Sto.steps_count X c l).1]
    rfl
set_option maxHeartbeats 4000000 in
set_option maxRecDepth 100000 in
theorem once_main (w : World) (d s b : Int) (A : Option Addr) (C : Nat) (l : List Sto.Do) (hD : Dos w (.slice A l.length C) l) (c : Sto.Cfg) (ed : d = (c.d : Int)) (es : s = (c.s : Int)) (eb : b = (c.b : Int)) (h1 : 1 ≤ c.d) (h2 : c.d ≤ 8) (h3 : c.s ≤ 4) (h4 : 1 ≤ c.b) (h5 : c.b ≤ 10) (X : Sto.Six) (hX : Sto.SixOk X) (h80 : l.length < 80) (k : Nat) (hk : k < l.length) (d9 : Sto.Do) (hd9 : l[k]? = some d9) (a9 : Sto.Ans) (ha9 : (Sto.steps X c (Sto.start c) l).2[k]? = some a9) (k9 : d9.kind = 1) (e9 : a9.err = 0) :
    Calls Tryz.prog 6 #[.agg #[.int .i64 d, .int .i64 s, .int .i64 b], .slice A l.length C, .int .i64 (k : Int)] w fun e w' => e = .returned (.bool true) ∧ Below w.heap.size w w' := by
  have b0 : Below w.heap.size w (w.alloc (.cells #[.int .i64 d, .int .i64 s, .int .i64 b] 23)) := (Below.refl _ _).alloc (Nat.le_refl _) _
  have VS := varN_new w #[.int .i64 d, .int .i64 s, .int .i64 b] 23
  have HA := alive_any (w.alloc (.cells #[.int .i64 d, .int .i64 s, .int .i64 b] 23))
  have HD : Hid (∀ w', Below w.heap.size w w' → Dos w' (.slice A l.length C) l) := fun w' hb => hD.below hb
  have hsl : (Sto.steps X c (Sto.start c) l).2.length = l.length := Sto.steps_length X c l (Sto.start c)
  have HP : Hid (∀ w', Below w.heap.size w w' → Calls Tryz.prog 10 #[.agg #[.int .i64 d, .int .i64 s, .int .i64 b], .slice A l.length C] w' fun e w2 => PlayR e w' w2 c (Sto.steps X c (Sto.start c) l)) := fun w' hb => playR hX c d s b ed es eb h1 h2 h3 h4 h5 _ l w' (HD.out w' hb) (by omega)
  have HP2 : Hid (∀ w' v, Dos w' v (l ++ [{ d9 with ver := 7 }]) → Calls Tryz.prog 10 #[.agg #[.int .i64 d, .int .i64 s, .int .i64 b], v] w' fun e w2 => PlayR e w' w2 c (Sto.steps X c (Sto.start c) (l ++ [{ d9 with ver := 7 }]))) := fun w' v hd => playR hX c d s b ed es eb h1 h2 h3 h4 h5 _ _ w' hd (by rw [List.length_append]; show l.length + 1 ≤ 80; omega)
  have HT : Hid (∀ w' va, Below w.heap.size w w' → Anss w' va (Sto.steps X c (Sto.start c) l).2 → Calls Tryz.prog 13 #[.slice A l.length C, va, .int .i64 (l.length : Int)] w' fun e w2 => CloneE e w2 w'.heap.size (Sto.toldOf (l.zip (Sto.steps X c (Sto.start c) l).2) []) ∧ Below w'.heap.size w' w2) := fun w' va hb ha => by
    have := told_at (X := X) (c := c) l l.length (Nat.le_refl _) (by omega) (.slice A l.length C) va w' (HD.out w' hb) ha
    rw [List.take_of_length_le (by rw [List.length_zip]; omega)] at this
    exact this
  have HAG := again8 hd9 ha9 k9 e9
  have HDD : Hid (l[k]? = some d9) := hd9
  have HAA : Hid ((Sto.steps X c (Sto.start c) l).2[k]? = some a9) := ha9
  clear h1 h2 h3 h4 h5 ed es eb hX hd9 ha9
  have HDO : Hid (∀ w', Below w.heap.size w w' → ∀ i d, l[i]? = some d → ∃ b o, A = some ⟨b, o, none⟩ ∧ DoAt w' b (o + i * 9) d) := fun w' hb => by
    obtain ⟨_, _, hv0, _, _, hdo⟩ := HD.out w' hb
    cases hv0
    exact hdo
  obtain ⟨_, _, hv0, hc1, hc2, _⟩ := hD
  cases hv0
  have hc2 : C ≤ 9223372036854775807 := by unfold maxLen at hc2; exact hc2
  generalize Sto.toldOf (l.zip (Sto.steps X c (Sto.start c) l).2) [] = tl at HT HAG
  generalize Sto.steps X c (Sto.start c) (l ++ [{ d9 with ver := 7 }]) = r2 at HP2 HAG
  generalize Sto.steps X c (Sto.start c) l = r at HP HT HAG HAA hsl
  obtain ⟨n, hn⟩ : ∃ n, n = l.length := ⟨_, rfl⟩
  have HN : Hid (n = l.length) := hn
  rw [← hn] at HP HT HAG hsl hc1 h80 hk HD ⊢
  clear hn
  have HAG2 : Hid (r2.1 = r.1 ∧ r2.2[n]? = some ⟨0, (tl.length : Int), [], 0, []⟩) := HAG
  clear HAG
  have kb : (d9.kind != 1) = false := by rw [k9]; rfl
  have eb : ((a9.err : Int) != 0) = false := by rw [e9]; rfl
  have hk' : (k : Int) < (n : Int) := by omega
  have hk2 : ¬ (n : Int) ≤ (k : Int) := by omega
  have h80' : ¬ (80 : Int) ≤ (n : Int) := by omega
  have hk0 : ¬ (k : Int) < 0 := by omega
  have hq1 : decide ((k : Int) < 0) = false := decide_eq_false hk0
  have hq2 : decide ((n : Int) ≤ (k : Int)) = false := decide_eq_false hk2
  have hq4 : decide (n ≤ k) = false := decide_eq_false (by omega)
  have hq3 : decide ((80 : Int) ≤ (n : Int)) = false := decide_eq_false h80'
  clear k9 e9
  go_enter Tryz.func6, Tryz.ntmps6
  go_wp2_with fail
  refine HA.mono ?_
  rintro e w1 ⟨rfl, b1⟩
  have HVS : Hid (VarN w1 w.heap.size 23 #[.int .i64 d, .int .i64 s, .int .i64 b].toList) := VS.below b1
  have s0 := HVS.out.cell (i := 0) rfl
  have s1 := HVS.out.cell (i := 1) rfl
  have s2 := HVS.out.cell (i := 2) rfl
  have b1 := bt b0 b1
  have HP1 := HP.out w1 b1
  clear HA HP VS b0
  go_wp2_with fail
  refine HP1.mono ?_
  rintro e w2 ⟨vd, vt, vs, va, vr, rfl, hS, hR, b2, _⟩
  have HVS2 : Hid (VarN w2 w.heap.size 23 #[.int .i64 d, .int .i64 s, .int .i64 b].toList) := HVS.out.below b2
  have b2 := bt b1 b2
  obtain ⟨Ad, nd, Cd, rfl⟩ : ∃ A n C, vd = .slice A n C := by
    obtain ⟨A, C, h, _⟩ := hS.dk
    exact ⟨A, _, C, h⟩
  obtain ⟨At, nt, Ct, rfl⟩ : ∃ A n C, vt = .slice A n C := by
    obtain ⟨A, C, h, _⟩ := hS.tl
    exact ⟨A, _, C, h⟩
  obtain ⟨As, ns, Cs, rfl⟩ : ∃ A n C, vs = .slice A n C := by
    obtain ⟨A, C, h, _⟩ := hS.sn
    exact ⟨A, _, C, h⟩
  obtain ⟨Aa, na, Ca, rfl⟩ : ∃ A n C, va = .slice A n C := by
    obtain ⟨A, C, h⟩ := hS.ac.shape
    exact ⟨A, _, C, h⟩
  have HR : Hid (Anss w2 vr r.2) := hR
  obtain ⟨Ar, Cr, hvr, hr1, hr2, hra⟩ := hR
  rw [hsl] at hvr hr1
  subst hvr
  have hr2 : Cr ≤ 9223372036854775807 := by unfold maxLen at hr2; exact hr2
  have bz : ∀ o, Below w2.heap.size w2 (w2.alloc o) := fun o => (Below.refl _ _).alloc (Nat.le_refl _) _
  obtain ⟨br, or, rfl, ve9, va9, f0, _⟩ := hra k a9 HAA.out
  obtain ⟨bd, od, rfl, ved, td, hdin, hcs⟩ := HDO.out w2 b2 k d9 HDD.out
  obtain ⟨Ae, Ce, rfl⟩ := hdin.evs.shape
  have b3 := bz (.cells #[.int .i64 (c.d : Int), .int .i64 (c.s : Int), .int .i64 (c.b : Int), .slice Ad nd Cd, .int .i64 (r.1.segs : Int), .slice At nt Ct, .slice As ns Cs, .int .i64 r.1.u, .slice Aa na Ca] 33)
  have VT := varN_new w2 #[.int .i64 (c.d : Int), .int .i64 (c.s : Int), .int .i64 (c.b : Int), .slice Ad nd Cd, .int .i64 (r.1.segs : Int), .slice At nt Ct, .slice As ns Cs, .int .i64 r.1.u, .slice Aa na Ca] 33
  have hcc : ∀ j u, (doCells d9 (.slice Ae d9.bat.evs.length Ce) td)[j]? = some u → (w2.alloc (.cells #[.int .i64 (c.d : Int), .int .i64 (c.s : Int), .int .i64 (c.b : Int), .slice Ad nd Cd, .int .i64 (r.1.segs : Int), .slice At nt Ct, .slice As ns Cs, .int .i64 r.1.u, .slice Aa na Ca] 33)).cell? ⟨bd, od + k * 9 + j, none⟩ = some u := fun j u hj => (b3.cell (p := ⟨bd, od + k * 9 + j, none⟩) (World.block_lt_of_cell? _ _ (hcs j u hj))).trans (hcs j u hj)
  have f0 := (b3.cell (p := ⟨br, or + k * 5, none⟩) (World.block_lt_of_cell? _ _ f0)).trans f0
  have g0 : _ = some (Value.int .i64 d9.kind) := hcc 0 _ rfl
  have g1 := hcc 1 _ rfl
  have g2 := hcc 2 _ rfl
  have g3 := hcc 3 _ rfl
  have g4 := hcc 4 _ rfl
  have g5 := hcc 5 _ rfl
  have g6 := hcc 6 _ rfl
  have g7 := hcc 7 _ rfl
  have g8 := hcc 8 _ rfl
  rw [Nat.add_zero] at g0
  clear s0 s1 s2 HP1 hcc hcs
  go_upto_region 8 with fail
  have bW2 : Below (w2.alloc (.cells #[.int .i64 (c.d : Int), .int .i64 (c.s : Int), .int .i64 (c.b : Int), .slice Ad nd Cd, .int .i64 (r.1.segs : Int), .slice At nt Ct, .slice As ns Cs, .int .i64 r.1.u, .slice Aa na Ca] 33)).heap.size (w2.alloc (.cells #[.int .i64 (c.d : Int), .int .i64 (c.s : Int), .int .i64 (c.b : Int), .slice Ad nd Cd, .int .i64 (r.1.segs : Int), .slice At nt Ct, .slice As ns Cs, .int .i64 r.1.u, .slice Aa na Ca] 33)) ((w2.alloc (.cells #[.int .i64 (c.d : Int), .int .i64 (c.s : Int), .int .i64 (c.b : Int), .slice Ad nd Cd, .int .i64 (r.1.segs : Int), .slice At nt Ct, .slice As ns Cs, .int .i64 r.1.u, .slice Aa na Ca] 33)).alloc (.cells #[.int .i64 d9.kind, .int .i64 d9.n, .int .i64 d9.seg, .int .i64 d9.pos, .int .u8 (d9.turn : Int), .int .i64 d9.bat.cmd, .slice Ae d9.bat.evs.length Ce, .string td, .int .i64 7] 43)) := (Below.refl _ _).alloc (Nat.le_refl _) _
  have VD := varN_new (w2.alloc (.cells #[.int .i64 (c.d : Int), .int .i64 (c.s : Int), .int .i64 (c.b : Int), .slice Ad nd Cd, .int .i64 (r.1.segs : Int), .slice At nt Ct, .slice As ns Cs, .int .i64 r.1.u, .slice Aa na Ca] 33)) #[.int .i64 d9.kind, .int .i64 d9.n, .int .i64 d9.seg, .int .i64 d9.pos, .int .u8 (d9.turn : Int), .int .i64 d9.bat.cmd, .slice Ae d9.bat.evs.length Ce, .string td, .int .i64 7] 43
  rw [show (w2.alloc (.cells #[.int .i64 (c.d : Int), .int .i64 (c.s : Int), .int .i64 (c.b : Int), .slice Ad nd Cd, .int .i64 (r.1.segs : Int), .slice At nt Ct, .slice As ns Cs, .int .i64 r.1.u, .slice Aa na Ca] 33)).heap.size = w2.heap.size + 1 by simp] at VD
  have VT := VT.below bW2
  have b2W := bt b3 bW2
  have VSW := HVS2.out.below b2W
  generalize (w2.alloc (.cells #[.int .i64 (c.d : Int), .int .i64 (c.s : Int), .int .i64 (c.b : Int), .slice Ad nd Cd, .int .i64 (r.1.segs : Int), .slice At nt Ct, .slice As ns Cs, .int .i64 r.1.u, .slice Aa na Ca] 33)).alloc (.cells #[.int .i64 d9.kind, .int .i64 d9.n, .int .i64 d9.seg, .int .i64 d9.pos, .int .u8 (d9.turn : Int), .int .i64 d9.bat.cmd, .slice Ae d9.bat.evs.length Ce, .string td, .int .i64 7] 43) = W at *
  have bW := bt b2 b2W
  have HSW : Hid (StIn W (.slice Ad nd Cd) (.slice At nt Ct) (.slice As ns Cs) (.slice Aa na Ca) r.1) := hS.below b2W
  have HRW : Hid (Anss W (.slice (some ⟨br, or, none⟩) n Cr) r.2) := HR.out.below b2W
  have HVT : Hid (VarN W w2.heap.size 33 #[.int .i64 (c.d : Int), .int .i64 (c.s : Int), .int .i64 (c.b : Int), .slice Ad nd Cd, .int .i64 (r.1.segs : Int), .slice At nt Ct, .slice As ns Cs, .int .i64 r.1.u, .slice Aa na Ca].toList) := VT
  have HDIN : DoIn W { d9 with ver := 7 } (.slice Ae d9.bat.evs.length Ce) td := ⟨(hdin.below b2W).evs, hdin.name, hdin.sz, hdin.byte⟩
  obtain ⟨qs, hqm, hqi, hqc⟩ := dos_cells (HD.out W bW)
  have hql : qs.length = n := by
    have := congrArg List.length hqm
    rw [List.length_map] at this
    rw [this, HN.out]
  have HQC : Hid (∀ wX, Below W.heap.size W wX → ∀ A', some (⟨bd, od, none⟩ : Addr) = some A' → ∀ j u, (qs.flatMap doC)[j]? = some u → wX.cell? (A'.add j) = some u) := fun wX hb A' e j u hj => by
    have h1 := hqc A' C (by rw [← e, HN.out]) j u hj
    exact (hb.cell (World.block_lt_of_cell? _ _ h1)).trans h1
  have HPL : Hid (∀ wX v, RD W wX v (qs ++ [({ d9 with ver := 7 }, .slice Ae d9.bat.evs.length Ce, td)]) → Calls Tryz.prog 10 #[.agg #[.int .i64 d, .int .i64 s, .int .i64 b], v] wX fun e w2 => PlayR e wX w2 c r2) := fun wX v hRD => HP2.out wX v (by
    have := hRD.dos (fun q hq => by
      rcases List.mem_append.1 hq with z | z
      · exact (hqi q z).1
      · simp only [List.mem_singleton] at z
        subst z
        exact HDIN)
    rw [List.map_append, hqm] at this
    exact this)
  have HQ1 : Hid (∀ q, q ∈ qs → q.2.1.oneCell' = true) := fun q hq => (hqi q hq).2
  have HQ2 : Hid (∀ q, q ∈ [(({ d9 with ver := 7 }, .slice Ae d9.bat.evs.length Ce, td) : DoC)] → q.2.1.oneCell' = true) := fun q hq => by
    simp only [List.mem_singleton] at hq
    subst hq
    rfl
  have HSo : ∀ w', Below W.heap.size W w' → ((w'.cell? ⟨w.heap.size, 0, none⟩ = some (.int .i64 d) ∧ w'.cell? ⟨w.heap.size, 1, none⟩ = some (.int .i64 s) ∧ w'.cell? ⟨w.heap.size, 2, none⟩ = some (.int .i64 b)) ∧ (w'.cell? ⟨w2.heap.size + 1, 0, none⟩ = some (.int .i64 d9.kind) ∧ w'.cell? ⟨w2.heap.size + 1, 1, none⟩ = some (.int .i64 d9.n) ∧ w'.cell? ⟨w2.heap.size + 1, 2, none⟩ = some (.int .i64 d9.seg) ∧ w'.cell? ⟨w2.heap.size + 1, 3, none⟩ = some (.int .i64 d9.pos) ∧ w'.cell? ⟨w2.heap.size + 1, 4, none⟩ = some (.int .u8 (d9.turn : Int)) ∧ w'.cell? ⟨w2.heap.size + 1, 5, none⟩ = some (.int .i64 d9.bat.cmd) ∧ w'.cell? ⟨w2.heap.size + 1, 6, none⟩ = some (.slice Ae d9.bat.evs.length Ce) ∧ w'.cell? ⟨w2.heap.size + 1, 7, none⟩ = some (.string td) ∧ w'.cell? ⟨w2.heap.size + 1, 8, none⟩ = some (.int .i64 7))) ∧ Below W.heap.size W w' := fun w' hb => ⟨⟨⟨(VSW.below hb).cell (i := 0) rfl, (VSW.below hb).cell (i := 1) rfl, (VSW.below hb).cell (i := 2) rfl⟩, (VD.below hb).cell (i := 0) rfl, (VD.below hb).cell (i := 1) rfl, (VD.below hb).cell (i := 2) rfl, (VD.below hb).cell (i := 3) rfl, (VD.below hb).cell (i := 4) rfl, (VD.below hb).cell (i := 5) rfl, (VD.below hb).cell (i := 6) rfl, (VD.below hb).cell (i := 7) rfl, (VD.below hb).cell (i := 8) rfl⟩, hb⟩
  have HPL8 := HPL.out
  have HQC8 := HQC.out
  have hql' : qs.length + 1 ≤ 1000 := by omega
  have TD := HSo W.drew (Below.refl _ _).drew
  have bA1 : ∀ x, Below W.heap.size W (W.alloc x).drew := fun x => (belA1 W x).drew
  have bA2 : ∀ x y, Below W.heap.size W ((W.alloc x).alloc y).drew := fun x y => (belA2 W x y).drew
  have bA3 : ∀ x y z, Below W.heap.size W (((W.alloc x).alloc y).alloc z).drew := fun x y z => (belA3 W x y z).drew
  have HKEY : Hid (qs.length = n) := hql
  clear HR hS hdin hqm hqi hqc g0 g1 g2 g3 g4 g5 g6 g7 g8 f0 VT b3 bW2 b2W VSW VD HDIN HP2 b2 bz hra hql HVS2 HVS
  go_cut [11, 12, 9] from 61 to 71 (fun p11 v12 v9 wx => PlayV W wx c r2 p11 v12 v9)
  case first =>
    go_region_held3 (fun w' => ((w'.cell? ⟨w.heap.size, 0, none⟩ = some (.int .i64 d) ∧ w'.cell? ⟨w.heap.size, 1, none⟩ = some (.int .i64 s) ∧ w'.cell? ⟨w.heap.size, 2, none⟩ = some (.int .i64 b)) ∧ (w'.cell? ⟨w2.heap.size + 1, 0, none⟩ = some (.int .i64 d9.kind) ∧ w'.cell? ⟨w2.heap.size + 1, 1, none⟩ = some (.int .i64 d9.n) ∧ w'.cell? ⟨w2.heap.size + 1, 2, none⟩ = some (.int .i64 d9.seg) ∧ w'.cell? ⟨w2.heap.size + 1, 3, none⟩ = some (.int .i64 d9.pos) ∧ w'.cell? ⟨w2.heap.size + 1, 4, none⟩ = some (.int .u8 (d9.turn : Int)) ∧ w'.cell? ⟨w2.heap.size + 1, 5, none⟩ = some (.int .i64 d9.bat.cmd) ∧ w'.cell? ⟨w2.heap.size + 1, 6, none⟩ = some (.slice Ae d9.bat.evs.length Ce) ∧ w'.cell? ⟨w2.heap.size + 1, 7, none⟩ = some (.string td) ∧ w'.cell? ⟨w2.heap.size + 1, 8, none⟩ = some (.int .i64 7))) ∧ Below W.heap.size W w')
      (first | with_reducible exact TD | with_reducible assumption | with_reducible exact HSo _ (bA1 _) | with_reducible exact HSo _ (bA2 _ _) | with_reducible exact HSo _ (bA3 _ _ _) | with_reducible exact HSo _ (R6.alloc _).bel | with_reducible exact HSo _ ((R6.alloc _).alloc _).bel | with_reducible exact HSo _ (R7.alloc _).bel | with_reducible exact HSo _ (bel_al B8) | with_reducible exact HSo _ (bel_nine B8 (by omega)))
      (first | (refine app_rd rfl (.tmp 62) (.tmp 63) rfl (ys := qs) rfl rfl (fun e => by cases e) (by first | exact rdE | exact rdEo | exact rdoE | exact rdEop | exact rdoEp | exact rdopE) HKEY.out (HQC8 _ (by first | exact bA1 _ | exact bA2 _ _ | exact bA3 _ _ _)) HQ1.out (by simp only [List.length_nil]; omega) ?_; intro v6 w6 R6 TR; (first | (have T6 := TR _ _ _ (td_Eo (cs := #[.int .i64 d9.kind, .int .i64 d9.n, .int .i64 d9.seg, .int .i64 d9.pos, .int .u8 (d9.turn : Int), .int .i64 d9.bat.cmd, .slice Ae d9.bat.evs.length Ce, .string td, .int .i64 7]) (t := 43))) | (have T6 := TR _ _ _ (td_oE (cs := #[.int .i64 d9.kind, .int .i64 d9.n, .int .i64 d9.seg, .int .i64 d9.pos, .int .u8 (d9.turn : Int), .int .i64 d9.bat.cmd, .slice Ae d9.bat.evs.length Ce, .string td, .int .i64 7]) (t := 43))) | (have T6 := TR _ _ _ (td_Eop (cs := #[.int .i64 d9.kind, .int .i64 d9.n, .int .i64 d9.seg, .int .i64 d9.pos, .int .u8 (d9.turn : Int), .int .i64 d9.bat.cmd, .slice Ae d9.bat.evs.length Ce, .string td, .int .i64 7]) (t := 43))) | (have T6 := TR _ _ _ (td_Epo (cs := #[.int .i64 d9.kind, .int .i64 d9.n, .int .i64 d9.seg, .int .i64 d9.pos, .int .u8 (d9.turn : Int), .int .i64 d9.bat.cmd, .slice Ae d9.bat.evs.length Ce, .string td, .int .i64 7]) (t := 43))) | (have T6 := TR _ _ _ (td_oEp (cs := #[.int .i64 d9.kind, .int .i64 d9.n, .int .i64 d9.seg, .int .i64 d9.pos, .int .u8 (d9.turn : Int), .int .i64 d9.bat.cmd, .slice Ae d9.bat.evs.length Ce, .string td, .int .i64 7]) (t := 43))) | (have T6 := TR _ _ _ (td_pEo (cs := #[.int .i64 d9.kind, .int .i64 d9.n, .int .i64 d9.seg, .int .i64 d9.pos, .int .u8 (d9.turn : Int), .int .i64 d9.bat.cmd, .slice Ae d9.bat.evs.length Ce, .string td, .int .i64 7]) (t := 43))) | (have T6 := TR _ _ _ (td_opE (cs := #[.int .i64 d9.kind, .int .i64 d9.n, .int .i64 d9.seg, .int .i64 d9.pos, .int .u8 (d9.turn : Int), .int .i64 d9.bat.cmd, .slice Ae d9.bat.evs.length Ce, .string td, .int .i64 7]) (t := 43))) | (have T6 := TR _ _ _ (td_poE (cs := #[.int .i64 d9.kind, .int .i64 d9.n, .int .i64 d9.seg, .int .i64 d9.pos, .int .u8 (d9.turn : Int), .int .i64 d9.bat.cmd, .slice Ae d9.bat.evs.length Ce, .string td, .int .i64 7]) (t := 43))) | skip); (first | (have Z6 := TR _ _ _ (td_Eo (cs := zSt) (t := 33))) | (have Z6 := TR _ _ _ (td_oE (cs := zSt) (t := 33))) | (have Z6 := TR _ _ _ (td_Eop (cs := zSt) (t := 33))) | (have Z6 := TR _ _ _ (td_Epo (cs := zSt) (t := 33))) | (have Z6 := TR _ _ _ (td_oEp (cs := zSt) (t := 33))) | (have Z6 := TR _ _ _ (td_pEo (cs := zSt) (t := 33))) | (have Z6 := TR _ _ _ (td_opE (cs := zSt) (t := 33))) | (have Z6 := TR _ _ _ (td_poE (cs := zSt) (t := 33))) | skip); have S6 := HSo w6 R6.bel; have hs6 := R6.bel.size; simp only [List.nil_append] at R6)
             | (refine app_rd rfl (.tmp 64) (.tmp 66) rfl (ys := [({ d9 with ver := 7 }, .slice Ae d9.bat.evs.length Ce, td)]) rfl rfl (fun e => by cases e) (by first | exact R6 | exact R6.alloc _ | exact (R6.alloc _).alloc _) rfl (by first | exact (fun A9 e => by cases e; exact T6.cells) | exact (fun A9 e => by cases e; exact (T6.alloc _).cells) | exact (fun A9 e => by cases e; exact (td_n0 (cs := #[.int .i64 d9.kind, .int .i64 d9.n, .int .i64 d9.seg, .int .i64 d9.pos, .int .u8 (d9.turn : Int), .int .i64 d9.bat.cmd, .slice Ae d9.bat.evs.length Ce, .string td, .int .i64 7]) (t := 43) R6).cells) | exact (fun A9 e => by cases e; exact ((td_n0 (cs := #[.int .i64 d9.kind, .int .i64 d9.n, .int .i64 d9.seg, .int .i64 d9.pos, .int .u8 (d9.turn : Int), .int .i64 d9.bat.cmd, .slice Ae d9.bat.evs.length Ce, .string td, .int .i64 7]) (t := 43) R6).alloc _).cells) | exact (fun A9 e => by cases e; exact (td_n1 (cs := #[.int .i64 d9.kind, .int .i64 d9.n, .int .i64 d9.seg, .int .i64 d9.pos, .int .u8 (d9.turn : Int), .int .i64 d9.bat.cmd, .slice Ae d9.bat.evs.length Ce, .string td, .int .i64 7]) (t := 43) R6 _).cells)) HQ2.out hql' ?_; intro v7 w7 R7 TR7; (first | (have Z7 := TR7 _ _ _ Z6) | (have Z7 := TR7 _ _ _ (Z6.alloc _)) | (have Z7 := TR7 _ _ _ (td_n0 (cs := zSt) (t := 33) R6)) | (have Z7 := TR7 _ _ _ ((td_n0 (cs := zSt) (t := 33) R6).alloc _)) | (have Z7 := TR7 _ _ _ (td_n1 (cs := zSt) (t := 33) R6 _)) | skip); have S7 := HSo w7 R7.bel; have hs7 := R7.bel.size)
             | (go_at_call 10; refine (HPL8 _ _ (by first | exact R7 | exact R7.alloc _)).mono ?_; rintro e8 w8 ⟨vd8, vt8, vs8, va8, vr8, rfl, hS8, hR8, b8, hF8⟩; have B8 : Below W.heap.size W w8 := (by first | exact bt R7.bel b8 | exact bt (R7.alloc _).bel b8); have S8 := HSo w8 B8; obtain ⟨Ad8, nd8, Cd8, rfl⟩ : ∃ A n C, vd8 = .slice A n C := (by obtain ⟨A, C, h, _⟩ := hS8.dk; exact ⟨A, _, C, h⟩); obtain ⟨At8, nt8, Ct8, rfl⟩ : ∃ A n C, vt8 = .slice A n C := (by obtain ⟨A, C, h, _⟩ := hS8.tl; exact ⟨A, _, C, h⟩); obtain ⟨As8, ns8, Cs8, rfl⟩ : ∃ A n C, vs8 = .slice A n C := (by obtain ⟨A, C, h, _⟩ := hS8.sn; exact ⟨A, _, C, h⟩); obtain ⟨Aa8, na8, Ca8, rfl⟩ : ∃ A n C, va8 = .slice A n C := (by obtain ⟨A, C, h, _⟩ := hS8.ac; exact ⟨A, _, C, h⟩); (first | (have Y := Z7.row.below b8; have y0 := Y.cell (i := 0) rfl; have f0 := Y.frozen 0; have y1 := Y.cell (i := 1) rfl; have f1 := Y.frozen 1; have y2 := Y.cell (i := 2) rfl; have f2 := Y.frozen 2; have y3 := Y.cell (i := 3) rfl; have f3 := Y.frozen 3; have y4 := Y.cell (i := 4) rfl; have f4 := Y.frozen 4; have y5 := Y.cell (i := 5) rfl; have f5 := Y.frozen 5; have y6 := Y.cell (i := 6) rfl; have f6 := Y.frozen 6; have y7 := Y.cell (i := 7) rfl; have f7 := Y.frozen 7; have y8 := Y.cell (i := 8) rfl; have f8 := Y.frozen 8; have Yl : _ < w8.heap.size := RowC.lt Y; have Yn := Nat.ne_of_lt Yl; have Ym := Nat.ne_of_gt Yl) | (have Y := (varN_new w7 zSt 33).below b8; have y0 := Y.cell (i := 0) rfl; have f0 := Y.frozen 0; have y1 := Y.cell (i := 1) rfl; have f1 := Y.frozen 1; have y2 := Y.cell (i := 2) rfl; have f2 := Y.frozen 2; have y3 := Y.cell (i := 3) rfl; have f3 := Y.frozen 3; have y4 := Y.cell (i := 4) rfl; have f4 := Y.frozen 4; have y5 := Y.cell (i := 5) rfl; have f5 := Y.frozen 5; have y6 := Y.cell (i := 6) rfl; have f6 := Y.frozen 6; have y7 := Y.cell (i := 7) rfl; have f7 := Y.frozen 7; have y8 := Y.cell (i := 8) rfl; have f8 := Y.frozen 8; have Yl : _ < w8.heap.size := RowC.lt Y; have Yn := Nat.ne_of_lt Yl; have Ym := Nat.ne_of_gt Yl) | skip)))
    all_goals go_wp2_with fail
    all_goals go_meet
    all_goals first | with_reducible exact playV_new hS8 hR8 B8 | with_reducible exact playV_set hF8 B8 Y (by first | exact Z7.row.lt8 | simp) (by omega)
  case rest =>
    obtain ⟨P, vd', vt', vs', va', rfl, rfl, VP, hSP, hRP, bP⟩ := hcut
    obtain ⟨w8, hw8⟩ : ∃ y, y = wc := ⟨wc, rfl⟩
    rw [← hw8] at VP hSP hRP bP ⊢
    clear hw8 HSo TD bA1 bA2 bA3 HPL8 HQC8 HPL HQC HQ1 HQ2 HKEY hql'
    obtain ⟨hg1, hg2⟩ := HAG2.out
    obtain ⟨Ad', nd', Cd', rfl⟩ : ∃ A n C, vd' = .slice A n C := by
      obtain ⟨A, C, h, _⟩ := hSP.dk
      exact ⟨A, _, C, h⟩
    obtain ⟨At', nt', Ct', rfl⟩ : ∃ A n C, vt' = .slice A n C := by
      obtain ⟨A, C, h, _⟩ := hSP.tl
      exact ⟨A, _, C, h⟩
    obtain ⟨As', ns', Cs', rfl⟩ : ∃ A n C, vs' = .slice A n C := by
      obtain ⟨A, C, h, _⟩ := hSP.sn
      exact ⟨A, _, C, h⟩
    obtain ⟨Aa', na', Ca', rfl⟩ : ∃ A n C, va' = .slice A n C := by
      obtain ⟨A, C, h⟩ := hSP.ac.shape
      exact ⟨A, _, C, h⟩
    rw [hg1] at VP hSP
    obtain ⟨Ap, Cp, hvp, hp1, hp2, hpa⟩ := hRP
    have hnp : n < r2.2.length := (List.getElem?_eq_some_iff.1 hg2).1
    obtain ⟨np, hnpe⟩ : ∃ np, np = r2.2.length := ⟨_, rfl⟩
    rw [← hnpe] at hvp hp1 hnp
    subst hvp
    have hp2 : Cp ≤ 9223372036854775807 := by unfold maxLen at hp2; exact hp2
    obtain ⟨bp, op, rfl, vep, vap, p0, p1, _⟩ := hpa n _ hg2
    have hnp' : (n : Int) < (np : Int) := by omega
    clear hpa hnpe hg1 hg2 HAG2
    have HTW : Hid (∀ w', Below W.heap.size W w' → Calls Tryz.prog 13 #[.slice (some ⟨bd, od, none⟩) n C, .slice (some ⟨br, or, none⟩) n Cr, .int .i64 (n : Int)] w' fun e w2 => CloneE e w2 w'.heap.size tl ∧ Below w'.heap.size w' w2) := fun w' hb => HT.out w' _ (bt bW hb) (HRW.out.below hb)
    have HSM : Hid (∀ w', Below w8.heap.size w8 w' → Calls Tryz.prog 14 #[.agg #[.int .i64 (c.d : Int), .int .i64 (c.s : Int), .int .i64 (c.b : Int), .slice Ad nd Cd, .int .i64 (r.1.segs : Int), .slice At nt Ct, .slice As ns Cs, .int .i64 r.1.u, .slice Aa na Ca], .agg #[.int .i64 (c.d : Int), .int .i64 (c.s : Int), .int .i64 (c.b : Int), .slice Ad' nd' Cd', .int .i64 (r.1.segs : Int), .slice At' nt' Ct', .slice As' ns' Cs', .int .i64 r.1.u, .slice Aa' na' Ca']] w' fun e w2 => e = .returned (.bool true) ∧ Below w'.heap.size w' w2) := fun w' hb => same_sto _ _ _ _ _ _ _ _ _ _ _ _ _ r.1 w' ((HSW.out.below bP).below hb) (hSP.below hb)
    have hVT8 := HVT.out.below bP
    obtain ⟨L, hL⟩ : ∃ L, L = tl.length := ⟨_, rfl⟩
    have p0 : w8.cell? ⟨bp, op + n * 5, none⟩ = some (.int .i64 0) := p0
    have p1 : w8.cell? ⟨bp, op + n * 5 + 1, none⟩ = some (.int .i64 (L : Int)) := by rw [hL]; exact p1
    have HL : Hid (L = tl.length) := hL
    clear hL
    have HSo : ∀ w', Below w8.heap.size w8 w' → ((w'.cell? ⟨w2.heap.size, 0, none⟩ = some (.int .i64 (c.d : Int)) ∧ w'.cell? ⟨w2.heap.size, 1, none⟩ = some (.int .i64 (c.s : Int)) ∧ w'.cell? ⟨w2.heap.size, 2, none⟩ = some (.int .i64 (c.b : Int)) ∧ w'.cell? ⟨w2.heap.size, 3, none⟩ = some (.slice Ad nd Cd) ∧ w'.cell? ⟨w2.heap.size, 4, none⟩ = some (.int .i64 (r.1.segs : Int)) ∧ w'.cell? ⟨w2.heap.size, 5, none⟩ = some (.slice At nt Ct) ∧ w'.cell? ⟨w2.heap.size, 6, none⟩ = some (.slice As ns Cs) ∧ w'.cell? ⟨w2.heap.size, 7, none⟩ = some (.int .i64 r.1.u) ∧ w'.cell? ⟨w2.heap.size, 8, none⟩ = some (.slice Aa na Ca)) ∧ (w'.cell? ⟨P, 0, none⟩ = some (.int .i64 (c.d : Int)) ∧ w'.cell? ⟨P, 1, none⟩ = some (.int .i64 (c.s : Int)) ∧ w'.cell? ⟨P, 2, none⟩ = some (.int .i64 (c.b : Int)) ∧ w'.cell? ⟨P, 3, none⟩ = some (.slice Ad' nd' Cd') ∧ w'.cell? ⟨P, 4, none⟩ = some (.int .i64 (r.1.segs : Int)) ∧ w'.cell? ⟨P, 5, none⟩ = some (.slice At' nt' Ct') ∧ w'.cell? ⟨P, 6, none⟩ = some (.slice As' ns' Cs') ∧ w'.cell? ⟨P, 7, none⟩ = some (.int .i64 r.1.u) ∧ w'.cell? ⟨P, 8, none⟩ = some (.slice Aa' na' Ca')) ∧ w'.cell? ⟨bp, op + n * 5, none⟩ = some (.int .i64 0) ∧ w'.cell? ⟨bp, op + n * 5 + 1, none⟩ = some (.int .i64 (L : Int))) ∧ Below w8.heap.size w8 w' := fun w' hb => ⟨⟨⟨(hVT8.below hb).cell (i := 0) rfl, (hVT8.below hb).cell (i := 1) rfl, (hVT8.below hb).cell (i := 2) rfl, (hVT8.below hb).cell (i := 3) rfl, (hVT8.below hb).cell (i := 4) rfl, (hVT8.below hb).cell (i := 5) rfl, (hVT8.below hb).cell (i := 6) rfl, (hVT8.below hb).cell (i := 7) rfl, (hVT8.below hb).cell (i := 8) rfl⟩, ⟨(VP.below hb).cell (i := 0) rfl, (VP.below hb).cell (i := 1) rfl, (VP.below hb).cell (i := 2) rfl, (VP.below hb).cell (i := 3) rfl, (VP.below hb).cell (i := 4) rfl, (VP.below hb).cell (i := 5) rfl, (VP.below hb).cell (i := 6) rfl, (VP.below hb).cell (i := 7) rfl, (VP.below hb).cell (i := 8) rfl⟩, (hb.cell (p := ⟨bp, op + n * 5, none⟩) (World.block_lt_of_cell? _ _ p0)).trans p0, (hb.cell (p := ⟨bp, op + n * 5 + 1, none⟩) (World.block_lt_of_cell? _ _ p1)).trans p1⟩, hb⟩
    have TD := HSo w8.drew (Below.refl _ _).drew
    have bD8 : Below w8.heap.size w8 w8.drew := (Below.refl _ _).drew
    have hTW8 := HTW.out w8.drew (bt bP bD8)
    have hSM8 := HSM.out
    have bW8 := bt bW bP
    clear hVT8 VP hSP HSW HVT HT HRW p0 p1 HTW HSM
    go_wp2_with fail
    go_region_held3 (fun w' => ((w'.cell? ⟨w2.heap.size, 0, none⟩ = some (.int .i64 (c.d : Int)) ∧ w'.cell? ⟨w2.heap.size, 1, none⟩ = some (.int .i64 (c.s : Int)) ∧ w'.cell? ⟨w2.heap.size, 2, none⟩ = some (.int .i64 (c.b : Int)) ∧ w'.cell? ⟨w2.heap.size, 3, none⟩ = some (.slice Ad nd Cd) ∧ w'.cell? ⟨w2.heap.size, 4, none⟩ = some (.int .i64 (r.1.segs : Int)) ∧ w'.cell? ⟨w2.heap.size, 5, none⟩ = some (.slice At nt Ct) ∧ w'.cell? ⟨w2.heap.size, 6, none⟩ = some (.slice As ns Cs) ∧ w'.cell? ⟨w2.heap.size, 7, none⟩ = some (.int .i64 r.1.u) ∧ w'.cell? ⟨w2.heap.size, 8, none⟩ = some (.slice Aa na Ca)) ∧ (w'.cell? ⟨P, 0, none⟩ = some (.int .i64 (c.d : Int)) ∧ w'.cell? ⟨P, 1, none⟩ = some (.int .i64 (c.s : Int)) ∧ w'.cell? ⟨P, 2, none⟩ = some (.int .i64 (c.b : Int)) ∧ w'.cell? ⟨P, 3, none⟩ = some (.slice Ad' nd' Cd') ∧ w'.cell? ⟨P, 4, none⟩ = some (.int .i64 (r.1.segs : Int)) ∧ w'.cell? ⟨P, 5, none⟩ = some (.slice At' nt' Ct') ∧ w'.cell? ⟨P, 6, none⟩ = some (.slice As' ns' Cs') ∧ w'.cell? ⟨P, 7, none⟩ = some (.int .i64 r.1.u) ∧ w'.cell? ⟨P, 8, none⟩ = some (.slice Aa' na' Ca')) ∧ w'.cell? ⟨bp, op + n * 5, none⟩ = some (.int .i64 0) ∧ w'.cell? ⟨bp, op + n * 5 + 1, none⟩ = some (.int .i64 (L : Int))) ∧ Below w8.heap.size w8 w')
      (first | with_reducible exact TD | with_reducible assumption)
      (first | (go_at_call 13; refine hTW8.mono ?_; rintro e9 w9 ⟨⟨v9, es9, rfl, hm9, hE9⟩, b9⟩; have B9 := bt bD8 b9; have S9 := HSo w9 B9; have hl9 : es9.length = L := (by rw [HL.out, ← hm9, List.length_map]); obtain ⟨A9, C9, hv9⟩ := hE9.shape; rw [hl9] at hv9; subst hv9; clear hm9 hE9 hl9)
             | (go_at_call 14; refine (hSM8 _ B9).mono ?_; rintro e10 w10 ⟨rfl, b10⟩; have S10 := HSo w10 (bt B9 b10)))
    go_wp2_with fail
    go_ret
    exact ⟨rfl, bt (bt bW8 B9) b10⟩

end Go.Proofs.YtldjieplbeflfaaGreat
