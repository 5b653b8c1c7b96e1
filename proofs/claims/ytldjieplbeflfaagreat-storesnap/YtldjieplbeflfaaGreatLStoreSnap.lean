/-
  Whatever setup and things to do there are: the snapshot of the store that Play tells is what all events that were put in come to; where nothing is played no store is told. No condition.
-/
import Derived.Test.YtldjieplbeflfaaGreatRows
import Derived.Test.YtldjieplbeflfaaGreatZ51
import Derived.Test.YtldjieplbeflfaaGreatZ53
import Derived.ProofKit
import Derived.OpenShut
import Derived.Carry
import Derived.Deep.Cut
import Derived.Deep.CutRange
namespace Go.Proofs.YtldjieplbeflfaaGreat.storeSnap
open Go.ChangeShapes Go.WideShapes Go.ChangeAt Go.RowKit
set_option linter.unusedVariables false

theorem own : ownKnob Tryz.prog.godebug = none := by kernel_rfl

set_option maxHeartbeats 2000000 in
set_option maxRecDepth 100000 in
theorem walk (w : World) (d s b : Int) (v : Value) (l : List Sto.Do) (hD : Dos w v l) (_ : ∀ d, d ∈ l → RngD d) :
    Calls Tryz.prog 8 #[.agg #[.int .i64 d, .int .i64 s, .int .i64 b], v] w fun e w' => e = .returned (.bool true) ∧ Below w.heap.size w w' := by
  have b0 : Below w.heap.size w (w.alloc (.cells #[.int .i64 d, .int .i64 s, .int .i64 b] 23)) := (Below.refl _ _).alloc (Nat.le_refl _) _
  have VS := varN_new w #[.int .i64 d, .int .i64 s, .int .i64 b] 23
  have HA := alive_any (w.alloc (.cells #[.int .i64 d, .int .i64 s, .int .i64 b] 23))
  have HD : Hid (∀ w', Below w.heap.size w w' → Dos w' v l) := fun w' hb => hD.below hb
  obtain ⟨A, C, rfl, hc1, hc2, _⟩ := hD
  have hc2 : C ≤ 9223372036854775807 := by unfold maxLen at hc2; exact hc2
  by_cases hok : wrongS d s b = 0 ∧ l.length ≤ 80
  · obtain ⟨h0, h80⟩ := hok
    obtain ⟨c, ed, es, eb, h1, h2, h3, h4, h5⟩ := setup_ok h0
    obtain ⟨X, hX⟩ := Sto.six
    have HP : Hid (∀ w', Below w.heap.size w w' → Calls Tryz.prog 10 #[.agg #[.int .i64 d, .int .i64 s, .int .i64 b], .slice A l.length C] w' fun e w2 => PlayR e w' w2 c (Sto.steps X c (Sto.start c) l)) := fun w' hb => playR hX c d s b ed es eb h1 h2 h3 h4 h5 _ l w' (HD.out w' hb) h80
    have HT : Hid (∀ w' va, Below w.heap.size w w' → Anss w' va (Sto.steps X c (Sto.start c) l).2 → Calls Tryz.prog 13 #[.slice A l.length C, va, .int .i64 (l.length : Int)] w' fun e w2 => CloneE e w2 w'.heap.size (Sto.toldOf (l.zip (Sto.steps X c (Sto.start c) l).2) []) ∧ Below w'.heap.size w' w2) := fun w' va hb ha => by
      have := told_at (X := X) (c := c) l l.length (Nat.le_refl _) h80 (.slice A l.length C) va w' (HD.out w' hb) ha
      rw [List.take_of_length_le (by rw [List.length_zip]; omega)] at this
      exact this
    have HS : Hid ((Vw.fold 0 [] (Sto.toldOf (l.zip (Sto.steps X c (Sto.start c) l).2) [])).1.1 = 0 ∧ (Vw.fold 0 [] (Sto.toldOf (l.zip (Sto.steps X c (Sto.start c) l).2) [])).2 = ((Sto.steps X c (Sto.start c) l).1.u, (Sto.steps X c (Sto.start c) l).1.acc)) := Sto.steps_snap X c l (Sto.start c) [] [] (fun x => Iff.rfl) rfl rfl
    clear h0 h1 h2 h3 h4 h5 HD ed es eb
    generalize Sto.toldOf (l.zip (Sto.steps X c (Sto.start c) l).2) [] = tl at HT HS
    generalize Sto.steps X c (Sto.start c) l = r at HP HT HS
    obtain ⟨n, hn⟩ : ∃ n, n = l.length := ⟨_, rfl⟩
    rw [← hn] at HP HT hc1 ⊢
    clear hn h80 hX
    go_enter Tryz.func8, Tryz.ntmps8
    go_wp2_with fail
    refine HA.mono ?_
    rintro e w1 ⟨rfl, b1⟩
    have VS1 := VS.below b1
    have s0 := VS1.cell (i := 0) rfl
    have s1 := VS1.cell (i := 1) rfl
    have s2 := VS1.cell (i := 2) rfl
    have b1 := bt b0 b1
    have HP1 := HP.out w1 b1
    clear HA HP VS VS1 b0
    go_wp2_with fail
    refine HP1.mono ?_
    rintro e w2 ⟨vd, vt, vs, va, vr, rfl, hS, hR, b2, _⟩
    have b2 := bt b1 b2
    obtain ⟨Ad, nd, Cd, rfl⟩ : ∃ A n C, vd = .slice A n C := by
      obtain ⟨A, C, h, _⟩ := hS.dk
      exact ⟨A, _, C, h⟩
    obtain ⟨At, nt, Ct, rfl⟩ : ∃ A n C, vt = .slice A n C := by
      obtain ⟨A, C, h, _⟩ := hS.tl
      exact ⟨A, _, C, h⟩
    obtain ⟨As, ns, Cs, rfl⟩ : ∃ A n C, vs = .slice A n C := by
      obtain ⟨A, C, h, _⟩ := hS.sn
      exact ⟨A, _, C, h⟩
    obtain ⟨Aa, Ca, hva⟩ := hS.ac.shape
    obtain ⟨na, hna⟩ : ∃ n, n = r.1.acc.length := ⟨_, rfl⟩
    rw [← hna] at hva
    subst hva
    have bz : ∀ o, Below w2.heap.size w2 (w2.alloc o) := fun o => (Below.refl _ _).alloc (Nat.le_refl _) _
    have hS3 := hS.below (bz (.cells #[.int .i64 (c.d : Int), .int .i64 (c.s : Int), .int .i64 (c.b : Int), .slice Ad nd Cd, .int .i64 (r.1.segs : Int), .slice At nt Ct, .slice As ns Cs, .int .i64 r.1.u, .slice Aa na Ca] 33))
    have hR3 := hR.below (bz (.cells #[.int .i64 (c.d : Int), .int .i64 (c.s : Int), .int .i64 (c.b : Int), .slice Ad nd Cd, .int .i64 (r.1.segs : Int), .slice At nt Ct, .slice As ns Cs, .int .i64 r.1.u, .slice Aa na Ca] 33))
    have HTL := HT.out _ vr (bt b2 (bz (.cells #[.int .i64 (c.d : Int), .int .i64 (c.s : Int), .int .i64 (c.b : Int), .slice Ad nd Cd, .int .i64 (r.1.segs : Int), .slice At nt Ct, .slice As ns Cs, .int .i64 r.1.u, .slice Aa na Ca] 33))) hR3
    have b3 := bt b2 (bz (.cells #[.int .i64 (c.d : Int), .int .i64 (c.s : Int), .int .i64 (c.b : Int), .slice Ad nd Cd, .int .i64 (r.1.segs : Int), .slice At nt Ct, .slice As ns Cs, .int .i64 r.1.u, .slice Aa na Ca] 33))
    have VT := varN_new w2 #[.int .i64 (c.d : Int), .int .i64 (c.s : Int), .int .i64 (c.b : Int), .slice Ad nd Cd, .int .i64 (r.1.segs : Int), .slice At nt Ct, .slice As ns Cs, .int .i64 r.1.u, .slice Aa na Ca] 33
    obtain ⟨Ar, nr, Cr, rfl⟩ : ∃ A n C, vr = .slice A n C := by
      obtain ⟨A, C, h, _⟩ := hR
      exact ⟨A, _, C, h⟩
    have HNA : Hid (na = r.1.acc.length) := hna
    clear HP1 s0 s1 s2 hS hR hR3 HT b1 hna bz
    go_wp2_with fail
    refine HTL.mono ?_
    rintro e w4 ⟨⟨v4, es4, rfl, hm4, hE4⟩, b4⟩
    have HFO := fold_any 0 (.slice none 0 0) v4 [] (es4.map evOf) w4 (Accs.nil _) hE4.evs
    rw [hm4] at HFO
    have VT4 := VT.below b4
    have hS4 := hS3.below b4
    have b4 := bt b3 b4
    obtain ⟨A4, C4, rfl⟩ := hE4.shape
    clear HTL VT hS3 b3 hm4 hE4
    go_wp2_with fail
    refine HFO.mono ?_
    rintro e w5 ⟨⟨v5, rfl, hA5, _⟩, b5⟩
    have hS5 := hS4.below b5
    have VT5 := VT4.below b5
    have b5 := bt b4 b5
    obtain ⟨A5, C5, rfl⟩ := hA5.shape
    obtain ⟨f0, f1⟩ := HS.out
    obtain ⟨⟨⟨fe, fx⟩, fu, fl⟩, hf⟩ : ∃ y, y = Vw.fold 0 [] tl := ⟨_, rfl⟩
    rw [← hf] at f0 f1 hA5 ⊢
    have f0 : fe = 0 := f0
    subst f0
    obtain ⟨rfl, rfl⟩ : fu = r.1.u ∧ fl = r.1.acc := Prod.mk.inj f1
    unfold faultV
    have t1 : Below w5.heap.size w5 (w5.alloc (.cells #[.int .i64 r.1.u, .slice A5 r.1.acc.length C5] 31)) := (Below.refl _ _).alloc (Nat.le_refl _) _
    have t2 := t1.alloc t1.size (.cells #[.int .i64 0, .int .i64 (fx : Int)] 62)
    have HSV := sameView_any r.1.u r.1.u (.slice A5 r.1.acc.length C5) (.slice Aa na Ca) r.1.acc r.1.acc _ (hA5.below t2) (hS5.ac.below t2)
    have c7 := VT5.cell (i := 7) rfl
    have c8 := VT5.cell (i := 8) rfl
    have hl8 : w2.heap.size < w5.heap.size := World.block_lt_of_cell? _ _ c7
    have hn8 := Nat.ne_of_lt hl8
    have hn9 : w2.heap.size ≠ w5.heap.size + 1 := by omega
    have b6 := bt b5 t2
    clear HFO VT4 VT5 hS4 hS5 hA5 b4 b5 HS f1 hf t1 t2
    go_wp2_with fail
    refine HSV.mono ?_
    rintro e w7 ⟨hT7, b7⟩
    obtain rfl := hT7.yes (by simp)
    clear HSV hT7
    go_wp2_with fail
    go_ret
    exact ⟨rfl, bt b6 b7⟩
  · obtain ⟨x, hx, HP⟩ : ∃ x : Nat, x ≠ 0 ∧ Hid (∀ w', Calls Tryz.prog 10 #[.agg #[.int .i64 d, .int .i64 s, .int .i64 b], .slice A l.length C] w' fun e w2 => NoPlay e w' w2 x) := by
      by_cases h0 : wrongS d s b = 0
      · exact ⟨5, by decide, fun w' => play_many d s b A l.length C w' h0 (by
          have : ¬ l.length ≤ 80 := fun q => hok ⟨h0, q⟩
          omega)⟩
      · exact ⟨_, h0, fun w' => play_bad d s b A l.length C w' _ rfl h0⟩
    have hxn : ((x : Int) != 0) = true := by rw [bne_iff_ne]; omega
    clear hx hok HD
    obtain ⟨n, hn⟩ : ∃ n, n = l.length := ⟨_, rfl⟩
    rw [← hn] at HP hc1 ⊢
    clear hn
    go_enter Tryz.func8, Tryz.ntmps8
    go_wp2_with fail
    refine HA.mono ?_
    rintro e w1 ⟨rfl, b1⟩
    have VS1 := VS.below b1
    have s0 := VS1.cell (i := 0) rfl
    have s1 := VS1.cell (i := 1) rfl
    have s2 := VS1.cell (i := 2) rfl
    have b1 := bt b0 b1
    have HP1 := HP.out w1
    clear HA HP VS VS1 b0
    go_wp2_with fail
    refine HP1.mono ?_
    rintro e w2 ⟨rfl, b2⟩
    have b2 := bt b1 b2
    have bz : Below w2.heap.size w2 (w2.alloc (.cells #[.int .i64 0, .int .i64 0, .int .i64 0, .slice none 0 0, .int .i64 0, .slice none 0 0, .slice none 0 0, .int .i64 0, .slice none 0 0] 33)) := (Below.refl _ _).alloc (Nat.le_refl _) _
    have hz : ∀ w', StIn w' (.slice none 0 0) (.slice none 0 0) (.slice none 0 0) (.slice none 0 0) ⟨[], 0, [], [], 0, []⟩ := fun w' => ⟨Dks.nil w', Bats.nil8 w', Nms.nil w', Accs.nil w'⟩
    have HSM := same_sto 0 0 0 0 0 _ _ _ _ _ _ _ _ _ (w2.alloc (.cells #[.int .i64 0, .int .i64 0, .int .i64 0, .slice none 0 0, .int .i64 0, .slice none 0 0, .slice none 0 0, .int .i64 0, .slice none 0 0] 33)) (hz _) (hz _)
    clear HP1 s0 s1 s2 hz
    go_wp2_with fail
    refine HSM.mono ?_
    rintro e w3 ⟨rfl, b3⟩
    clear HSM
    go_wp2_with fail
    go_ret
    exact ⟨rfl, bt (bt b2 bz) b3⟩

set_option maxRecDepth 100000 in
theorem lifted (os : Os) (started : os.Started) (H : Type) (enc : TypeId × Value → H) :
    ReturnsInHanded {} Tryz.checked os 8 .any (Rows.storeSnapSpec.pre6 enc Tryz.prog Tryz.f8 Rows.storeSnapRow.domain false) (Rows.storeSnapSpec.post enc Tryz.prog Tryz.f8 false true false false) := by
  refine returnsInHanded_of_change (C := Tryz.checked) own started (by kernel_rfl) Tryz.func8
    (ChangeSpec.witness6 (enc := enc) (C := Tryz.checked) false ⟨#[], #[.agg #[.int .i64 0, .int .i64 0, .int .i64 0], .slice none 0 0], []⟩ 8 (by kernel_rfl) (by kernel_rfl) (by kernel_rfl) (by kernel_rfl)) ?_
  intro W base args ds gs before hval0 hW hcnd _
  have hval : ∀ (j : Nat) t v, Tryz.f8.params[j]? = some t → args[j]? = some v → Value.okWide Tryz.prog W .any base t v := hval0
  have hW' := hW
  obtain ⟨p, q, hA0, hV, rfl, hfz, hnd⟩ := hW
  have hA : DataW.TrodAll enc Tryz.prog W 0 (fun _ => true) true Tryz.f8.params.toList args.toList ds p := hA0
  rw [Tryz.params8] at hA hval
  obtain ⟨v0, vs0, d0, ds0, p0, q0, hargs, rfl, rfl, h0, r0⟩ := trodAll_cons hA
  obtain ⟨v1, vs1, d1, ds1, p1, q1, rfl, rfl, rfl, h1, r1⟩ := trodAll_cons r0
  obtain ⟨rfl, rfl, rfl⟩ := trodAll_nil r1
  obtain rfl : args = #[v0, v1] := by cases args; simp_all
  obtain ⟨rfl, rfl⟩ := trodVars_none hV
  have k0 := h0
  have lt0 : ∀ x ∈ p0, x.block < W.heap.size := by obtain ⟨m, hm⟩ := k0; exact DataW.trod_lt m _ _ _ hm
  obtain ⟨s0, t0, z0, rfl⟩ := setup_of (hval 0 23 v0 rfl rfl) h0
  obtain ⟨a1, l1, c1, rfl⟩ := okWide_slice Tryz.underlying24 (hval 1 24 v1 rfl rfl)
  have k1 := h1
  have lt1 : ∀ x ∈ p1, x.block < W.heap.size := by obtain ⟨m, hm⟩ := k1; exact DataW.trod_lt m _ _ _ hm
  obtain ⟨f1, g1, z1⟩ := dos_of h1
  clear hA0 hval0
  refine (walk W s0 t0 z0 _ _ g1 z1).mono fun e W' ⟨he, bel⟩ => ?_
  subst he
  exact ⟨_, rfl, _, _, _, [], _, [], hW', trodAll_mk1 (shut_bool Tryz.underlying4 _), (trodAll_cons_mk (Below.trod Tryz.laidOut (by kernel_rfl) (of_decide_eq_true (by kernel_rfl)) k0 bel lt0) (trodAll_cons_mk (Below.trod Tryz.laidOut (by kernel_rfl) (of_decide_eq_true (by kernel_rfl)) k1 bel lt1) trodAll_mk0)), rfl, bel.frame _, fun h => by cases h⟩

theorem over : Rows.storeSnapRow.holds Tryz.pinned (OpenSpec.ofChange Rows.storeSnapSpec) :=
  OpenClaim.holds_of_wide 8 Tryz.f8 rfl rfl rfl rfl rfl rfl rfl ⟨rfl, rfl, rfl, rfl, rfl⟩ rfl rfl rfl rfl rfl (by kernel_rfl) Tryz.func8 (by kernel_rfl)
    (of_decide_eq_true (by kernel_rfl)) (by unfold Func.isWrapper; first | (rw [if_pos (by decide +kernel)]; kernel_rfl) | (rw [if_neg (by decide +kernel)]; exact ⟨rfl, rfl⟩))
    (fun os started H enc _ => lifted os started H enc)
end Go.Proofs.YtldjieplbeflfaaGreat.storeSnap

namespace Go.Proofs.YtldjieplbeflfaaGreat
theorem storeSnap_holds : Rows.StoreSnapSaid := storeSnap.over
#print axioms storeSnap_holds
end Go.Proofs.YtldjieplbeflfaaGreat
