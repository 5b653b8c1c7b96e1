/-
  Whatever setup and things to do there are: of two who say how many events a stream has just the first one who puts some there may. No condition.
-/
import Derived.Test.YtldjieplbeflfaaGreatRows
import Derived.Test.YtldjieplbeflfaaGreatZ51
import Derived.Test.YtldjieplbeflfaaGreatLHSecond
import Derived.ProofKit
import Derived.OpenShut
import Derived.Carry
import Derived.Deep.Cut
import Derived.Deep.CutRange
namespace Go.Proofs.YtldjieplbeflfaaGreat.storeVersion
open Go.ChangeShapes Go.WideShapes Go.ChangeAt Go.RowKit
set_option linter.unusedVariables false

theorem own : ownKnob Tryz.prog.godebug = none := by kernel_rfl

set_option maxHeartbeats 2000000 in
set_option maxRecDepth 100000 in
/-- Nothing is played. -/
theorem none_played (w : World) (d s b : Int) (A : Option Addr) (n C : Nat) (t : ByteArray) (m : Int) (hok : ¬ (wrongS d s b = 0 ∧ n ≤ 80)) :
    Calls Tryz.prog 7 #[.agg #[.int .i64 d, .int .i64 s, .int .i64 b], .slice A n C, .string t, .int .i64 m] w fun e w' => e = .returned (.bool true) ∧ Below w.heap.size w w' := by
  have b0 : Below w.heap.size w (w.alloc (.cells #[.int .i64 d, .int .i64 s, .int .i64 b] 23)) := (Below.refl _ _).alloc (Nat.le_refl _) _
  have VS := varN_new w #[.int .i64 d, .int .i64 s, .int .i64 b] 23
  have HA := alive_any (w.alloc (.cells #[.int .i64 d, .int .i64 s, .int .i64 b] 23))
  obtain ⟨x, hx, HP⟩ : ∃ x : Nat, x ≠ 0 ∧ Hid (∀ w', Calls Tryz.prog 10 #[.agg #[.int .i64 d, .int .i64 s, .int .i64 b], .slice A n C] w' fun e w2 => NoPlay e w' w2 x) := by
    by_cases h0 : wrongS d s b = 0
    · exact ⟨5, by decide, fun w' => play_many d s b A n C w' h0 (by
        have : ¬ n ≤ 80 := fun q => hok ⟨h0, q⟩
        omega)⟩
    · exact ⟨_, h0, fun w' => play_bad d s b A n C w' _ rfl h0⟩
  have hxn : ((x : Int) != 0) = true := by rw [bne_iff_ne]; omega
  clear hx hok
  go_enter Tryz.func7, Tryz.ntmps7
  go_wp2_with fail
  refine HA.mono ?_
  rintro e w1 ⟨rfl, b1⟩
  have VS1 := VS.below b1
  have s0 := VS1.cell (i := 0) rfl
  have s1 := VS1.cell (i := 1) rfl
  have s2 := VS1.cell (i := 2) rfl
  have b1 := bt b0 b1
  have HP1 := HP.out w1
  clear HA HP VS VS1 b0
  go_wp2_with fail
  refine HP1.mono ?_
  rintro e w2 ⟨rfl, b2⟩
  have b2 := bt b1 b2
  have bz : ∀ o, Below w.heap.size w (w2.alloc o) := fun o => b2.alloc b2.size _
  clear HP1 s0 s1 s2 b2 b1
  go_wp2_with fail
  go_ret
  exact ⟨rfl, bz _⟩
set_option maxHeartbeats 4000000 in
set_option maxRecDepth 100000 in
/-- Too many things, or no command. -/
theorem early (w : World) (d s b : Int) (A : Option Addr) (C : Nat) (l : List Sto.Do) (hD : Dos w (.slice A l.length C) l) (c : Sto.Cfg) (ed : d = (c.d : Int)) (es : s = (c.s : Int)) (eb : b = (c.b : Int)) (h1 : 1 ≤ c.d) (h2 : c.d ≤ 8) (h3 : c.s ≤ 4) (h4 : 1 ≤ c.b) (h5 : c.b ≤ 10) (X : Sto.Six) (hX : Sto.SixOk X) (h80 : l.length ≤ 80) (t : ByteArray) (m : Int)
    (hno : 78 < l.length ∨ (l.length ≤ 78 ∧ m < 1) ∨ (l.length ≤ 78 ∧ 1 ≤ m ∧ 1000000 ≤ m)) :
    Calls Tryz.prog 7 #[.agg #[.int .i64 d, .int .i64 s, .int .i64 b], .slice A l.length C, .string t, .int .i64 m] w fun e w' => e = .returned (.bool true) ∧ Below w.heap.size w w' := by
  have b0 : Below w.heap.size w (w.alloc (.cells #[.int .i64 d, .int .i64 s, .int .i64 b] 23)) := (Below.refl _ _).alloc (Nat.le_refl _) _
  have VS := varN_new w #[.int .i64 d, .int .i64 s, .int .i64 b] 23
  have HA := alive_any (w.alloc (.cells #[.int .i64 d, .int .i64 s, .int .i64 b] 23))
  have HP : Hid (∀ w', Below w.heap.size w w' → Calls Tryz.prog 10 #[.agg #[.int .i64 d, .int .i64 s, .int .i64 b], .slice A l.length C] w' fun e w2 => PlayR e w' w2 c (Sto.steps X c (Sto.start c) l)) := fun w' hb => playR hX c d s b ed es eb h1 h2 h3 h4 h5 _ l w' (hD.below hb) h80
  clear h1 h2 h3 h4 h5 ed es eb hX
  obtain ⟨_, _, hv0, hc1, hc2, _⟩ := hD
  cases hv0
  generalize Sto.steps X c (Sto.start c) l = r at HP
  obtain ⟨n, hn⟩ : ∃ n, n = l.length := ⟨_, rfl⟩
  rw [← hn] at HP hc1 h80 hno ⊢
  clear hn
  have HNO : Hid (78 < n ∨ (n ≤ 78 ∧ m < 1) ∨ (n ≤ 78 ∧ 1 ≤ m ∧ 1000000 ≤ m)) := hno
  clear hno
  have hwr : IntKind.i64.wrap ((n : Int) + 2) = (n : Int) + 2 := by rw [IntKind.wrap_i64]; omega
  go_enter Tryz.func7, Tryz.ntmps7
  go_wp2_with fail
  refine HA.mono ?_
  rintro e w1 ⟨rfl, b1⟩
  have VS1 := VS.below b1
  have s0 := VS1.cell (i := 0) rfl
  have s1 := VS1.cell (i := 1) rfl
  have s2 := VS1.cell (i := 2) rfl
  have b1 := bt b0 b1
  have HP1 := HP.out w1 b1
  clear HA HP VS VS1 b0
  go_wp2_with fail
  refine HP1.mono ?_
  rintro e w2 ⟨vd, vt, vs, va, vr, rfl, hS, hR, b2, _⟩
  have b2 := bt b1 b2
  have b3 : ∀ o, Below w.heap.size w (w2.alloc o) := fun o => b2.alloc b2.size _
  obtain ⟨Ad, nd, Cd, rfl⟩ : ∃ A n C, vd = .slice A n C := by
    obtain ⟨A, C, h, _⟩ := hS.dk
    exact ⟨A, _, C, h⟩
  obtain ⟨At, nt, Ct, rfl⟩ : ∃ A n C, vt = .slice A n C := by
    obtain ⟨A, C, h, _⟩ := hS.tl
    exact ⟨A, _, C, h⟩
  obtain ⟨As, ns, Cs, rfl⟩ : ∃ A n C, vs = .slice A n C := by
    obtain ⟨A, C, h, _⟩ := hS.sn
    exact ⟨A, _, C, h⟩
  obtain ⟨Aa, na, Ca, rfl⟩ : ∃ A n C, va = .slice A n C := by
    obtain ⟨A, C, h⟩ := hS.ac.shape
    exact ⟨A, _, C, h⟩
  clear HP1 s0 s1 s2 hS b1 hR b2
  rcases HNO.out with q | ⟨q0, q⟩ | ⟨q0, q1, q⟩
  · have q : (80 : Int) < (n : Int) + 2 := by omega
    clear HNO
    go_wp2_with fail
    go_ret
    exact ⟨rfl, b3 _⟩
  · have q0 : ¬ (80 : Int) < (n : Int) + 2 := by omega
    clear HNO
    go_wp2_with fail
    go_ret
    exact ⟨rfl, b3 _⟩
  · have q0 : ¬ (80 : Int) < (n : Int) + 2 := by omega
    have q1 : ¬ m < 1 := by omega
    clear HNO
    go_wp2_with fail
    go_ret
    exact ⟨rfl, b3 _⟩
theorem walk (w : World) (d s b : Int) (v : Value) (l : List Sto.Do) (hD : Dos w v l) (_ : ∀ d, d ∈ l → RngD d) (t : ByteArray) (htz : t.size ≤ maxLen) (m : Int) (_ : (Lit.int .i64 m).wf = true) :
    Calls Tryz.prog 7 #[.agg #[.int .i64 d, .int .i64 s, .int .i64 b], v, .string t, .int .i64 m] w fun e w' => e = .returned (.bool true) ∧ Below w.heap.size w w' := by
  have hD' := hD
  obtain ⟨A, C, rfl, _⟩ := hD'
  by_cases hok : wrongS d s b = 0 ∧ l.length ≤ 80
  · obtain ⟨h0, h80⟩ := hok
    obtain ⟨c, ed, es, eb, h1, h2, h3, h4, h5⟩ := setup_ok h0
    obtain ⟨X, hX⟩ := Sto.six
    by_cases q0 : 78 < l.length
    · exact early w d s b A C l hD c ed es eb h1 h2 h3 h4 h5 X hX h80 t m (Or.inl q0)
    by_cases q1 : m < 1
    · exact early w d s b A C l hD c ed es eb h1 h2 h3 h4 h5 X hX h80 t m (Or.inr (Or.inl ⟨by omega, q1⟩))
    by_cases q2 : 1000000 ≤ m
    · exact early w d s b A C l hD c ed es eb h1 h2 h3 h4 h5 X hX h80 t m (Or.inr (Or.inr ⟨by omega, by omega, q2⟩))
    exact version_main w d s b A C l hD c ed es eb h1 h2 h3 h4 h5 X hX (by omega) t (by unfold maxLen at htz; exact htz) m (by omega) (by omega)
  · exact none_played w d s b A l.length C t m hok

set_option maxRecDepth 100000 in
theorem lifted (os : Os) (started : os.Started) (H : Type) (enc : TypeId × Value → H) :
    ReturnsInHanded {} Tryz.checked os 7 .any (Rows.storeVersionSpec.pre6 enc Tryz.prog Tryz.f7 Rows.storeVersionRow.domain false) (Rows.storeVersionSpec.post enc Tryz.prog Tryz.f7 false true false false) := by
  refine returnsInHanded_of_change (C := Tryz.checked) own started (by kernel_rfl) Tryz.func7
    (ChangeSpec.witness6 (enc := enc) (C := Tryz.checked) false ⟨#[], #[.agg #[.int .i64 0, .int .i64 0, .int .i64 0], .slice none 0 0, .string ByteArray.empty, .int .i64 0], []⟩ 8 (by kernel_rfl) (by kernel_rfl) (by kernel_rfl) (by kernel_rfl)) ?_
  intro W base args ds gs before hval0 hW hcnd _
  have hval : ∀ (j : Nat) t v, Tryz.f7.params[j]? = some t → args[j]? = some v → Value.okWide Tryz.prog W .any base t v := hval0
  have hW' := hW
  obtain ⟨p, q, hA0, hV, rfl, hfz, hnd⟩ := hW
  have hA : DataW.TrodAll enc Tryz.prog W 0 (fun _ => true) true Tryz.f7.params.toList args.toList ds p := hA0
  rw [Tryz.params7] at hA hval
  obtain ⟨v0, vs0, d0, ds0, p0, q0, hargs, rfl, rfl, h0, r0⟩ := trodAll_cons hA
  obtain ⟨v1, vs1, d1, ds1, p1, q1, rfl, rfl, rfl, h1, r1⟩ := trodAll_cons r0
  obtain ⟨v2, vs2, d2, ds2, p2, q2, rfl, rfl, rfl, h2, r2⟩ := trodAll_cons r1
  obtain ⟨v3, vs3, d3, ds3, p3, q3, rfl, rfl, rfl, h3, r3⟩ := trodAll_cons r2
  obtain ⟨rfl, rfl, rfl⟩ := trodAll_nil r3
  obtain rfl : args = #[v0, v1, v2, v3] := by cases args; simp_all
  obtain ⟨rfl, rfl⟩ := trodVars_none hV
  have k0 := h0
  have lt0 : ∀ x ∈ p0, x.block < W.heap.size := by obtain ⟨m, hm⟩ := k0; exact DataW.trod_lt m _ _ _ hm
  obtain ⟨s0, t0, z0, rfl⟩ := setup_of (hval 0 23 v0 rfl rfl) h0
  obtain ⟨a1, l1, c1, rfl⟩ := okWide_slice Tryz.underlying24 (hval 1 24 v1 rfl rfl)
  have k1 := h1
  have lt1 : ∀ x ∈ p1, x.block < W.heap.size := by obtain ⟨m, hm⟩ := k1; exact DataW.trod_lt m _ _ _ hm
  obtain ⟨f1, g1, z1⟩ := dos_of h1
  have k2 := h2
  have lt2 : ∀ x ∈ p2, x.block < W.heap.size := by obtain ⟨m, hm⟩ := k2; exact DataW.trod_lt m _ _ _ hm
  obtain ⟨s2, rfl, g2⟩ := string_of (hval 2 9 v2 rfl rfl) h2
  obtain ⟨a3, rfl, rfl, rfl, g3⟩ := open_int Tryz.underlying3 (hval 3 3 v3 rfl rfl) h3
  clear hA0 hval0
  refine (walk W s0 t0 z0 _ _ g1 z1 s2 g2 a3 g3).mono fun e W' ⟨he, bel⟩ => ?_
  subst he
  exact ⟨_, rfl, _, _, _, [], _, [], hW', trodAll_mk1 (shut_bool Tryz.underlying4 _), (trodAll_cons_mk (Below.trod Tryz.laidOut (by kernel_rfl) (of_decide_eq_true (by kernel_rfl)) k0 bel lt0) (trodAll_cons_mk (Below.trod Tryz.laidOut (by kernel_rfl) (of_decide_eq_true (by kernel_rfl)) k1 bel lt1) (trodAll_cons_mk (Below.trod Tryz.laidOut (by kernel_rfl) (of_decide_eq_true (by kernel_rfl)) k2 bel lt2) (trodAll_cons_mk (shut_int Tryz.underlying3 g3) trodAll_mk0)))), rfl, bel.frame _, fun h => by cases h⟩

theorem over : Rows.storeVersionRow.holds Tryz.pinned (OpenSpec.ofChange Rows.storeVersionSpec) :=
  OpenClaim.holds_of_wide 7 Tryz.f7 rfl rfl rfl rfl rfl rfl rfl ⟨rfl, rfl, rfl, rfl, rfl⟩ rfl rfl rfl rfl rfl (by kernel_rfl) Tryz.func7 (by kernel_rfl)
    (of_decide_eq_true (by kernel_rfl)) (by unfold Func.isWrapper; first | (rw [if_pos (by decide +kernel)]; kernel_rfl) | (rw [if_neg (by decide +kernel)]; exact ⟨rfl, rfl⟩))
    (fun os started H enc _ => lifted os started H enc)
end Go.Proofs.YtldjieplbeflfaaGreat.storeVersion

namespace Go.Proofs.YtldjieplbeflfaaGreat
theorem storeVersion_holds : Rows.StoreVersionSaid := storeVersion.over
#print axioms storeVersion_holds
end Go.Proofs.YtldjieplbeflfaaGreat
