/-
  Whatever setup and things to do there are: a command that was done, said again, is told how many events there are, and does nothing. No condition.
-/
import Derived.Test.YtldjieplbeflfaaGreatRows
import Derived.Test.YtldjieplbeflfaaGreatZ51
import Derived.Test.YtldjieplbeflfaaGreatLHAgain
import Derived.ProofKit
import Derived.OpenShut
import Derived.Carry
import Derived.Deep.Cut
import Derived.Deep.CutRange
namespace Go.Proofs.YtldjieplbeflfaaGreat.storeOnce
open Go.ChangeShapes Go.WideShapes Go.ChangeAt Go.RowKit
set_option linter.unusedVariables false

theorem own : ownKnob Tryz.prog.godebug = none := by kernel_rfl

set_option maxHeartbeats 2000000 in
set_option maxRecDepth 100000 in
/-- Nothing is played. -/
theorem none_played (w : World) (d s b : Int) (A : Option Addr) (n C : Nat) (at0 : Int) (hok : ¬ (wrongS d s b = 0 ∧ n ≤ 80)) :
    Calls Tryz.prog 6 #[.agg #[.int .i64 d, .int .i64 s, .int .i64 b], .slice A n C, .int .i64 at0] w fun e w' => e = .returned (.bool true) ∧ Below w.heap.size w w' := by
  have b0 : Below w.heap.size w (w.alloc (.cells #[.int .i64 d, .int .i64 s, .int .i64 b] 23)) := (Below.refl _ _).alloc (Nat.le_refl _) _
  have VS := varN_new w #[.int .i64 d, .int .i64 s, .int .i64 b] 23
  have HA := alive_any (w.alloc (.cells #[.int .i64 d, .int .i64 s, .int .i64 b] 23))
  obtain ⟨x, hx, HP⟩ : ∃ x : Nat, x ≠ 0 ∧ Hid (∀ w', Calls Tryz.prog 10 #[.agg #[.int .i64 d, .int .i64 s, .int .i64 b], .slice A n C] w' fun e w2 => NoPlay e w' w2 x) := by
    by_cases h0 : wrongS d s b = 0
    · exact ⟨5, by decide, fun w' => play_many d s b A n C w' h0 (by
        have : ¬ n ≤ 80 := fun q => hok ⟨h0, q⟩
        omega)⟩
    · exact ⟨_, h0, fun w' => play_bad d s b A n C w' _ rfl h0⟩
  have hxn : ((x : Int) != 0) = true := by rw [bne_iff_ne]; omega
  clear hx hok
  go_enter Tryz.func6, Tryz.ntmps6
  go_wp2_with fail
  refine HA.mono ?_
  rintro e w1 ⟨rfl, b1⟩
  have VS1 := VS.below b1
  have s0 := VS1.cell (i := 0) rfl
  have s1 := VS1.cell (i := 1) rfl
  have s2 := VS1.cell (i := 2) rfl
  have b1 := bt b0 b1
  have HP1 := HP.out w1
  clear HA HP VS VS1 b0
  go_wp2_with fail
  refine HP1.mono ?_
  rintro e w2 ⟨rfl, b2⟩
  have b2 := bt b1 b2
  have bz : ∀ o, Below w.heap.size w (w2.alloc o) := fun o => b2.alloc b2.size _
  clear HP1 s0 s1 s2 b2 b1
  go_wp2_with fail
  go_ret
  exact ⟨rfl, bz _⟩
set_option maxHeartbeats 4000000 in
set_option maxRecDepth 100000 in
/-- No command that was done. -/
theorem early (w : World) (d s b : Int) (A : Option Addr) (C : Nat) (l : List Sto.Do) (hD : Dos w (.slice A l.length C) l) (c : Sto.Cfg) (ed : d = (c.d : Int)) (es : s = (c.s : Int)) (eb : b = (c.b : Int)) (h1 : 1 ≤ c.d) (h2 : c.d ≤ 8) (h3 : c.s ≤ 4) (h4 : 1 ≤ c.b) (h5 : c.b ≤ 10) (X : Sto.Six) (hX : Sto.SixOk X) (h80 : l.length ≤ 80) (at0 : Int)
    (hno : at0 < 0 ∨ (0 ≤ at0 ∧ (l.length : Int) ≤ at0) ∨ (0 ≤ at0 ∧ at0 < (l.length : Int) ∧ 80 ≤ l.length) ∨ (∃ (k : Nat) (d9 : Sto.Do), at0 = (k : Int) ∧ k < l.length ∧ l.length < 80 ∧ l[k]? = some d9 ∧ d9.kind ≠ 1) ∨ ∃ (k : Nat) (d9 : Sto.Do) (a9 : Sto.Ans), at0 = (k : Int) ∧ k < l.length ∧ l.length < 80 ∧ l[k]? = some d9 ∧ d9.kind = 1 ∧ (Sto.steps X c (Sto.start c) l).2[k]? = some a9 ∧ a9.err ≠ 0) :
    Calls Tryz.prog 6 #[.agg #[.int .i64 d, .int .i64 s, .int .i64 b], .slice A l.length C, .int .i64 at0] w fun e w' => e = .returned (.bool true) ∧ Below w.heap.size w w' := by
  have b0 : Below w.heap.size w (w.alloc (.cells #[.int .i64 d, .int .i64 s, .int .i64 b] 23)) := (Below.refl _ _).alloc (Nat.le_refl _) _
  have VS := varN_new w #[.int .i64 d, .int .i64 s, .int .i64 b] 23
  have HA := alive_any (w.alloc (.cells #[.int .i64 d, .int .i64 s, .int .i64 b] 23))
  have HD : Hid (∀ w', Below w.heap.size w w' → Dos w' (.slice A l.length C) l) := fun w' hb => hD.below hb
  have HDO : Hid (∀ w', Below w.heap.size w w' → ∀ i d, l[i]? = some d → ∃ b o, A = some ⟨b, o, none⟩ ∧ DoAt w' b (o + i * 9) d) := fun w' hb => by
    obtain ⟨_, _, hv0, _, _, hdo⟩ := HD.out w' hb
    cases hv0
    exact hdo
  have hsl : (Sto.steps X c (Sto.start c) l).2.length = l.length := Sto.steps_length X c l (Sto.start c)
  have HP : Hid (∀ w', Below w.heap.size w w' → Calls Tryz.prog 10 #[.agg #[.int .i64 d, .int .i64 s, .int .i64 b], .slice A l.length C] w' fun e w2 => PlayR e w' w2 c (Sto.steps X c (Sto.start c) l)) := fun w' hb => playR hX c d s b ed es eb h1 h2 h3 h4 h5 _ l w' (HD.out w' hb) h80
  clear h1 h2 h3 h4 h5 ed es eb hX
  obtain ⟨_, _, hv0, hc1, hc2, _⟩ := hD
  cases hv0
  have hc2 : C ≤ 9223372036854775807 := by unfold maxLen at hc2; exact hc2
  generalize Sto.steps X c (Sto.start c) l = r at HP hsl hno
  obtain ⟨n, hn⟩ : ∃ n, n = l.length := ⟨_, rfl⟩
  rw [← hn] at HP hsl hc1 h80 hno HD ⊢
  clear hn HD
  have HNO : Hid (at0 < 0 ∨ (0 ≤ at0 ∧ (n : Int) ≤ at0) ∨ (0 ≤ at0 ∧ at0 < (n : Int) ∧ 80 ≤ n) ∨ (∃ (k : Nat) (d9 : Sto.Do), at0 = (k : Int) ∧ k < n ∧ n < 80 ∧ l[k]? = some d9 ∧ d9.kind ≠ 1) ∨ ∃ (k : Nat) (d9 : Sto.Do) (a9 : Sto.Ans), at0 = (k : Int) ∧ k < n ∧ n < 80 ∧ l[k]? = some d9 ∧ d9.kind = 1 ∧ r.2[k]? = some a9 ∧ a9.err ≠ 0) := hno
  clear hno
  go_enter Tryz.func6, Tryz.ntmps6
  go_wp2_with fail
  refine HA.mono ?_
  rintro e w1 ⟨rfl, b1⟩
  have VS1 := VS.below b1
  have s0 := VS1.cell (i := 0) rfl
  have s1 := VS1.cell (i := 1) rfl
  have s2 := VS1.cell (i := 2) rfl
  have b1 := bt b0 b1
  have HP1 := HP.out w1 b1
  clear HA HP VS VS1 b0
  go_wp2_with fail
  refine HP1.mono ?_
  rintro e w2 ⟨vd, vt, vs, va, vr, rfl, hS, hR, b2, _⟩
  have b2 := bt b1 b2
  obtain ⟨Ad, nd, Cd, rfl⟩ : ∃ A n C, vd = .slice A n C := by
    obtain ⟨A, C, h, _⟩ := hS.dk
    exact ⟨A, _, C, h⟩
  obtain ⟨At, nt, Ct, rfl⟩ : ∃ A n C, vt = .slice A n C := by
    obtain ⟨A, C, h, _⟩ := hS.tl
    exact ⟨A, _, C, h⟩
  obtain ⟨As, ns, Cs, rfl⟩ : ∃ A n C, vs = .slice A n C := by
    obtain ⟨A, C, h, _⟩ := hS.sn
    exact ⟨A, _, C, h⟩
  obtain ⟨Aa, na, Ca, rfl⟩ : ∃ A n C, va = .slice A n C := by
    obtain ⟨A, C, h⟩ := hS.ac.shape
    exact ⟨A, _, C, h⟩
  obtain ⟨Ar, Cr, hvr, hr1, hr2, hra⟩ := hR
  rw [hsl] at hvr hr1
  subst hvr
  have hr2 : Cr ≤ 9223372036854775807 := by unfold maxLen at hr2; exact hr2
  have bz : ∀ o, Below w2.heap.size w2 (w2.alloc o) := fun o => (Below.refl _ _).alloc (Nat.le_refl _) _
  have b3 : ∀ o, Below w.heap.size w (w2.alloc o) := fun o => bt b2 (bz o)
  clear HP1 s0 s1 s2 hS b1
  rcases HNO.out with q | ⟨q0, q⟩ | ⟨q0, q1, q⟩ | ⟨k, d9, rfl, q1, q2, hd9, q⟩ | ⟨k, d9, a9, rfl, q1, q2, hd9, q3, ha9, q⟩
  · clear HNO hra HDO
    go_wp2_with fail
    go_ret
    exact ⟨rfl, b3 _⟩
  · have q0 : ¬ at0 < 0 := by omega
    clear HNO hra HDO
    go_wp2_with fail
    go_ret
    exact ⟨rfl, b3 _⟩
  · have q0 : ¬ at0 < 0 := by omega
    have q1 : ¬ (n : Int) ≤ at0 := by omega
    have q : (80 : Int) ≤ (n : Int) := by omega
    clear HNO hra HDO
    go_wp2_with fail
    go_ret
    exact ⟨rfl, b3 _⟩
  · have e0 : ¬ (k : Int) < 0 := by omega
    have e1 : ¬ (n : Int) ≤ (k : Int) := by omega
    have e2 : ¬ (80 : Int) ≤ (n : Int) := by omega
    have e3 : (k : Int) < (n : Int) := by omega
    have e4 : ¬ n ≤ k := by omega
    have kb : (d9.kind != 1) = true := by rw [bne_iff_ne]; exact q
    obtain ⟨bd, od, rfl, ved, td, _, hcs⟩ := HDO.out w2 b2 k d9 hd9
    have g0 : w2.cell? ⟨bd, od + k * 9, none⟩ = some (.int .i64 d9.kind) := hcs 0 _ rfl
    have g0 := ((bz (.cells #[.int .i64 (c.d : Int), .int .i64 (c.s : Int), .int .i64 (c.b : Int), .slice Ad nd Cd, .int .i64 (r.1.segs : Int), .slice At nt Ct, .slice As ns Cs, .int .i64 r.1.u, .slice Aa na Ca] 33)).cell (p := ⟨bd, od + k * 9, none⟩) (World.block_lt_of_cell? _ _ g0)).trans g0
    clear HNO hra HDO hcs hd9 q q1 q2 bz b2
    go_wp2_with fail
    go_ret
    exact ⟨rfl, b3 _⟩
  · have e0 : ¬ (k : Int) < 0 := by omega
    have e1 : ¬ (n : Int) ≤ (k : Int) := by omega
    have e2 : ¬ (80 : Int) ≤ (n : Int) := by omega
    have e3 : (k : Int) < (n : Int) := by omega
    have e4 : ¬ n ≤ k := by omega
    have kb : (d9.kind != 1) = false := by rw [q3]; rfl
    have eb : ((a9.err : Int) != 0) = true := by rw [bne_iff_ne]; omega
    obtain ⟨bd, od, rfl, ved, td, _, hcs⟩ := HDO.out w2 b2 k d9 hd9
    obtain ⟨br, or, rfl, ve9, va9, f0, _⟩ := hra k a9 ha9
    have g0 : w2.cell? ⟨bd, od + k * 9, none⟩ = some (.int .i64 d9.kind) := hcs 0 _ rfl
    have g0 := ((bz (.cells #[.int .i64 (c.d : Int), .int .i64 (c.s : Int), .int .i64 (c.b : Int), .slice Ad nd Cd, .int .i64 (r.1.segs : Int), .slice At nt Ct, .slice As ns Cs, .int .i64 r.1.u, .slice Aa na Ca] 33)).cell (p := ⟨bd, od + k * 9, none⟩) (World.block_lt_of_cell? _ _ g0)).trans g0
    have f0 := ((bz (.cells #[.int .i64 (c.d : Int), .int .i64 (c.s : Int), .int .i64 (c.b : Int), .slice Ad nd Cd, .int .i64 (r.1.segs : Int), .slice At nt Ct, .slice As ns Cs, .int .i64 r.1.u, .slice Aa na Ca] 33)).cell (p := ⟨br, or + k * 5, none⟩) (World.block_lt_of_cell? _ _ f0)).trans f0
    clear HNO hra HDO hcs hd9 q q1 q2 bz b2 ha9 q3
    go_wp2_with fail
    go_ret
    exact ⟨rfl, b3 _⟩
theorem walk (w : World) (d s b : Int) (v : Value) (l : List Sto.Do) (hD : Dos w v l) (_ : ∀ d, d ∈ l → RngD d) (at0 : Int) (_ : (Lit.int .i64 at0).wf = true) :
    Calls Tryz.prog 6 #[.agg #[.int .i64 d, .int .i64 s, .int .i64 b], v, .int .i64 at0] w fun e w' => e = .returned (.bool true) ∧ Below w.heap.size w w' := by
  have hD' := hD
  obtain ⟨A, C, rfl, _⟩ := hD'
  by_cases hok : wrongS d s b = 0 ∧ l.length ≤ 80
  · obtain ⟨h0, h80⟩ := hok
    obtain ⟨c, ed, es, eb, h1, h2, h3, h4, h5⟩ := setup_ok h0
    obtain ⟨X, hX⟩ := Sto.six
    have hsl : (Sto.steps X c (Sto.start c) l).2.length = l.length := Sto.steps_length X c l (Sto.start c)
    by_cases q0 : at0 < 0
    · exact early w d s b A C l hD c ed es eb h1 h2 h3 h4 h5 X hX h80 at0 (Or.inl q0)
    by_cases q1 : (l.length : Int) ≤ at0
    · exact early w d s b A C l hD c ed es eb h1 h2 h3 h4 h5 X hX h80 at0 (Or.inr (Or.inl ⟨by omega, q1⟩))
    by_cases q2 : 80 ≤ l.length
    · exact early w d s b A C l hD c ed es eb h1 h2 h3 h4 h5 X hX h80 at0 (Or.inr (Or.inr (Or.inl ⟨by omega, by omega, q2⟩)))
    obtain ⟨k, rfl⟩ : ∃ k : Nat, at0 = (k : Int) := ⟨at0.toNat, by omega⟩
    have hk : k < l.length := by omega
    obtain ⟨d9, hd9⟩ : ∃ d9, l[k]? = some d9 := ⟨l[k], List.getElem?_eq_getElem hk⟩
    obtain ⟨a9, ha9⟩ : ∃ a9, (Sto.steps X c (Sto.start c) l).2[k]? = some a9 := ⟨(Sto.steps X c (Sto.start c) l).2[k], List.getElem?_eq_getElem (by omega)⟩
    by_cases q3 : d9.kind = 1
    · by_cases q4 : a9.err = 0
      · exact once_main w d s b A C l hD c ed es eb h1 h2 h3 h4 h5 X hX (by omega) k hk d9 hd9 a9 ha9 q3 q4
      · exact early w d s b A C l hD c ed es eb h1 h2 h3 h4 h5 X hX h80 _ (Or.inr (Or.inr (Or.inr (Or.inr ⟨k, d9, a9, rfl, hk, by omega, hd9, q3, ha9, q4⟩))))
    · exact early w d s b A C l hD c ed es eb h1 h2 h3 h4 h5 X hX h80 _ (Or.inr (Or.inr (Or.inr (Or.inl ⟨k, d9, rfl, hk, by omega, hd9, q3⟩))))
  · exact none_played w d s b A l.length C at0 hok

set_option maxRecDepth 100000 in
theorem lifted (os : Os) (started : os.Started) (H : Type) (enc : TypeId × Value → H) :
    ReturnsInHanded {} Tryz.checked os 6 .any (Rows.storeOnceSpec.pre6 enc Tryz.prog Tryz.f6 Rows.storeOnceRow.domain false) (Rows.storeOnceSpec.post enc Tryz.prog Tryz.f6 false true false false) := by
  refine returnsInHanded_of_change (C := Tryz.checked) own started (by kernel_rfl) Tryz.func6
    (ChangeSpec.witness6 (enc := enc) (C := Tryz.checked) false ⟨#[], #[.agg #[.int .i64 0, .int .i64 0, .int .i64 0], .slice none 0 0, .int .i64 0], []⟩ 8 (by kernel_rfl) (by kernel_rfl) (by kernel_rfl) (by kernel_rfl)) ?_
  intro W base args ds gs before hval0 hW hcnd _
  have hval : ∀ (j : Nat) t v, Tryz.f6.params[j]? = some t → args[j]? = some v → Value.okWide Tryz.prog W .any base t v := hval0
  have hW' := hW
  obtain ⟨p, q, hA0, hV, rfl, hfz, hnd⟩ := hW
  have hA : DataW.TrodAll enc Tryz.prog W 0 (fun _ => true) true Tryz.f6.params.toList args.toList ds p := hA0
  rw [Tryz.params6] at hA hval
  obtain ⟨v0, vs0, d0, ds0, p0, q0, hargs, rfl, rfl, h0, r0⟩ := trodAll_cons hA
  obtain ⟨v1, vs1, d1, ds1, p1, q1, rfl, rfl, rfl, h1, r1⟩ := trodAll_cons r0
  obtain ⟨v2, vs2, d2, ds2, p2, q2, rfl, rfl, rfl, h2, r2⟩ := trodAll_cons r1
  obtain ⟨rfl, rfl, rfl⟩ := trodAll_nil r2
  obtain rfl : args = #[v0, v1, v2] := by cases args; simp_all
  obtain ⟨rfl, rfl⟩ := trodVars_none hV
  have k0 := h0
  have lt0 : ∀ x ∈ p0, x.block < W.heap.size := by obtain ⟨m, hm⟩ := k0; exact DataW.trod_lt m _ _ _ hm
  obtain ⟨s0, t0, z0, rfl⟩ := setup_of (hval 0 23 v0 rfl rfl) h0
  obtain ⟨a1, l1, c1, rfl⟩ := okWide_slice Tryz.underlying24 (hval 1 24 v1 rfl rfl)
  have k1 := h1
  have lt1 : ∀ x ∈ p1, x.block < W.heap.size := by obtain ⟨m, hm⟩ := k1; exact DataW.trod_lt m _ _ _ hm
  obtain ⟨f1, g1, z1⟩ := dos_of h1
  obtain ⟨a2, rfl, rfl, rfl, g2⟩ := open_int Tryz.underlying3 (hval 2 3 v2 rfl rfl) h2
  clear hA0 hval0
  refine (walk W s0 t0 z0 _ _ g1 z1 a2 g2).mono fun e W' ⟨he, bel⟩ => ?_
  subst he
  exact ⟨_, rfl, _, _, _, [], _, [], hW', trodAll_mk1 (shut_bool Tryz.underlying4 _), (trodAll_cons_mk (Below.trod Tryz.laidOut (by kernel_rfl) (of_decide_eq_true (by kernel_rfl)) k0 bel lt0) (trodAll_cons_mk (Below.trod Tryz.laidOut (by kernel_rfl) (of_decide_eq_true (by kernel_rfl)) k1 bel lt1) (trodAll_cons_mk (shut_int Tryz.underlying3 g2) trodAll_mk0))), rfl, bel.frame _, fun h => by cases h⟩

theorem over : Rows.storeOnceRow.holds Tryz.pinned (OpenSpec.ofChange Rows.storeOnceSpec) :=
  OpenClaim.holds_of_wide 6 Tryz.f6 rfl rfl rfl rfl rfl rfl rfl ⟨rfl, rfl, rfl, rfl, rfl⟩ rfl rfl rfl rfl rfl (by kernel_rfl) Tryz.func6 (by kernel_rfl)
    (of_decide_eq_true (by kernel_rfl)) (by unfold Func.isWrapper; first | (rw [if_pos (by decide +kernel)]; kernel_rfl) | (rw [if_neg (by decide +kernel)]; exact ⟨rfl, rfl⟩))
    (fun os started H enc _ => lifted os started H enc)
end Go.Proofs.YtldjieplbeflfaaGreat.storeOnce

namespace Go.Proofs.YtldjieplbeflfaaGreat
theorem storeOnce_holds : Rows.StoreOnceSaid := storeOnce.over
#print axioms storeOnce_holds
end Go.Proofs.YtldjieplbeflfaaGreat
