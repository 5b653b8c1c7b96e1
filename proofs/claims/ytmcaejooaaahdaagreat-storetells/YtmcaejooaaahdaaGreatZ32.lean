/-
  Texts of the proof, joined: VApply.
-/
import Derived.Test.YtmcaejooaaahdaaGreatZ31
import Derived.Test.YtmcaejooaaahdaaGreatZ23
import Derived.Deep.RegionHeld3
import Derived.Deep.Cut
namespace Go.Proofs.YtmcaejooaaahdaaGreat
open Go.RowKit

set_option maxHeartbeats 400000 in
set_option maxRecDepth 100000 in
theorem changeBy_any (s : ByteArray) (k m : Int) (w : World) : Calls Tryz.prog 106 #[.agg #[.string s, .int .i64 k, .int .i64 m]] w fun e w' => e = .returned (.func (.func 133) #[] #[.pointer (some ⟨w.heap.size, 0, none⟩)]) ∧ w' = w.alloc (.cells #[.string s, .int .i64 k, .int .i64 m] 83) := by
  go_enter Tryz.func106, Tryz.ntmps106
  go_wp2_with fail
  go_ret
  exact ⟨rfl, rfl⟩

theorem changeBy_var (s : ByteArray) (k m : Int) (w : World) : Calls Tryz.prog 106 #[.agg #[.string s, .int .i64 k, .int .i64 m]] w fun e w' => ∃ B, e = .returned (.func (.func 133) #[] #[.pointer (some ⟨B, 0, none⟩)]) ∧ VarE w' B (.string s) (.int .i64 k) (.int .i64 m) ∧ Below w.heap.size w w' := by
  refine (changeBy_any s k m w).mono ?_
  rintro e w' ⟨rfl, rfl⟩
  exact ⟨_, rfl, varE_new w _ _ _, (Below.refl _ _).alloc (Nat.le_refl _) _⟩

/-- What is told of a view and an event. -/
def ApO (e : Ending) (w' : World) (N : Nat) (r : Nat × Int × List Vw.Acc) : Prop := ∃ v, e = .returned (.tuple #[.agg #[.int .i64 r.2.1, v], .int .i64 (r.1 : Nat)]) ∧ Accs w' v r.2.2 ∧ Past N v
theorem apO_bad (w' : World) (N x : Nat) : ApO (.returned (.tuple #[.agg #[.int .i64 0, .slice none 0 0], .int .i64 (x : Nat)])) w' N (x, 0, []) := ⟨_, rfl, Accs.nil w', past_nil N⟩

/-- A view's and an event's variables, and those of a view that is told. -/
structure KV (W0 w : World) (N : Nat) (u : Int) (vs : Value) (s : ByteArray) (k m : Int) : Prop where
  v0 : w.cell? ⟨N, 0, none⟩ = some (.int .i64 u)
  v1 : w.cell? ⟨N, 1, none⟩ = some vs
  e0 : w.cell? ⟨N + 1, 0, none⟩ = some (.string s)
  e1 : w.cell? ⟨N + 1, 1, none⟩ = some (.int .i64 k)
  e2 : w.cell? ⟨N + 1, 2, none⟩ = some (.int .i64 m)
  r0 : w.cell? ⟨N + 1 + 1, 0, none⟩ = some (.int .i64 0)
  r1 : w.cell? ⟨N + 1 + 1, 1, none⟩ = some (.slice none 0 0)
  fr : ∀ i, w.frozen? ⟨N + 1 + 1, i, none⟩ = false
  bel : Below W0.heap.size W0 w
theorem KV.below {W0 w w' : World} {N : Nat} {u : Int} {vs : Value} {s : ByteArray} {k m : Int} (h : KV W0 w N u vs s k m) (hb : Below w.heap.size w w') : KV W0 w' N u vs s k m := by
  have h0 : N < w.heap.size := World.block_lt_of_cell? _ _ h.v0
  have h1 : N + 1 < w.heap.size := World.block_lt_of_cell? _ _ h.e0
  have h2 : N + 1 + 1 < w.heap.size := World.block_lt_of_cell? _ _ h.r0
  exact ⟨(hb.cell (p := ⟨N, 0, none⟩) h0).trans h.v0, (hb.cell (p := ⟨N, 1, none⟩) h0).trans h.v1, (hb.cell (p := ⟨N + 1, 0, none⟩) h1).trans h.e0, (hb.cell (p := ⟨N + 1, 1, none⟩) h1).trans h.e1, (hb.cell (p := ⟨N + 1, 2, none⟩) h1).trans h.e2, (hb.cell (p := ⟨N + 1 + 1, 0, none⟩) h2).trans h.r0, (hb.cell (p := ⟨N + 1 + 1, 1, none⟩) h2).trans h.r1, fun i => (hb.frozen (p := ⟨N + 1 + 1, i, none⟩) h2).trans (h.fr i), bt h.bel hb⟩
theorem kv_new (w : World) (u : Int) (vs : Value) (s : ByteArray) (k m : Int) : KV w (((w.alloc (.cells #[.int .i64 u, vs] 30)).alloc (.cells #[.string s, .int .i64 k, .int .i64 m] 83)).alloc (.cells #[.int .i64 0, .slice none 0 0] 30)) w.heap.size u vs s k m := by
  have h1 : Below w.heap.size w (w.alloc (.cells #[.int .i64 u, vs] 30)) := (Below.refl _ _).alloc (Nat.le_refl _) _
  have h2 := h1.alloc h1.size (.cells #[.string s, .int .i64 k, .int .i64 m] 83)
  have h3 := h2.alloc h2.size (.cells #[.int .i64 0, .slice none 0 0] 30)
  have hb2 : Below (w.alloc (.cells #[.int .i64 u, vs] 30)).heap.size (w.alloc (.cells #[.int .i64 u, vs] 30)) ((w.alloc (.cells #[.int .i64 u, vs] 30)).alloc (.cells #[.string s, .int .i64 k, .int .i64 m] 83)) := (Below.refl _ _).alloc (Nat.le_refl _) _
  have hb3 : Below ((w.alloc (.cells #[.int .i64 u, vs] 30)).alloc (.cells #[.string s, .int .i64 k, .int .i64 m] 83)).heap.size ((w.alloc (.cells #[.int .i64 u, vs] 30)).alloc (.cells #[.string s, .int .i64 k, .int .i64 m] 83)) (((w.alloc (.cells #[.int .i64 u, vs] 30)).alloc (.cells #[.string s, .int .i64 k, .int .i64 m] 83)).alloc (.cells #[.int .i64 0, .slice none 0 0] 30)) := (Below.refl _ _).alloc (Nat.le_refl _) _
  have A := ((varF_new w 30 (.int .i64 u) vs).below hb2).below hb3
  have B := (varE_new (w.alloc (.cells #[.int .i64 u, vs] 30)) (.string s) (.int .i64 k) (.int .i64 m)).below hb3
  have C := varF_new ((w.alloc (.cells #[.int .i64 u, vs] 30)).alloc (.cells #[.string s, .int .i64 k, .int .i64 m] 83)) 30 (.int .i64 0) (.slice none 0 0)
  have z1 : (w.alloc (.cells #[.int .i64 u, vs] 30)).heap.size = w.heap.size + 1 := by simp
  have z2 : ((w.alloc (.cells #[.int .i64 u, vs] 30)).alloc (.cells #[.string s, .int .i64 k, .int .i64 m] 83)).heap.size = w.heap.size + 1 + 1 := by simp
  rw [z1] at B
  rw [z2] at C
  exact ⟨A.c0, A.c1, B.c0, B.c1, B.c2, C.c0, C.c1, C.fr, h3⟩

theorem keepV {N : Nat} {u : Int} {vs : Value} {s : ByteArray} {k m : Int} {w0 wX w3 : World} (b3 : Below wX.heap.size wX w3) (h : wX.cell? ⟨N, 0, none⟩ = some (.int .i64 u) ∧ wX.cell? ⟨N, 1, none⟩ = some vs ∧ wX.cell? ⟨N + 1, 0, none⟩ = some (.string s) ∧ wX.cell? ⟨N + 1, 1, none⟩ = some (.int .i64 k) ∧ wX.cell? ⟨N + 1, 2, none⟩ = some (.int .i64 m) ∧ Below w0.heap.size w0 wX) :
    w3.cell? ⟨N, 0, none⟩ = some (.int .i64 u) ∧ w3.cell? ⟨N, 1, none⟩ = some vs ∧ w3.cell? ⟨N + 1, 0, none⟩ = some (.string s) ∧ w3.cell? ⟨N + 1, 1, none⟩ = some (.int .i64 k) ∧ w3.cell? ⟨N + 1, 2, none⟩ = some (.int .i64 m) ∧ Below w0.heap.size w0 w3 := by
  obtain ⟨h0, h1, h2, h3, h4, hb⟩ := h
  have p0 : N < wX.heap.size := World.block_lt_of_cell? _ _ h0
  have p1 : N + 1 < wX.heap.size := World.block_lt_of_cell? _ _ h2
  exact ⟨(b3.cell (p := ⟨N, 0, none⟩) p0).trans h0, (b3.cell (p := ⟨N, 1, none⟩) p0).trans h1, (b3.cell (p := ⟨N + 1, 0, none⟩) p1).trans h2, (b3.cell (p := ⟨N + 1, 1, none⟩) p1).trans h3, (b3.cell (p := ⟨N + 1, 2, none⟩) p1).trans h4, bt hb b3⟩

theorem keepVs {N : Nat} {u : Int} {vs a b : Value} {s : ByteArray} {k m : Int} {w0 wX : World} (h : wX.cell? ⟨N, 0, none⟩ = some (.int .i64 u) ∧ wX.cell? ⟨N, 1, none⟩ = some vs ∧ wX.cell? ⟨N + 1, 0, none⟩ = some (.string s) ∧ wX.cell? ⟨N + 1, 1, none⟩ = some (.int .i64 k) ∧ wX.cell? ⟨N + 1, 2, none⟩ = some (.int .i64 m) ∧ Below N w0 wX) :
    ((wX.setCell ⟨N + 1 + 1, 0, none⟩ a).setCell ⟨N + 1 + 1, 1, none⟩ b).cell? ⟨N, 0, none⟩ = some (.int .i64 u) ∧ ((wX.setCell ⟨N + 1 + 1, 0, none⟩ a).setCell ⟨N + 1 + 1, 1, none⟩ b).cell? ⟨N, 1, none⟩ = some vs ∧ ((wX.setCell ⟨N + 1 + 1, 0, none⟩ a).setCell ⟨N + 1 + 1, 1, none⟩ b).cell? ⟨N + 1, 0, none⟩ = some (.string s) ∧ ((wX.setCell ⟨N + 1 + 1, 0, none⟩ a).setCell ⟨N + 1 + 1, 1, none⟩ b).cell? ⟨N + 1, 1, none⟩ = some (.int .i64 k) ∧ ((wX.setCell ⟨N + 1 + 1, 0, none⟩ a).setCell ⟨N + 1 + 1, 1, none⟩ b).cell? ⟨N + 1, 2, none⟩ = some (.int .i64 m) ∧ Below N w0 ((wX.setCell ⟨N + 1 + 1, 0, none⟩ a).setCell ⟨N + 1 + 1, 1, none⟩ b) := by
  obtain ⟨h0, h1, h2, h3, h4, hb⟩ := h
  exact ⟨by go_simp, by go_simp, by go_simp, by go_simp, by go_simp, (hb.setCell (by show N ≤ N + 1 + 1; omega) _).setCell (by show N ≤ N + 1 + 1; omega) _⟩

set_option maxHeartbeats 2000000 in
set_option maxRecDepth 100000 in
theorem apply_any (u : Int) (vs : Value) (l : List Vw.Acc) (s : ByteArray) (k m : Int) (w : World) (h : Accs w vs l) (hs : s.size ≤ 9223372036854775807) :
    Calls Tryz.prog 76 #[.agg #[.int .i64 u, vs], .agg #[.string s, .int .i64 k, .int .i64 m]] w fun e w' => ApO e w' w.heap.size (Vw.apply u l ⟨nb s, k, m⟩) ∧ Below w.heap.size w w' := by
  obtain ⟨A, C, rfl⟩ := h.shape
  have K0 := kv_new w u (.slice A l.length C) s k m
  have HA : Hid (∀ w', Below w.heap.size w w' → Accs w' (.slice A l.length C) l) := fun w' hb => h.below hb
  clear h
  have HW := fun w' (hb : Below w.heap.size w w') => viewWrong_any u (.slice A l.length C) l w' (HA.out w' hb)
  have HE := fun w' => wrongE_any s k m w' hs
  obtain ⟨x, hx⟩ : ∃ x, (Vw.wrongV u l).1 = x := ⟨_, rfl⟩
  obtain ⟨y, hy⟩ : ∃ y, (Vw.wrongV u l).2 = y := ⟨_, rfl⟩
  have HX : Hid ((Vw.wrongV u l).1 = x) := hx
  unfold faultV at HW
  rw [hx, hy] at HW
  obtain ⟨z, hz⟩ : ∃ z, Evt.wrongE ⟨nb s, k, m⟩ = z := ⟨_, rfl⟩
  have HZ : Hid (Evt.wrongE ⟨nb s, k, m⟩ = z) := hz
  rw [hz] at HE
  clear hx hy hz
  go_enter Tryz.func76, Tryz.ntmps76
  go_wp2_with fail
  generalize ((w.alloc (.cells #[.int .i64 u, .slice A l.length C] 30)).alloc (.cells #[.string s, .int .i64 k, .int .i64 m] 83)).alloc (.cells #[.int .i64 0, .slice none 0 0] 30) = W0 at K0 ⊢
  refine (HW _ K0.bel).mono ?_
  rintro e w1 ⟨rfl, b1⟩
  have K1 := K0.below b1
  have bF : Below w1.heap.size w1 (w1.alloc (.cells #[.int .i64 (x : Nat), .int .i64 (y : Nat)] 78)) := (Below.refl _ _).alloc (Nat.le_refl _) _
  have VF := varF_new w1 78 (.int .i64 (x : Nat)) (.int .i64 (y : Nat))
  have K2 := K1.below bF
  have hn1 : w.heap.size + 1 + 1 < w1.heap.size := World.block_lt_of_cell? _ _ K1.r0
  clear K0 K1 HW b1
  by_cases hx0 : x = 0
  case neg =>
    have HF : Hid (Vw.apply u l ⟨nb s, k, m⟩ = (x, 0, [])) := by
      show _ = _
      rw [Vw.apply_view (by rw [HX.out]; exact hx0), HX.out]
    have hxe : ((x : Int) != 0) = true := by rw [bne_iff_ne]; omega
    clear HE hx0
    go_wp2_with fail
    generalize w1.alloc (.cells #[.int .i64 (x : Nat), .int .i64 (y : Nat)] 78) = w2 at K2 VF ⊢
    have c0 := VF.c0
    have r0 := K2.r0
    have r1 := K2.r1
    have f0 := K2.fr 0
    have f1 := K2.fr 1
    have bb := K2.bel
    have hne : w1.heap.size ≠ w.heap.size + 1 + 1 := by omega
    have hne2 : w.heap.size + 1 + 1 ≠ w1.heap.size := by omega
    clear K2 VF bF hn1
    go_region
    go_wp2_with fail
    refine bodyPost_ret (v := .tuple #[.agg #[.int .i64 0, .slice none 0 0], .int .i64 (x : Nat)]) (by simp [results, Tryz.results76, go_sem, r0, r1]) rfl ⟨by rw [HF.out]; exact apO_bad _ _ x, ?_⟩
    exact (bb.drew.setCell (by show w.heap.size ≤ w.heap.size + 1 + 1; omega) _).setCell (by show w.heap.size ≤ w.heap.size + 1 + 1; omega) _
  have HX : Hid ((Vw.wrongV u l).1 = 0) := HX.out.trans hx0
  subst hx0
  have HK2 : Hid (KV w (w1.alloc (.cells #[.int .i64 0, .int .i64 (y : Nat)] 78)) w.heap.size u (.slice A l.length C) s k m) := K2
  clear K2
  obtain ⟨v0, v1, e0, e1, e2, _, _, _, _⟩ := HK2.out
  clear VF hn1
  by_cases hz0 : z = 0
  case neg =>
    have HF : Hid (Vw.apply u l ⟨nb s, k, m⟩ = (z, 0, [])) := by
      show _ = _
      rw [Vw.apply_event HX.out (by rw [HZ.out]; exact hz0), HZ.out]
    have hze : ((z : Int) != 0) = true := by rw [bne_iff_ne]; omega
    clear hz0
    go_wp2_with fail
    refine (HE _).mono ?_
    rintro e w3 ⟨rfl, b3⟩
    have K3 := HK2.out.below b3
    clear HE b3 e0 e1 e2 v0 v1
    have r0 := K3.r0
    have r1 := K3.r1
    have f0 := K3.fr 0
    have f1 := K3.fr 1
    have bb := K3.bel
    clear K3
    go_wp2_with fail
    refine bodyPost_ret (v := .tuple #[.agg #[.int .i64 0, .slice none 0 0], .int .i64 (z : Nat)]) (by simp [results, Tryz.results76, go_sem, r0, r1]) rfl ⟨by rw [HF.out]; exact apO_bad _ _ z, ?_⟩
    exact (bb.setCell (by show w.heap.size ≤ w.heap.size + 1 + 1; omega) _).setCell (by show w.heap.size ≤ w.heap.size + 1 + 1; omega) _
  have HZ : Hid (Evt.wrongE ⟨nb s, k, m⟩ = 0) := HZ.out.trans hz0
  subst hz0
  by_cases hu : u = 150
  · have HF : Hid (Vw.apply u l ⟨nb s, k, m⟩ = (5, 0, [])) := Vw.apply_many HX.out HZ.out hu
    have hue : (u == 150) = true := by rw [beq_iff_eq]; exact hu
    clear hu
    go_wp2_with fail
    refine (HE _).mono ?_
    rintro e w3 ⟨rfl, b3⟩
    have K3 := HK2.out.below b3
    clear HE b3 e0 e1 e2 v0 v1
    have v0 := K3.v0
    have r0 := K3.r0
    have r1 := K3.r1
    have f0 := K3.fr 0
    have f1 := K3.fr 1
    have bb := K3.bel
    clear K3
    go_wp2_with fail
    refine bodyPost_ret (v := .tuple #[.agg #[.int .i64 0, .slice none 0 0], .int .i64 5]) (by simp [results, Tryz.results76, go_sem, r0, r1]) rfl ⟨by rw [HF.out]; exact apO_bad _ _ 5, ?_⟩
    exact (bb.setCell (by show w.heap.size ≤ w.heap.size + 1 + 1; omega) _).setCell (by show w.heap.size ≤ w.heap.size + 1 + 1; omega) _
  have hue : (u == 150) = false := by rw [beq_eq_false_iff_ne]; exact hu
  have HU : Hid (u ≠ 150) := hu
  clear hu
  go_wp2_with fail
  refine (HE _).mono ?_
  rintro e w3 ⟨rfl, b3⟩
  have K3 := HK2.out.below b3
  clear HE b3 e0 e1 e2 v0 v1
  have v0 := K3.v0
  go_wp2_with fail
  have hgn : (Vw.get l (nb s)).name = nb s := Vw.get_name l (nb s)
  have HG := fun w' (hS : w'.cell? ⟨w.heap.size, 0, none⟩ = some (.int .i64 u) ∧ w'.cell? ⟨w.heap.size, 1, none⟩ = some (.slice A l.length C) ∧ w'.cell? ⟨w.heap.size + 1, 0, none⟩ = some (.string s) ∧ w'.cell? ⟨w.heap.size + 1, 1, none⟩ = some (.int .i64 k) ∧ w'.cell? ⟨w.heap.size + 1, 2, none⟩ = some (.int .i64 m) ∧ Below w3.heap.size w3 w') => get_any u s (.slice A l.length C) l w' (HA.out w' (bt K3.bel hS.2.2.2.2.2)) hs
  obtain ⟨y, hy⟩ : ∃ y, Vw.may (Vw.get l (nb s)) ⟨nb s, k, m⟩ = y := ⟨_, rfl⟩
  have HY : Hid (Vw.may (Vw.get l (nb s)) ⟨nb s, k, m⟩ = y) := hy
  generalize Vw.get l (nb s) = a at HG hy hgn
  have HM : ∀ sg : ByteArray, nb sg = a.name → ∀ w', Calls Tryz.prog 104 #[.agg #[.string sg, .int .i64 a.sum, .int .i64 a.cnt, .bool a.opn], .agg #[.string s, .int .i64 k, .int .i64 m]] w' fun e w'' => e = .returned (.bool y) ∧ Below w'.heap.size w' w'' := fun sg hg w' => by
    have h := may_any sg s a.sum a.cnt k m a.opn w'
    rw [hg] at h
    rw [← hy]
    exact h
  clear hgn hy
  have TD : w3.drew.cell? ⟨w.heap.size, 0, none⟩ = some (.int .i64 u) ∧ w3.drew.cell? ⟨w.heap.size, 1, none⟩ = some (.slice A l.length C) ∧ w3.drew.cell? ⟨w.heap.size + 1, 0, none⟩ = some (.string s) ∧ w3.drew.cell? ⟨w.heap.size + 1, 1, none⟩ = some (.int .i64 k) ∧ w3.drew.cell? ⟨w.heap.size + 1, 2, none⟩ = some (.int .i64 m) ∧ Below w3.heap.size w3 w3.drew := ⟨K3.v0, K3.v1, K3.e0, K3.e1, K3.e2, (Below.refl _ _).drew⟩
  clear v0
  go_region_held3 (fun w' => w'.cell? ⟨w.heap.size, 0, none⟩ = some (.int .i64 u) ∧ w'.cell? ⟨w.heap.size, 1, none⟩ = some (.slice A l.length C) ∧ w'.cell? ⟨w.heap.size + 1, 0, none⟩ = some (.string s) ∧ w'.cell? ⟨w.heap.size + 1, 1, none⟩ = some (.int .i64 k) ∧ w'.cell? ⟨w.heap.size + 1, 2, none⟩ = some (.int .i64 m) ∧ Below w3.heap.size w3 w')
    (first | with_reducible exact TD | with_reducible assumption | with_reducible exact keepV (by assumption) (by assumption))
    (first | (go_at_call 43; refine (HG _ (by assumption)).mono ?_; rintro e5 w5 ⟨⟨v5, rfl, sg, hg1, hg2, rfl⟩, b5⟩; have S5 := keepV b5 (by assumption)) | (go_at_call 104; refine (HM sg hg2 _).mono ?_; rintro e6 w6 ⟨rfl, b6⟩; have S6 := keepV b6 (by assumption)))
  have K6 := K3.below S6.2.2.2.2.2
  clear TD HG HM K3 S5 S6 b5 b6 hg1 hg2
  cases y with
  | false =>
    have HF : Hid (Vw.apply u l ⟨nb s, k, m⟩ = (8, 0, [])) := Vw.apply_fit HX.out HZ.out HU.out HY.out
    have r0 := K6.r0
    have r1 := K6.r1
    have f0 := K6.fr 0
    have f1 := K6.fr 1
    have bb := K6.bel
    clear K6
    go_wp2_with fail
    refine bodyPost_ret (v := .tuple #[.agg #[.int .i64 0, .slice none 0 0], .int .i64 8]) (by simp [results, Tryz.results76, go_sem, r0, r1]) rfl ⟨by rw [HF.out]; exact apO_bad _ _ 8, ?_⟩
    exact (bb.setCell (by show w.heap.size ≤ w.heap.size + 1 + 1; omega) _).setCell (by show w.heap.size ≤ w.heap.size + 1 + 1; omega) _
  | true =>
    have HF : Hid (Vw.apply u l ⟨nb s, k, m⟩ = (0, u + 1, Vw.put l ⟨nb s, k, m⟩)) := Vw.apply_ok HX.out HZ.out HU.out HY.out
    have hr := Vw.right_of HX.out
    obtain ⟨_, k1, k4, m0, m1⟩ := Evt.wrongE_inv HZ.out
    have k1 : 1 ≤ k := k1
    have k4 : k ≤ 4 := k4
    have m0 : 0 ≤ m := m0
    have m1 : m ≤ 1000000 := m1
    have HCB := changeBy_var s k m
    have HCH := fun B w' (hE : VarE w' B (.string s) (.int .i64 k) (.int .i64 m)) (hS : w'.cell? ⟨w.heap.size, 0, none⟩ = some (.int .i64 u) ∧ w'.cell? ⟨w.heap.size, 1, none⟩ = some (.slice A l.length C) ∧ w'.cell? ⟨w.heap.size + 1, 0, none⟩ = some (.string s) ∧ w'.cell? ⟨w.heap.size + 1, 1, none⟩ = some (.int .i64 k) ∧ w'.cell? ⟨w.heap.size + 1, 2, none⟩ = some (.int .i64 m) ∧ Below w.heap.size w w') => changed_any u s s k m B (.slice A l.length C) l w' (HA.out w' hS.2.2.2.2.2) hr hs hE.c0 hE.c1 hE.c2 k1 k4 m0 m1
    have hu0 := hr.lo
    have hu1 := hr.hi
    have TD : w6.drew.cell? ⟨w.heap.size, 0, none⟩ = some (.int .i64 u) ∧ w6.drew.cell? ⟨w.heap.size, 1, none⟩ = some (.slice A l.length C) ∧ w6.drew.cell? ⟨w.heap.size + 1, 0, none⟩ = some (.string s) ∧ w6.drew.cell? ⟨w.heap.size + 1, 1, none⟩ = some (.int .i64 k) ∧ w6.drew.cell? ⟨w.heap.size + 1, 2, none⟩ = some (.int .i64 m) ∧ Below w.heap.size w w6.drew := ⟨K6.v0, K6.v1, K6.e0, K6.e1, K6.e2, K6.bel.drew⟩
    have KD : KV w w6.drew w.heap.size u (.slice A l.length C) s k m := K6.below (Below.refl _ _).drew
    have hwu : wrap64 (u + 1) = u + 1 := by
      unfold wrap64
      omega
    have hwu2 : IntKind.i64.wrap (u + 1) = u + 1 := by
      rw [IntKind.wrap_i64]
      omega
    clear hr k1 k4 m0 m1 HX HZ HU HY
    go_wp2_with fail
    go_region_held3 (fun w' => w'.cell? ⟨w.heap.size, 0, none⟩ = some (.int .i64 u) ∧ w'.cell? ⟨w.heap.size, 1, none⟩ = some (.slice A l.length C) ∧ w'.cell? ⟨w.heap.size + 1, 0, none⟩ = some (.string s) ∧ w'.cell? ⟨w.heap.size + 1, 1, none⟩ = some (.int .i64 k) ∧ w'.cell? ⟨w.heap.size + 1, 2, none⟩ = some (.int .i64 m) ∧ Below w.heap.size w w')
      (first | with_reducible exact TD | with_reducible assumption | with_reducible exact keepV (by assumption) (by assumption) | with_reducible exact keepVs (by assumption))
      (first | (go_at_call 106; refine (HCB _).mono ?_; rintro e7 w7 ⟨B7, rfl, E7, b7⟩; have S7 := keepV b7 (by assumption); have K7 := KD.below b7) | (go_at_call 105; refine (HCH B7 _ E7 (by assumption)).mono ?_; rintro e8 w8 ⟨⟨v8, es8, rfl, hes8, hB8⟩, b8⟩; have A8 := hB8.accs; rw [hes8] at A8; obtain ⟨P8, C8, rfl⟩ := A8.shape; clear A8; have S8 := keepV b8 (by assumption); have K8 := K7.below b8; have r0 := K8.r0; have r1 := K8.r1; have f0 := K8.fr 0; have f1 := K8.fr 1))
    have bb := K8.bel
    have n7 : w.heap.size + 1 + 1 < w7.heap.size := World.block_lt_of_cell? _ _ K7.r0
    have HP8 : Hid (Past w.heap.size (.slice P8 (Vw.put l ⟨nb s, k, m⟩).length C8)) := hB8.past.mono (by omega)
    have HA8 : Hid (∀ a b, Accs ((w8.setCell ⟨w.heap.size + 1 + 1, 0, none⟩ a).setCell ⟨w.heap.size + 1 + 1, 1, none⟩ b) (.slice P8 (Vw.put l ⟨nb s, k, m⟩).length C8) (Vw.put l ⟨nb s, k, m⟩)) := fun a b => by
      have ho : Off (fun j => j = w.heap.size + 1 + 1) w8 ((w8.setCell ⟨w.heap.size + 1 + 1, 0, none⟩ a).setCell ⟨w.heap.size + 1 + 1, 1, none⟩ b) := ((Off.refl (fun j => j = w.heap.size + 1 + 1) w8).set (p := ⟨w.heap.size + 1 + 1, 0, none⟩) rfl a).set (p := ⟨w.heap.size + 1 + 1, 1, none⟩) rfl b
      have h := ABuf.accs ⟨owns_off hB8.1 ho (fun g hg e => by
        have := (hB8.1.lt g hg).1
        omega), hB8.2⟩
      rw [hes8] at h
      exact h
    clear TD KD K7 K8 S7 S8 b7 b8 E7 HCB HCH K6 hB8 hes8
    go_wp2_with fail
    refine bodyPost_ret (v := .tuple #[.agg #[.int .i64 (u + 1), .slice P8 (Vw.put l ⟨nb s, k, m⟩).length C8], .int .i64 0]) (by simp [results, Tryz.results76, go_sem, r0, r1]) rfl ⟨by rw [HF.out]; exact ⟨_, rfl, HA8.out _ _, HP8.out⟩, ?_⟩
    exact (bb.setCell (by show w.heap.size ≤ w.heap.size + 1 + 1; omega) _).setCell (by show w.heap.size ≤ w.heap.size + 1 + 1; omega) _

end Go.Proofs.YtmcaejooaaahdaaGreat
