/-
  Texts of the proof, joined: VRefA.
-/
import Derived.Test.YtmcaejooaaahdaaGreatZ66
import Derived.Test.YtmcaejooaaahdaaGreatZ32
import Derived.Test.YtmcaejooaaahdaaGreatZ13
import Derived.Maps.Own
import Derived.Maps.Views
import Derived.Deep.Cut
import Derived.Deep.CutRange
namespace Go.Proofs.YtmcaejooaaahdaaGreat
open Go.RowKit Go.Maps

theorem KV.off {S : Nat → Prop} {W0 w w' : World} {N : Nat} {u : Int} {vs : Value} {s : ByteArray} {k m : Int} (h : KV W0 w N u vs s k m) (ho : Off S w w') (hS : ∀ j, S j → N + 1 + 1 < j) (hW : W0.heap.size ≤ N := by exact Nat.le_refl _) : KV W0 w' N u vs s k m := by
  have h0 : N < w.heap.size := World.block_lt_of_cell? _ _ h.v0
  have h1 : N + 1 < w.heap.size := World.block_lt_of_cell? _ _ h.e0
  have h2 : N + 1 + 1 < w.heap.size := World.block_lt_of_cell? _ _ h.r0
  have hb : ∀ j, j ≤ N + 1 + 1 → w'.heap[j]? = w.heap[j]? := fun j hj => ho.block j (by omega) (fun q => by have := hS j q; omega)
  refine ⟨(World.cell?_of_block (w := w) (a := ⟨N, 0, none⟩) (hb N (by omega))).trans h.v0, (World.cell?_of_block (w := w) (a := ⟨N, 1, none⟩) (hb N (by omega))).trans h.v1, (World.cell?_of_block (w := w) (a := ⟨N + 1, 0, none⟩) (hb (N + 1) (by omega))).trans h.e0, (World.cell?_of_block (w := w) (a := ⟨N + 1, 1, none⟩) (hb (N + 1) (by omega))).trans h.e1, (World.cell?_of_block (w := w) (a := ⟨N + 1, 2, none⟩) (hb (N + 1) (by omega))).trans h.e2, (World.cell?_of_block (w := w) (a := ⟨N + 1 + 1, 0, none⟩) (hb (N + 1 + 1) (by omega))).trans h.r0, (World.cell?_of_block (w := w) (a := ⟨N + 1 + 1, 1, none⟩) (hb (N + 1 + 1) (by omega))).trans h.r1, fun i => (World.frozen?_of_block (w := w) (a := ⟨N + 1 + 1, i, none⟩) (hb (N + 1 + 1) (by omega))).trans (h.fr i), ?_⟩
  exact h.bel.trans (ho.below (by omega) (fun j hj => by have := hS j hj; omega))
/-! ### What an event's number counts for -/
theorem Tryz.zeroInt (w : World) : (zeroValue 3).run Tryz.prog w = .ok (.int .i64 0) w := by kernel_rfl
theorem Tryz.mapIntInt : Tryz.prog.underlying 150 = some (.map 3 3) := by kernel_rfl
theorem keyed7 : Keyed Tryz.prog 3 := int_keyed Tryz.underlying3
def mapV (k : Int) : Int := if k = 2 then 1 else if k = 3 then -1 else 0
theorem map7 (w : World) : ∃ W1 W2, (Instr.mapUpdate 150 (.map (some w.heap.size)) (.int .i64 2) (.int .i64 1)).run Tryz.prog (w.alloc (.map #[] 0)) = .ok () W1 ∧ (Instr.mapUpdate 150 (.map (some w.heap.size)) (.int .i64 3) (.int .i64 (-1))).run Tryz.prog W1 = .ok () W2 ∧
    (∀ k : Int, 1 ≤ k → k ≤ 4 → (Instr.lookup 150 (.map (some w.heap.size)) (.int .i64 k) false).run Tryz.prog W2 = .ok (.int .i64 (mapV k)) W2) ∧ Below w.heap.size w W2 := by
  have h0 : (w.alloc (.map #[] 0)).ownsMap (H := Unit) Tryz.prog 3 (plainElem Tryz.prog 3) w.heap.size 0 (.map []) := World.ownsMap_made _ _ _ _
  have key : ∀ k : Int, 1 ≤ k → k ≤ 4 → keyOf Tryz.prog 3 (.int .i64 k) = some (.int .i64 k) := fun k h1 h2 => keyOf_int_mk Tryz.underlying3 (WalkArith.wf_i64 (by omega))
  obtain ⟨W1, r1, o1, g1⟩ := h0.update keyed7 Tryz.mapIntInt (by unfold maxLen; omega) (key 2 (by omega) (by omega)) (plainElem_int Tryz.underlying3 (a := 1) (WalkArith.wf_i64 (by omega)))
  obtain ⟨W2, r2, o2, g2⟩ := o1.update keyed7 Tryz.mapIntInt (by unfold maxLen; omega) (key 3 (by omega) (by omega)) (plainElem_int Tryz.underlying3 (a := -1) (WalkArith.wf_i64 (by omega)))
  have b0 : Below w.heap.size w (w.alloc (.map #[] 0)) := (Below.refl _ _).alloc (Nat.le_refl _) _
  have b1 := b0.grown g1 b0.size (fun x hx => by cases hx; exact Nat.le_refl _)
  have b2 := b1.grown g2 b1.size (fun x hx => by cases hx; exact Nat.le_refl _)
  refine ⟨W1, W2, r1, r2, fun k k1 k4 => ?_, b2⟩
  obtain ⟨c, hrun, hat, _⟩ := o2.lookup_int keyed7 Tryz.mapIntInt Tryz.underlying3 (Tryz.zeroInt W2) (key k k1 k4)
  have hm1 : IsMap ((DataW.map [] : DataW Unit).put (.int .i64 2) (.lit (.int .i64 1))) := by
    obtain ⟨es, clock, _, _, _, hD⟩ := o1
    exact ⟨_, hD⟩
  rw [hrun]
  unfold mapV
  by_cases h3 : k = 3
  · subst h3
    rw [atKey_put_same (k := .int .i64 3) hm1 trivial] at hat
    simp at hat
    rw [← hat]
    rfl
  · rw [atKey_put_other (fun q => by simp at q; omega)] at hat
    by_cases h2 : k = 2
    · subst h2
      rw [atKey_put_same (k := .int .i64 2) ⟨_, rfl⟩ trivial] at hat
      simp at hat
      rw [← hat]
      rfl
    · rw [atKey_put_other (fun q => by simp at q; omega)] at hat
      rw [if_neg h2, if_neg h3]
      have hat : (DataW.lit (Lit.int .i64 0) : DataW Unit) = .lit (.int .i64 c) := hat
      simp at hat
      rw [hat]

/-! ### The accounts, one after the other -/
/-- Accounts that are told, under way. -/
structure AS (w wr : World) (P O B : Nat) (u : Int) (vs : Value) (s : ByteArray) (k m : Int) (q : AcC) (ov : Value) (os : List AcC) : Prop where
  kv : KV w wr w.heap.size u vs s k m
  va : VarA wr P (.string q.1) (.int .i64 q.2.1) (.int .i64 q.2.2.1) (.bool q.2.2.2)
  vo : VarF wr O (.int .i64 (u + 1)) ov
  bu : ABuf wr B ov os
  lo : w.heap.size + 1 + 1 < P
  po : P < O
  ob : O < B
  bl : B ≤ wr.heap.size
theorem AS.below {w wr w' : World} {P O B : Nat} {u : Int} {vs : Value} {s : ByteArray} {k m : Int} {q : AcC} {ov : Value} {os : List AcC} (h : AS w wr P O B u vs s k m q ov os) (hb : Below wr.heap.size wr w') : AS w w' P O B u vs s k m q ov os :=
  ⟨h.kv.below hb, h.va.below hb, h.vo.below hb, h.bu.below hb, h.lo, h.po, h.ob, Nat.le_trans h.bl hb.size⟩
theorem AS.app {w wr : World} {P O B : Nat} {u : Int} {vs : Value} {s : ByteArray} {k m : Int} {q : AcC} {ov : Value} {os : List AcC} (h : AS w wr P O B u vs s k m q ov os) (x : AcC) (hx : x.1.size ≤ 9223372036854775807) (hn : os.length ≤ 1000) :
    ∃ v' w', (Builtin.append_ #[28, 28] 28 #[ov, .slice (some ⟨wr.heap.size, 0, none⟩) 1 1]).run Tryz.prog (wr.alloc (.cells #[.string x.1, .int .i64 x.2.1, .int .i64 x.2.2.1, .bool x.2.2.2] 93)) = .ok v' w' ∧ VarF w' O (.int .i64 (u + 1)) ov ∧ AS w (w'.setCell ⟨O, 1, none⟩ v') P O B u vs s k m q v' (os ++ [x]) ∧ ∀ X a b c d, VarA wr X a b c d → ov.ownBlock ≠ some X → X ≠ O → VarA (w'.setCell ⟨O, 1, none⟩ v') X a b c d := by
  have bA : Below wr.heap.size wr (wr.alloc (.cells #[.string x.1, .int .i64 x.2.1, .int .i64 x.2.2.1, .bool x.2.2.2] 93)) := (Below.refl _ _).alloc (Nat.le_refl _) _
  have h1 := h.below bA
  obtain ⟨i4, hi4, hh4⟩ := Option.map_eq_some_iff.1 Tryz.infoAccount
  simp only [Prod.mk.injEq] at hh4
  obtain ⟨hy0, hy1, hy2⟩ := hh4
  obtain ⟨v', w', hrun, hown, hg, _⟩ := run_append_own (P := Tryz.prog) _ B 28 28 93 i4 _ 4 40 Tryz.underlying28 hi4 hy0 hy1 hy2 rfl (by decide) ov os.length _ h1.bu.1 ⟨wr.heap.size, 0, none⟩ 1 1 ([x].flatMap acCells) rfl (cells_new wr _ 93) (ac_one [x]) (by unfold maxLen; omega) (by omega) h1.bl
  have ho := off_of_grown hg
  have hlt : ∀ g, ov.ownBlock = some g → B ≤ g := fun g hg => (h.bu.1.lt g hg).1
  have lo := h.lo
  have po := h.po
  have ob := h.ob
  have k1 := h1.kv.off ho (fun j hj => by have := hlt j hj; omega)
  have a1 := h1.va.off ho (fun e => by have := hlt P e; omega)
  have o1 := h1.vo.off ho (fun e => by have := hlt O e; omega)
  have hs := off_set w' ⟨O, 1, none⟩ v'
  refine ⟨v', w', hrun, o1, ⟨k1.off hs (fun j hj => by have hj : j = O := hj; omega), a1.off hs (fun e => by have e : P = O := e; omega), o1.set1 v', ⟨?_, fun e he => ?_⟩, lo, po, ob, ?_⟩, fun X a b c d hX hne hXO => ((hX.below bA).off ho hne).off hs hXO⟩
  · rw [List.length_append, List.flatMap_append]
    exact owns_off hown hs (fun g hg e => by have h2 := (hown.lt g hg).1; have e : g = O := e; omega)
  · rcases List.mem_append.1 he with q | q
    · exact h.bu.2 e q
    · rw [List.mem_singleton.1 q]
      exact hx
  · rw [Deep.nblk_setCell]
    exact Nat.le_trans h1.bl hg.size

theorem AS.tell {w wr : World} {P O B : Nat} {u : Int} {vs : Value} {s : ByteArray} {k m : Int} {q : AcC} {ov : Value} {os : List AcC} (h : AS w wr P O B u vs s k m q ov os) (a b : Value) : Accs ((wr.setCell ⟨w.heap.size + 1 + 1, 0, none⟩ a).setCell ⟨w.heap.size + 1 + 1, 1, none⟩ b) ov (os.map acOf) := by
  have ho : Off (fun j => j = w.heap.size + 1 + 1) wr ((wr.setCell ⟨w.heap.size + 1 + 1, 0, none⟩ a).setCell ⟨w.heap.size + 1 + 1, 1, none⟩ b) := ((Off.refl (fun j => j = w.heap.size + 1 + 1) wr).set (p := ⟨w.heap.size + 1 + 1, 0, none⟩) rfl a).set (p := ⟨w.heap.size + 1 + 1, 1, none⟩) rfl b
  have lo := h.lo
  have po := h.po
  have ob := h.ob
  exact ABuf.accs ⟨owns_off h.bu.1 ho (fun g hg e => by
    have := (h.bu.1.lt g hg).1
    omega), h.bu.2⟩
theorem AS.past {w wr : World} {P O B : Nat} {u : Int} {vs : Value} {s : ByteArray} {k m : Int} {q : AcC} {ov : Value} {os : List AcC} (h : AS w wr P O B u vs s k m q ov os) : Past w.heap.size ov := h.bu.past.mono (by
  have lo := h.lo
  have po := h.po
  have ob := h.ob
  omega)
theorem AS.slice {w wr : World} {P O B : Nat} {u : Int} {vs : Value} {s : ByteArray} {k m : Int} {q : AcC} {ov : Value} {os : List AcC} (h : AS w wr P O B u vs s k m q ov os) : ∃ Q n C, ov = .slice Q n C := by
  obtain ⟨Q, C, e⟩ := h.bu.accs.shape
  exact ⟨Q, _, C, e⟩

set_option maxHeartbeats 2000000 in
set_option maxRecDepth 100000 in
theorem refApply_any (u : Int) (vs : Value) (l : List Vw.Acc) (s : ByteArray) (k m : Int) (w : World) (h : Accs w vs l) (hs : s.size ≤ 9223372036854775807) :
    Calls Tryz.prog 67 #[.agg #[.int .i64 u, vs], .agg #[.string s, .int .i64 k, .int .i64 m]] w fun e w' => ApO e w' w.heap.size (Vw.apply u l ⟨nb s, k, m⟩) ∧ Below w.heap.size w w' := by
  obtain ⟨A, C, rfl⟩ := h.shape
  have K0 := kv_new w u (.slice A l.length C) s k m
  have HA : Hid (∀ w', Below w.heap.size w w' → Accs w' (.slice A l.length C) l) := fun w' hb => h.below hb
  clear h
  have HW := fun w' (hb : Below w.heap.size w w') => refWrongV_any u (.slice A l.length C) l w' (HA.out w' hb)
  have HE := fun w' => refWrongE_any s k m w' hs
  obtain ⟨x, hx⟩ : ∃ x, (Vw.wrongV u l).1 = x := ⟨_, rfl⟩
  obtain ⟨y, hy⟩ : ∃ y, (Vw.wrongV u l).2 = y := ⟨_, rfl⟩
  have HX : Hid ((Vw.wrongV u l).1 = x) := hx
  unfold faultV at HW
  rw [hx, hy] at HW
  obtain ⟨z, hz⟩ : ∃ z, Evt.wrongE ⟨nb s, k, m⟩ = z := ⟨_, rfl⟩
  have HZ : Hid (Evt.wrongE ⟨nb s, k, m⟩ = z) := hz
  rw [hz] at HE
  clear hx hy hz
  go_enter Tryz.func67, Tryz.ntmps67
  go_wp2_with fail
  generalize ((w.alloc (.cells #[.int .i64 u, .slice A l.length C] 30)).alloc (.cells #[.string s, .int .i64 k, .int .i64 m] 83)).alloc (.cells #[.int .i64 0, .slice none 0 0] 30) = W0 at K0 ⊢
  refine (HW _ K0.bel).mono ?_
  rintro e w1 ⟨rfl, b1⟩
  have K1 := K0.below b1
  have bF : Below w1.heap.size w1 (w1.alloc (.cells #[.int .i64 (x : Nat), .int .i64 (y : Nat)] 78)) := (Below.refl _ _).alloc (Nat.le_refl _) _
  have VF := varF_new w1 78 (.int .i64 (x : Nat)) (.int .i64 (y : Nat))
  have K2 := K1.below bF
  have hn1 : w.heap.size + 1 + 1 < w1.heap.size := World.block_lt_of_cell? _ _ K1.r0
  clear K0 K1 HW b1
  by_cases hx0 : x = 0
  case neg =>
    have HF : Hid (Vw.apply u l ⟨nb s, k, m⟩ = (x, 0, [])) := by
      show _ = _
      rw [Vw.apply_view (by rw [HX.out]; exact hx0), HX.out]
    have hxe : ((x : Int) != 0) = true := by rw [bne_iff_ne]; omega
    clear HE hx0
    go_wp2_with fail
    generalize w1.alloc (.cells #[.int .i64 (x : Nat), .int .i64 (y : Nat)] 78) = w2 at K2 VF ⊢
    have c0 := VF.c0
    have r0 := K2.r0
    have r1 := K2.r1
    have f0 := K2.fr 0
    have f1 := K2.fr 1
    have bb := K2.bel
    have hne : w1.heap.size ≠ w.heap.size + 1 + 1 := by omega
    have hne2 : w.heap.size + 1 + 1 ≠ w1.heap.size := by omega
    clear K2 VF bF hn1
    go_region
    go_wp2_with fail
    refine bodyPost_ret (v := .tuple #[.agg #[.int .i64 0, .slice none 0 0], .int .i64 (x : Nat)]) (by simp [results, Tryz.results67, go_sem, r0, r1]) rfl ⟨by rw [HF.out]; exact apO_bad _ _ x, ?_⟩
    exact (bb.drew.setCell (by show w.heap.size ≤ w.heap.size + 1 + 1; omega) _).setCell (by show w.heap.size ≤ w.heap.size + 1 + 1; omega) _
  have HX : Hid ((Vw.wrongV u l).1 = 0) := HX.out.trans hx0
  subst hx0
  have HK2 : Hid (KV w (w1.alloc (.cells #[.int .i64 0, .int .i64 (y : Nat)] 78)) w.heap.size u (.slice A l.length C) s k m) := K2
  clear K2
  obtain ⟨v0, v1, e0, e1, e2, _, _, _, _⟩ := HK2.out
  clear VF hn1
  by_cases hz0 : z = 0
  case neg =>
    have HF : Hid (Vw.apply u l ⟨nb s, k, m⟩ = (z, 0, [])) := by
      show _ = _
      rw [Vw.apply_event HX.out (by rw [HZ.out]; exact hz0), HZ.out]
    have hze : ((z : Int) != 0) = true := by rw [bne_iff_ne]; omega
    clear hz0
    go_wp2_with fail
    refine (HE _).mono ?_
    rintro e w3 ⟨rfl, b3⟩
    have K3 := HK2.out.below b3
    clear HE b3 e0 e1 e2 v0 v1
    have r0 := K3.r0
    have r1 := K3.r1
    have f0 := K3.fr 0
    have f1 := K3.fr 1
    have bb := K3.bel
    clear K3
    go_wp2_with fail
    refine bodyPost_ret (v := .tuple #[.agg #[.int .i64 0, .slice none 0 0], .int .i64 (z : Nat)]) (by simp [results, Tryz.results67, go_sem, r0, r1]) rfl ⟨by rw [HF.out]; exact apO_bad _ _ z, ?_⟩
    exact (bb.setCell (by show w.heap.size ≤ w.heap.size + 1 + 1; omega) _).setCell (by show w.heap.size ≤ w.heap.size + 1 + 1; omega) _
  have HZ : Hid (Evt.wrongE ⟨nb s, k, m⟩ = 0) := HZ.out.trans hz0
  subst hz0
  by_cases hu : u = 150
  · have HF : Hid (Vw.apply u l ⟨nb s, k, m⟩ = (5, 0, [])) := Vw.apply_many HX.out HZ.out hu
    have hue : (150 : Int) ≤ u := by omega
    clear hu
    go_wp2_with fail
    refine (HE _).mono ?_
    rintro e w3 ⟨rfl, b3⟩
    have K3 := HK2.out.below b3
    clear HE b3 e0 e1 e2 v0 v1
    have v0 := K3.v0
    have r0 := K3.r0
    have r1 := K3.r1
    have f0 := K3.fr 0
    have f1 := K3.fr 1
    have bb := K3.bel
    clear K3
    go_wp2_with fail
    refine bodyPost_ret (v := .tuple #[.agg #[.int .i64 0, .slice none 0 0], .int .i64 5]) (by simp [results, Tryz.results67, go_sem, r0, r1]) rfl ⟨by rw [HF.out]; exact apO_bad _ _ 5, ?_⟩
    exact (bb.setCell (by show w.heap.size ≤ w.heap.size + 1 + 1; omega) _).setCell (by show w.heap.size ≤ w.heap.size + 1 + 1; omega) _
  have hue : ¬ (150 : Int) ≤ u := by
    have := (Vw.right_of HX.out).hi
    omega
  have HU : Hid (u ≠ 150) := hu
  clear hu
  go_wp2_with fail
  refine (HE _).mono ?_
  rintro e w3 ⟨rfl, b3⟩
  have K3 := HK2.out.below b3
  clear HE b3 e0 e1 e2 v0 v1
  have v0 := K3.v0
  have v1 := K3.v1
  have e0 := K3.e0
  have hgn : (Vw.get l (nb s)).name = nb s := Vw.get_name l (nb s)
  have HG := refGet_any u s (.slice A l.length C) l w3 (HA.out w3 K3.bel) hs
  obtain ⟨y, hy⟩ : ∃ y, Vw.may (Vw.get l (nb s)) ⟨nb s, k, m⟩ = y := ⟨_, rfl⟩
  have HY : Hid (Vw.may (Vw.get l (nb s)) ⟨nb s, k, m⟩ = y) := hy
  obtain ⟨a, ha⟩ : ∃ a, Vw.get l (nb s) = a := ⟨_, rfl⟩
  have HAE : Hid (Vw.get l (nb s) = a) := ha
  rw [ha] at HG hy hgn
  clear ha
  have HM : ∀ sg : ByteArray, nb sg = a.name → ∀ w', Calls Tryz.prog 100 #[.agg #[.string sg, .int .i64 a.sum, .int .i64 a.cnt, .bool a.opn], .agg #[.string s, .int .i64 k, .int .i64 m]] w' fun e w'' => e = .returned (.bool y) ∧ Below w'.heap.size w' w'' := fun sg hg w' => by
    have h := refMay_any sg s a.sum a.cnt k m a.opn w'
    rw [hg] at h
    rw [← hy]
    exact h
  clear hy
  go_wp2_with fail
  refine HG.mono ?_
  rintro e w5 ⟨⟨v5, rfl, sg, hg1, hg2, rfl⟩, b5⟩
  have K5 := K3.below b5
  have bA : Below w5.heap.size w5 (w5.alloc (.cells #[.string sg, .int .i64 a.sum, .int .i64 a.cnt, .bool a.opn] 93)) := (Below.refl _ _).alloc (Nat.le_refl _) _
  have VA := varA_new w5 93 (.string sg) (.int .i64 a.sum) (.int .i64 a.cnt) (.bool a.opn)
  have hn5 : w.heap.size + 1 + 1 < w5.heap.size := World.block_lt_of_cell? _ _ K5.r0
  have K6 := K5.below bA
  have HM := HM sg hg2 (w5.alloc (.cells #[.string sg, .int .i64 a.sum, .int .i64 a.cnt, .bool a.opn] 93))
  clear HG K3 K5 v0 v1 e0
  have e0 := K6.e0
  have e1 := K6.e1
  have e2 := K6.e2
  go_wp2_with fail
  generalize w5.alloc (.cells #[.string sg, .int .i64 a.sum, .int .i64 a.cnt, .bool a.opn] 93) = w6 at HM K6 VA bA e0 e1 e2 ⊢
  refine HM.mono ?_
  rintro e w7 ⟨rfl, b7⟩
  have K7 := K6.below b7
  have VA := VA.below b7
  clear HM K6 e0 e1 e2
  cases y with
  | false =>
    have HF : Hid (Vw.apply u l ⟨nb s, k, m⟩ = (8, 0, [])) := Vw.apply_fit HX.out HZ.out HU.out HY.out
    have r0 := K7.r0
    have r1 := K7.r1
    have f0 := K7.fr 0
    have f1 := K7.fr 1
    have bb := K7.bel
    clear K7
    go_wp2_with fail
    refine bodyPost_ret (v := .tuple #[.agg #[.int .i64 0, .slice none 0 0], .int .i64 8]) (by simp [results, Tryz.results67, go_sem, r0, r1]) rfl ⟨by rw [HF.out]; exact apO_bad _ _ 8, ?_⟩
    exact (bb.setCell (by show w.heap.size ≤ w.heap.size + 1 + 1; omega) _).setCell (by show w.heap.size ≤ w.heap.size + 1 + 1; omega) _
  | true =>
    have HF : Hid (Vw.apply u l ⟨nb s, k, m⟩ = (0, u + 1, Vw.put l ⟨nb s, k, m⟩)) := Vw.apply_ok HX.out HZ.out HU.out HY.out
    obtain ⟨_, k1, k4, m0, m1⟩ := Evt.wrongE_inv HZ.out
    have k1 : 1 ≤ k := k1
    have k4 : k ≤ 4 := k4
    have m0 : 0 ≤ m := m0
    have m1 : m ≤ 1000000 := m1
    obtain ⟨a1, a2, a3, a4⟩ : 0 ≤ a.cnt ∧ a.cnt ≤ 150 ∧ -150000000 ≤ a.sum ∧ a.sum ≤ 150000000 := by
      have hr := Vw.right_of HX.out
      rcases Vw.get_mem l (nb s) with q | q
      · rw [HAE.out] at q
        obtain ⟨_, r1, r2, r3, r4⟩ := Vw.wrongA_inv (hr.acc a q)
        have := hr.hi
        omega
      · rw [HAE.out] at q
        rw [q]
        show 0 ≤ (0 : Int) ∧ (0 : Int) ≤ 150 ∧ -150000000 ≤ (0 : Int) ∧ (0 : Int) ≤ 150000000
        omega
    have hw : wrap64 (a.cnt + 1) = a.cnt + 1 := by
      unfold wrap64
      omega
    have hmm := @run_makeMap Tryz.prog
    obtain ⟨g0, g1, g2, g3, gf⟩ := VA
    have gf1 := gf 1
    have gf2 := gf 2
    have gf3 := gf 3
    have e0 := K7.e0
    have e1 := K7.e1
    have e2 := K7.e2
    have hne : w5.heap.size ≠ w.heap.size + 1 := by omega
    have hne2 : w.heap.size + 1 ≠ w5.heap.size := by omega
    have v0 := K7.v0
    have v1 := K7.v1
    have n7 : w5.heap.size < w7.heap.size := World.block_lt_of_cell? _ _ g0
    have HK7 : Hid (KV w w7 w.heap.size u (.slice A l.length C) s k m) := K7
    obtain ⟨X, hX⟩ : ∃ X, X = (w7.setCell ⟨w5.heap.size, 2, none⟩ (.int .i64 (a.cnt + 1))).setCell ⟨w5.heap.size, 3, none⟩ (.bool (k != 4)) := ⟨_, rfl⟩
    have hoX : Off (fun j => j = w5.heap.size) w7 X := by
      rw [hX]
      exact ((Off.refl (fun j => j = w5.heap.size) w7).set (p := ⟨w5.heap.size, 2, none⟩) rfl _).set (p := ⟨w5.heap.size, 3, none⟩) rfl _
    have VX : VarA X w5.heap.size (.string sg) (.int .i64 a.sum) (.int .i64 (a.cnt + 1)) (.bool (k != 4)) := by
      rw [hX]
      exact ⟨by go_simp, by go_simp, by go_simp, by go_simp, fun i => by have := gf i; go_simp⟩
    have KX : KV w X w.heap.size u (.slice A l.length C) s k m := HK7.out.off hoX (fun j hj => by omega)
    go_upto_region 14 with fail
    rw [← hX]
    clear g0 g1 g2 g3 gf gf1 gf2 gf3 e0 e1 e2 v0 v1 K7 hX hoX HK7
    obtain ⟨W1, W2, hm1, hm2, hlk, bm⟩ := map7 X
    have hlk := hlk k k1 k4
    have hp : -1000000 ≤ m * mapV k ∧ m * mapV k ≤ 1000000 := by
      unfold mapV
      by_cases q2 : k = 2
      · rw [if_pos q2]
        omega
      · rw [if_neg q2]
        by_cases q3 : k = 3
        · rw [if_pos q3]
          omega
        · rw [if_neg q3]
          omega
    have HSUM : Hid (a.sum + m * mapV k = (Vw.chg a ⟨nb s, k, m⟩).sum) := by
      show a.sum + m * mapV k = if k = 2 then a.sum + m else if k = 3 then a.sum - m else a.sum
      unfold mapV
      by_cases q2 : k = 2
      · rw [if_pos q2, if_pos q2]
        omega
      · rw [if_neg q2, if_neg q2]
        by_cases q3 : k = 3
        · rw [if_pos q3, if_pos q3]
          omega
        · rw [if_neg q3, if_neg q3]
          omega
    have HOPN : Hid ((k != 4) = (Vw.chg a ⟨nb s, k, m⟩).opn) := by
      have hmay : Vw.may a ⟨nb s, k, m⟩ = true := by rw [← HAE.out]; exact HY.out
      show (k != 4) = if k = 1 then true else if k = 4 then false else a.opn
      rcases (show k = 1 ∨ k = 2 ∨ k = 3 ∨ k = 4 by omega) with rfl | rfl | rfl | rfl
      · rfl
      · rw [may_24 (Or.inl rfl)] at hmay
        rw [show a.opn = true from hmay]
        rfl
      · rw [may_3 rfl, Bool.and_eq_true] at hmay
        rw [show a.opn = true from hmay.1]
        rfl
      · rfl
    have KM := KX.below bm
    have VM := VX.below bm
    have hwm : wrap64 (m * mapV k) = m * mapV k := by
      unfold wrap64
      omega
    have hws : wrap64 (a.sum + m * mapV k) = a.sum + m * mapV k := by
      unfold wrap64
      omega
    have VS : VarA (W2.setCell ⟨w5.heap.size, 1, none⟩ (.int .i64 (a.sum + m * mapV k))) w5.heap.size (.string sg) (.int .i64 (a.sum + m * mapV k)) (.int .i64 (a.cnt + 1)) (.bool (k != 4)) := by
      obtain ⟨c0, c1, c2, c3, cf⟩ := VM
      exact ⟨by go_simp, by go_simp, by go_simp, by go_simp, fun i => by have := cf i; go_simp⟩
    have KS : KV w (W2.setCell ⟨w5.heap.size, 1, none⟩ (.int .i64 (a.sum + m * mapV k))) w.heap.size u (.slice A l.length C) s k m := KM.off (off_set W2 ⟨w5.heap.size, 1, none⟩ _) (fun j hj => by have hj : j = w5.heap.size := hj; omega)
    have x1 := VX.c1
    have y2 := KX.e2
    have z1 := KM.e1
    have c1 := VM.c1
    have cf1 := VM.fr 1
    clear bm
    go_upto_region 15 with fail
    generalize W2.setCell ⟨w5.heap.size, 1, none⟩ (.int .i64 (a.sum + m * mapV k)) = WS at VS KS ⊢
    rw [HSUM.out, HOPN.out, show a.cnt + 1 = (Vw.chg a ⟨nb s, k, m⟩).cnt from rfl] at VS
    have HCH : Hid (Vw.put l ⟨nb s, k, m⟩ = Vw.rest (nb s) (Vw.chg a ⟨nb s, k, m⟩) false l) := by
      show _ = _
      rw [← HAE.out]
      exact (Vw.rest_put (e := ⟨nb s, k, m⟩) (Vw.right_of HX.out).srt).symm
    have hcn : nb sg = (Vw.chg a ⟨nb s, k, m⟩).name := hg2
    have hu0 := (Vw.right_of HX.out).lo
    have hl150 := (Vw.right_of HX.out).len
    clear x1 y2 z1 c1 cf1 hwm hws VX KX VM KM hm1 hm2 hlk hp HSUM HOPN HY HAE hw hmm
    generalize Vw.chg a ⟨nb s, k, m⟩ = ca at VS HCH hcn
    have hwu : wrap64 (u + 1) = u + 1 := by
      unfold wrap64
      omega
    have s5 : w5.heap.size < WS.heap.size := World.block_lt_of_cell? _ _ VS.c0
    have bO : Below WS.heap.size WS (WS.alloc (.cells #[.int .i64 (u + 1), .slice none 0 0] 30)) := (Below.refl _ _).alloc (Nat.le_refl _) _
    have S0 : AS w (WS.alloc (.cells #[.int .i64 (u + 1), .slice none 0 0] 30)) w5.heap.size WS.heap.size (WS.heap.size + 1) u (.slice A l.length C) s k m (sg, ca.sum, ca.cnt, ca.opn) (.slice none 0 0) [] :=
      ⟨KS.below bO, VS.below bO, varF_new WS 30 _ _, ABuf.nil _ _, by omega, s5, Nat.lt_succ_self _, by simp⟩
    have v0 := KS.v0
    have v1 := S0.kv.v1
    go_upto_region 18 with fail
    generalize WS.alloc (.cells #[.int .i64 (u + 1), .slice none 0 0] 30) = WO at S0 v1 bO ⊢
    clear v0 v1 KS VS bO
    go_loopw [10, 67] (fun yd z wr => ∃ (d : Bool) (i : Nat) (ov : Value) (os : List AcC), i ≤ l.length ∧ z = .int .i64 i ∧ yd = .bool d ∧ AS w wr w5.heap.size WS.heap.size (WS.heap.size + 1) u (.slice A l.length C) s k m (sg, ca.sum, ca.cnt, ca.opn) ov os ∧ os.length ≤ 2 * i ∧ Hid (Vw.put l ⟨nb s, k, m⟩ = os.map acOf ++ Vw.rest (nb s) ca d (l.drop i))) (fun _ z _ => l.length - (intOf z).toNat)
    case atStart => exact ⟨false, 0, _, [], Nat.zero_le _, rfl, rfl, S0, Nat.le_refl _, HCH.out⟩
    case round =>
      obtain ⟨d, i, ov, os, hi, rfl, rfl, SR, hos, HR⟩ := hrel
      clear S0
      obtain ⟨Qv, nv, Cv, rfl⟩ := SR.slice
      have AL := HA.out wr SR.kv.bel
      by_cases hlt : i < l.length
      · have hlt' : (i : Int) < (l.length : Int) := by omega
        obtain ⟨x, hx⟩ : ∃ x, l[i]? = some x := ⟨l[i], List.getElem?_eq_getElem hlt⟩
        obtain ⟨b, o, rfl, hin⟩ := accs_at AL i x hx
        obtain ⟨sx, hx1, hx2, d0, d1, d2, d3⟩ := hin
        have HD : Hid (l.drop i = x :: l.drop (i + 1)) := Vw.drop_at hx
        have HXC : Hid (acOf (sx, x.sum, x.cnt, x.opn) = x) := by
          show (⟨nb sx, _, _, _⟩ : Vw.Acc) = x
          rw [hx2]
        have HAC : Hid (acOf (sg, ca.sum, ca.cnt, ca.opn) = ca) := by
          show (⟨nb sg, _, _, _⟩ : Vw.Acc) = ca
          rw [hcn]
        have hless := less_nb sx s
        have hsame0 := same_nb sx s
        rw [hx2] at hless hsame0
        have bX : Below wr.heap.size wr (wr.alloc (.cells #[.string sx, .int .i64 x.sum, .int .i64 x.cnt, .bool x.opn] 93)) := (Below.refl _ _).alloc (Nat.le_refl _) _
        have SX := SR.below bX
        have VX := varA_new wr 93 (.string sx) (.int .i64 x.sum) (.int .i64 x.cnt) (.bool x.opn)
        have hovX : (Value.slice Qv nv Cv).ownBlock ≠ some wr.heap.size := fun e => by
          have := (SR.bu.1.lt _ e).2
          omega
        have hsz : (wr.alloc (.cells #[.string sx, .int .i64 x.sum, .int .i64 x.cnt, .bool x.opn] 93)).heap.size = wr.heap.size + 1 := by simp
        have hBw := SR.bl
        have hXO : wr.heap.size ≠ WS.heap.size := by omega
        clear hx hx2 SR
        obtain ⟨L, hL⟩ : ∃ L, Vw.lt x.name (nb s) = L := ⟨_, rfl⟩
        rw [hL] at hless
        by_cases hq : x.name = nb s
        · have hsame : (sx.toList == s.toList) = true := by
            rw [hsame0]
            simpa using hq
          have hL0 : L = false := by rw [← hL, hq, Vw.lt_irrefl]
          subst hL0
          cases d with
          | true =>
            have HN : Hid (AS w (wr.alloc (.cells #[.string sx, .int .i64 x.sum, .int .i64 x.cnt, .bool x.opn] 93)) w5.heap.size WS.heap.size (WS.heap.size + 1) u (.slice (some ⟨b, o, none⟩) l.length C) s k m (sg, ca.sum, ca.cnt, ca.opn) (.slice Qv nv Cv) os ∧ Vw.put l ⟨nb s, k, m⟩ = os.map acOf ++ Vw.rest (nb s) ca true (l.drop (i + 1))) := ⟨SX, by
              rw [HR.out, HD.out, Vw.rest, if_neg (fun q => by cases q.1), if_pos hq]
              rfl⟩
            have y0 := SX.kv.e0
            obtain ⟨g0, _, _, _, _⟩ := VX
            clear SX hL hq hsame0
            go_wp2_with fail
            exact ⟨⟨true, i + 1, _, _, by omega, by go_num, rfl, HN.out.1, by omega, HN.out.2⟩, by simp [intOf]; omega⟩
          | false =>
            obtain ⟨v1, w1', hr1, VO1, S1, keep1⟩ := SX.app (sg, ca.sum, ca.cnt, ca.opn) hg1 (by omega)
            have VX1 := keep1 _ _ _ _ _ VX hovX hXO
            have HN : Hid (AS w (w1'.setCell ⟨WS.heap.size, 1, none⟩ v1) w5.heap.size WS.heap.size (WS.heap.size + 1) u (.slice (some ⟨b, o, none⟩) l.length C) s k m (sg, ca.sum, ca.cnt, ca.opn) v1 (os ++ [(sg, ca.sum, ca.cnt, ca.opn)]) ∧ Vw.put l ⟨nb s, k, m⟩ = (os ++ [(sg, ca.sum, ca.cnt, ca.opn)]).map acOf ++ Vw.rest (nb s) ca true (l.drop (i + 1))) := ⟨S1, by
              rw [HR.out, HD.out, Vw.rest, if_pos ⟨rfl, hL⟩, if_pos hq, hL, List.map_append]
              show _ = (os.map acOf ++ [acOf (sg, ca.sum, ca.cnt, ca.opn)]) ++ _
              rw [HAC.out, List.append_assoc]
              rfl⟩
            rw [hsz] at hr1
            have y0 := SX.kv.e0
            have y1 := S1.kv.e0
            obtain ⟨g0, _, _, _, _⟩ := VX
            obtain ⟨h0, _, _, _, _⟩ := VX1
            obtain ⟨a0, a1, a2, a3, _⟩ := SX.va
            have o1 := SX.vo.c1
            obtain ⟨p0, p1, pf⟩ := VO1
            have pf1 := pf 1
            obtain ⟨Q1, n1, C1, rfl⟩ := S1.slice
            clear SX S1 hL hq keep1 pf hsame0
            go_wp2_with (at_builtin; refine Lib.wpList_append_run _ rfl _ _ _ _ rfl _ _ rfl rfl _ _ hr1 ?_)
            exact ⟨⟨true, i + 1, _, _, by omega, by go_num, rfl, HN.out.1, by simp; omega, HN.out.2⟩, by simp [intOf]; omega⟩
        · have hsame : (sx.toList == s.toList) = false := by
            rw [hsame0]
            simpa using hq
          cases d with
          | true =>
            obtain ⟨v1, w1', hr1, VO1, S1, keep1⟩ := SX.app (sx, x.sum, x.cnt, x.opn) hx1 (by omega)
            have HN : Hid (AS w (w1'.setCell ⟨WS.heap.size, 1, none⟩ v1) w5.heap.size WS.heap.size (WS.heap.size + 1) u (.slice (some ⟨b, o, none⟩) l.length C) s k m (sg, ca.sum, ca.cnt, ca.opn) v1 (os ++ [(sx, x.sum, x.cnt, x.opn)]) ∧ Vw.put l ⟨nb s, k, m⟩ = (os ++ [(sx, x.sum, x.cnt, x.opn)]).map acOf ++ Vw.rest (nb s) ca true (l.drop (i + 1))) := ⟨S1, by
              rw [HR.out, HD.out, Vw.rest, if_neg (fun q => by cases q.1), if_neg hq, hL, List.map_append]
              show _ = (os.map acOf ++ [acOf (sx, x.sum, x.cnt, x.opn)]) ++ _
              rw [HXC.out, List.append_assoc]
              rfl⟩
            rw [hsz] at hr1
            have y0 := SX.kv.e0
            obtain ⟨g0, g1, g2, g3, _⟩ := VX
            have o1 := SX.vo.c1
            obtain ⟨p0, p1, pf⟩ := VO1
            have pf1 := pf 1
            obtain ⟨Q1, n1, C1, rfl⟩ := S1.slice
            clear SX S1 hL hq keep1 pf hsame0
            go_wp2_with (at_builtin; refine Lib.wpList_append_run _ rfl _ _ _ _ rfl _ _ rfl rfl _ _ hr1 ?_)
            exact ⟨⟨true, i + 1, _, _, by omega, by go_num, rfl, HN.out.1, by simp; omega, HN.out.2⟩, by simp [intOf]; omega⟩
          | false =>
            cases L with
            | true =>
              obtain ⟨v1, w1', hr1, VO1, S1, keep1⟩ := SX.app (sx, x.sum, x.cnt, x.opn) hx1 (by omega)
              have HN : Hid (AS w (w1'.setCell ⟨WS.heap.size, 1, none⟩ v1) w5.heap.size WS.heap.size (WS.heap.size + 1) u (.slice (some ⟨b, o, none⟩) l.length C) s k m (sg, ca.sum, ca.cnt, ca.opn) v1 (os ++ [(sx, x.sum, x.cnt, x.opn)]) ∧ Vw.put l ⟨nb s, k, m⟩ = (os ++ [(sx, x.sum, x.cnt, x.opn)]).map acOf ++ Vw.rest (nb s) ca false (l.drop (i + 1))) := ⟨S1, by
                rw [HR.out, HD.out, Vw.rest, if_neg (fun q => by rw [hL] at q; cases q.2), if_neg hq, hL, List.map_append]
                show _ = (os.map acOf ++ [acOf (sx, x.sum, x.cnt, x.opn)]) ++ _
                rw [HXC.out, List.append_assoc]
                rfl⟩
              rw [hsz] at hr1
              have y0 := SX.kv.e0
              obtain ⟨g0, g1, g2, g3, _⟩ := VX
              have o1 := SX.vo.c1
              obtain ⟨p0, p1, pf⟩ := VO1
              have pf1 := pf 1
              obtain ⟨Q1, n1, C1, rfl⟩ := S1.slice
              clear SX S1 hL hq keep1 pf hsame0
              go_wp2_with (at_builtin; refine Lib.wpList_append_run _ rfl _ _ _ _ rfl _ _ rfl rfl _ _ hr1 ?_)
              exact ⟨⟨false, i + 1, _, _, by omega, by go_num, rfl, HN.out.1, by simp; omega, HN.out.2⟩, by simp [intOf]; omega⟩
            | false =>
              obtain ⟨v1, w1', hr1, VO1, S1, keep1⟩ := SX.app (sg, ca.sum, ca.cnt, ca.opn) hg1 (by omega)
              have VX1 := keep1 _ _ _ _ _ VX hovX hXO
              obtain ⟨v2, w2', hr2, VO2, S2, _⟩ := S1.app (sx, x.sum, x.cnt, x.opn) hx1 (by simp; omega)
              have HN : Hid (AS w (w2'.setCell ⟨WS.heap.size, 1, none⟩ v2) w5.heap.size WS.heap.size (WS.heap.size + 1) u (.slice (some ⟨b, o, none⟩) l.length C) s k m (sg, ca.sum, ca.cnt, ca.opn) v2 (os ++ [(sg, ca.sum, ca.cnt, ca.opn)] ++ [(sx, x.sum, x.cnt, x.opn)]) ∧ Vw.put l ⟨nb s, k, m⟩ = (os ++ [(sg, ca.sum, ca.cnt, ca.opn)] ++ [(sx, x.sum, x.cnt, x.opn)]).map acOf ++ Vw.rest (nb s) ca true (l.drop (i + 1))) := ⟨S2, by
                rw [HR.out, HD.out, Vw.rest, if_pos ⟨rfl, hL⟩, if_neg hq, hL, List.map_append, List.map_append]
                show _ = (os.map acOf ++ [acOf (sg, ca.sum, ca.cnt, ca.opn)] ++ [acOf (sx, x.sum, x.cnt, x.opn)]) ++ _
                rw [HAC.out, HXC.out, List.append_assoc, List.append_assoc]
                rfl⟩
              rw [hsz] at hr1
              rw [Deep.nblk_setCell] at hr2
              have y0 := SX.kv.e0
              have y1 := S1.kv.e0
              obtain ⟨g0, _, _, _, _⟩ := VX
              obtain ⟨h0, h1, h2, h3, _⟩ := VX1
              obtain ⟨a0, a1, a2, a3, _⟩ := SX.va
              have o1 := SX.vo.c1
              have o2 := S1.vo.c1
              obtain ⟨p0, p1, pf⟩ := VO1
              have pf1 := pf 1
              obtain ⟨q0, q1, qf⟩ := VO2
              have qf1 := qf 1
              obtain ⟨Q1, n1, C1, rfl⟩ := S1.slice
              obtain ⟨Q2, n2, C2, rfl⟩ := S2.slice
              clear SX S1 S2 hL hq keep1 pf qf hsame0
              go_wp2_with (first | (at_builtin; refine Lib.wpList_append_run _ rfl _ _ _ _ rfl _ _ rfl rfl _ _ hr1 ?_) | (at_builtin; refine Lib.wpList_append_run _ rfl _ _ _ _ rfl _ _ rfl rfl _ _ hr2 ?_))
              exact ⟨⟨true, i + 1, _, _, by omega, by go_num, rfl, HN.out.1, by simp; omega, HN.out.2⟩, by simp [intOf]; omega⟩
      · obtain rfl : i = l.length := by omega
        rw [List.drop_length] at HR
        cases d with
        | true =>
          have HPU : Hid (os.map acOf = Vw.put l ⟨nb s, k, m⟩) := by
            show _ = _
            rw [HR.out]
            simp [Vw.rest]
          have HT : Hid (∀ a b, Accs ((wr.setCell ⟨w.heap.size + 1 + 1, 0, none⟩ a).setCell ⟨w.heap.size + 1 + 1, 1, none⟩ b) (.slice Qv nv Cv) (os.map acOf)) := fun a b => SR.tell a b
          have HPA : Hid (Past w.heap.size (.slice Qv nv Cv)) := SR.past
          have bb := SR.kv.bel
          have r0 := SR.kv.r0
          have r1 := SR.kv.r1
          have f0 := SR.kv.fr 0
          have f1 := SR.kv.fr 1
          have o0 := SR.vo.c0
          have o1 := SR.vo.c1
          clear SR AL
          go_wp2_with fail
          refine bodyPost_ret (v := .tuple #[.agg #[.int .i64 (u + 1), .slice Qv nv Cv], .int .i64 0]) (by simp [results, Tryz.results67, go_sem, r0, r1]) rfl ⟨by rw [HF.out, ← HPU.out]; exact ⟨_, rfl, HT.out _ _, HPA.out⟩, ?_⟩
          exact (bb.setCell (by show w.heap.size ≤ w.heap.size + 1 + 1; omega) _).setCell (by show w.heap.size ≤ w.heap.size + 1 + 1; omega) _
        | false =>
          have HAC : Hid (acOf (sg, ca.sum, ca.cnt, ca.opn) = ca) := by
            show (⟨nb sg, _, _, _⟩ : Vw.Acc) = ca
            rw [hcn]
          obtain ⟨v1, w1', hr1, VO1, S1, _⟩ := SR.app (sg, ca.sum, ca.cnt, ca.opn) hg1 (by omega)
          obtain ⟨Q1, n1, C1, rfl⟩ := S1.slice
          have HPU : Hid ((os ++ [(sg, ca.sum, ca.cnt, ca.opn)]).map acOf = Vw.put l ⟨nb s, k, m⟩) := by
            show _ = _
            rw [HR.out, List.map_append]
            show os.map acOf ++ [acOf (sg, ca.sum, ca.cnt, ca.opn)] = _
            rw [HAC.out]
            simp [Vw.rest]
          have HT : Hid (∀ a b, Accs (((w1'.setCell ⟨WS.heap.size, 1, none⟩ (.slice Q1 n1 C1)).setCell ⟨w.heap.size + 1 + 1, 0, none⟩ a).setCell ⟨w.heap.size + 1 + 1, 1, none⟩ b) (.slice Q1 n1 C1) ((os ++ [(sg, ca.sum, ca.cnt, ca.opn)]).map acOf)) := fun a b => S1.tell a b
          have HPA : Hid (Past w.heap.size (.slice Q1 n1 C1)) := S1.past
          have bb := S1.kv.bel
          have r0 := S1.kv.r0
          have r1 := S1.kv.r1
          have f0 := S1.kv.fr 0
          have f1 := S1.kv.fr 1
          have o0 := S1.vo.c0
          have o1 := S1.vo.c1
          have oo1 := SR.vo.c1
          obtain ⟨a0, a1, a2, a3, _⟩ := SR.va
          obtain ⟨p0, p1, pf⟩ := VO1
          have pf1 := pf 1
          clear SR AL S1 pf
          go_wp2_with (at_builtin; refine Lib.wpList_append_run _ rfl _ _ _ _ rfl _ _ rfl rfl _ _ hr1 ?_)
          refine bodyPost_ret (v := .tuple #[.agg #[.int .i64 (u + 1), .slice Q1 n1 C1], .int .i64 0]) (by simp [results, Tryz.results67, go_sem, r0, r1]) rfl ⟨by rw [HF.out, ← HPU.out]; exact ⟨_, rfl, HT.out _ _, HPA.out⟩, ?_⟩
          exact (bb.setCell (by show w.heap.size ≤ w.heap.size + 1 + 1; omega) _).setCell (by show w.heap.size ≤ w.heap.size + 1 + 1; omega) _

end Go.Proofs.YtmcaejooaaahdaaGreat
