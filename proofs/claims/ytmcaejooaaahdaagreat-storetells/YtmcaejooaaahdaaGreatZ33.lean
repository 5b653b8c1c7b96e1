/-
  Texts of the proof, joined: VFold, HStep, HTruth.
-/
import Derived.Test.YtmcaejooaaahdaaGreatZ32
import Derived.Test.YtmcaejooaaahdaaGreatZ03
namespace Go.Proofs.YtmcaejooaaahdaaGreat
open Go.RowKit

/-- What is told of a view and events. -/
def FoO (e : Ending) (w' : World) (N : Nat) (r : (Nat × Nat) × Int × List Vw.Acc) : Prop := ∃ v, e = .returned (.tuple #[.agg #[.int .i64 r.2.1, v], faultV r.1]) ∧ Accs w' v r.2.2 ∧ Past N v
theorem foO_bad (w' : World) (N x y : Nat) : FoO (.returned (.tuple #[.agg #[.int .i64 0, .slice none 0 0], .agg #[.int .i64 (x : Nat), .int .i64 (y : Nat)]])) w' N ((x, y), 0, []) := ⟨_, rfl, Accs.nil w', past_nil N⟩

theorem VarF.set2 {w : World} {p : Nat} {a b : Value} (h : VarF w p a b) (x y : Value) : VarF ((w.setCell ⟨p, 0, none⟩ x).setCell ⟨p, 1, none⟩ y) p x y := by
  have c0 := h.c0
  have c1 := h.c1
  exact ⟨by go_simp, by go_simp, fun i => by have := h.fr i; go_simp⟩
theorem evs_drop {l : List Evt.Ev} {k : Nat} {e : Evt.Ev} (h : l[k]? = some e) : l.drop k = e :: l.drop (k + 1) := by
  obtain ⟨hk, rfl⟩ := List.getElem?_eq_some_iff.1 h
  exact List.drop_eq_getElem_cons hk

/-- A fold under way: the view so far, and what is told at last. -/
structure FS (w wr : World) (u : Int) (v : Value) (l : List Vw.Acc) : Prop where
  vv : VarF wr w.heap.size (.int .i64 u) v
  vr : VarF wr (w.heap.size + 1) (.int .i64 0) (.slice none 0 0)
  vf : VarF wr (w.heap.size + 1 + 1) (.int .i64 0) (.int .i64 0)
  ac : Accs wr v l
  bel : Below w.heap.size w wr
theorem FS.below {w wr w' : World} {u : Int} {v : Value} {l : List Vw.Acc} (h : FS w wr u v l) (hb : Below wr.heap.size wr w') : FS w w' u v l :=
  ⟨h.vv.below hb, h.vr.below hb, h.vf.below hb, h.ac.below hb, bt h.bel hb⟩
theorem FS.room {w wr : World} {u : Int} {v : Value} {l : List Vw.Acc} (h : FS w wr u v l) : w.heap.size + 1 + 1 < wr.heap.size := World.block_lt_of_cell? _ _ h.vf.c0
theorem off_two (w : World) (p : Nat) (a b : Value) : Off (fun j => j = p) w ((w.setCell ⟨p, 0, none⟩ a).setCell ⟨p, 1, none⟩ b) :=
  ((Off.refl (fun j => j = p) w).set (p := ⟨p, 0, none⟩) rfl a).set (p := ⟨p, 1, none⟩) rfl b
/-- Another view in its place. -/
theorem FS.put {w wr : World} {u u' : Int} {v v' : Value} {l l' : List Vw.Acc} (h : FS w wr u v l) (ha : Accs wr v' l') (hp : Past (w.heap.size + 1 + 1 + 1) v') : FS w ((wr.setCell ⟨w.heap.size, 0, none⟩ (.int .i64 u')).setCell ⟨w.heap.size, 1, none⟩ v') u' v' l' := by
  have ho := off_two wr w.heap.size (.int .i64 u') v'
  exact ⟨h.vv.set2 _ _, h.vr.off ho (by omega), h.vf.off ho (by omega), ha.off ho (fun g hg e => by have := hp g hg; omega), (h.bel.setCell (Nat.le_refl _) _).setCell (Nat.le_refl _) _⟩
/-- A view is told. -/
theorem FS.told {w wr : World} {u : Int} {v : Value} {l : List Vw.Acc} (h : FS w wr u v l) (hp : Past (w.heap.size + 1 + 1 + 1) v) (a b c d : Value) : Accs ((((wr.setCell ⟨w.heap.size + 1, 0, none⟩ a).setCell ⟨w.heap.size + 1, 1, none⟩ b).setCell ⟨w.heap.size + 1 + 1, 0, none⟩ c).setCell ⟨w.heap.size + 1 + 1, 1, none⟩ d) v l :=
  (h.ac.off (off_two wr (w.heap.size + 1) a b) (fun g hg e => by have := hp g hg; omega)).off (off_two _ (w.heap.size + 1 + 1) c d) (fun g hg e => by have := hp g hg; omega)
theorem below_four {w wr : World} (h : Below w.heap.size w wr) (a b c d : Value) : Below w.heap.size w ((((wr.setCell ⟨w.heap.size + 1, 0, none⟩ a).setCell ⟨w.heap.size + 1, 1, none⟩ b).setCell ⟨w.heap.size + 1 + 1, 0, none⟩ c).setCell ⟨w.heap.size + 1 + 1, 1, none⟩ d) :=
  (((h.setCell (by show w.heap.size ≤ w.heap.size + 1; omega) _).setCell (by show w.heap.size ≤ w.heap.size + 1; omega) _).setCell (by show w.heap.size ≤ w.heap.size + 1 + 1; omega) _).setCell (by show w.heap.size ≤ w.heap.size + 1 + 1; omega) _

set_option maxHeartbeats 2000000 in
set_option maxRecDepth 100000 in
theorem fold_any (u : Int) (vs ve : Value) (l : List Vw.Acc) (es : List Evt.Ev) (w : World) (h : Accs w vs l) (he : Evs w ve es) :
    Calls Tryz.prog 44 #[.agg #[.int .i64 u, vs], ve] w fun e w' => FoO e w' w.heap.size (Vw.fold u l es) ∧ Below w.heap.size w w' := by
  obtain ⟨A, C, rfl⟩ := h.shape
  have hel : es.length ≤ 9223372036854775807 := by
    obtain ⟨_, _, _, q1, q2, _⟩ := he
    unfold maxLen at q2
    omega
  obtain ⟨E, D, rfl, _, _, hE⟩ := he
  have HA : Hid (∀ w', Below w.heap.size w w' → Accs w' (.slice A l.length C) l) := fun w' hb => h.below hb
  have HEV : Hid (∀ i e, es[i]? = some e → ∃ b o, E = some ⟨b, o, none⟩ ∧ EvIn w b (o + i * 3) e) := hE
  clear h hE
  have h1 : Below w.heap.size w (w.alloc (.cells #[.int .i64 u, .slice A l.length C] 30)) := (Below.refl _ _).alloc (Nat.le_refl _) _
  have h2 := h1.alloc h1.size (.cells #[.int .i64 0, .slice none 0 0] 30)
  have h3 := h2.alloc h2.size (.cells #[.int .i64 0, .int .i64 0] 78)
  have hb2 : Below (w.alloc (.cells #[.int .i64 u, .slice A l.length C] 30)).heap.size (w.alloc (.cells #[.int .i64 u, .slice A l.length C] 30)) ((w.alloc (.cells #[.int .i64 u, .slice A l.length C] 30)).alloc (.cells #[.int .i64 0, .slice none 0 0] 30)) := (Below.refl _ _).alloc (Nat.le_refl _) _
  have hb3 : Below ((w.alloc (.cells #[.int .i64 u, .slice A l.length C] 30)).alloc (.cells #[.int .i64 0, .slice none 0 0] 30)).heap.size ((w.alloc (.cells #[.int .i64 u, .slice A l.length C] 30)).alloc (.cells #[.int .i64 0, .slice none 0 0] 30)) (((w.alloc (.cells #[.int .i64 u, .slice A l.length C] 30)).alloc (.cells #[.int .i64 0, .slice none 0 0] 30)).alloc (.cells #[.int .i64 0, .int .i64 0] 78)) := (Below.refl _ _).alloc (Nat.le_refl _) _
  have VV := ((varF_new w 30 (.int .i64 u) (.slice A l.length C)).below hb2).below hb3
  have VR := (varF_new (w.alloc (.cells #[.int .i64 u, .slice A l.length C] 30)) 30 (.int .i64 0) (.slice none 0 0)).below hb3
  have VF := varF_new ((w.alloc (.cells #[.int .i64 u, .slice A l.length C] 30)).alloc (.cells #[.int .i64 0, .slice none 0 0] 30)) 78 (.int .i64 0) (.int .i64 0)
  have z1 : (w.alloc (.cells #[.int .i64 u, .slice A l.length C] 30)).heap.size = w.heap.size + 1 := by simp
  have z2 : ((w.alloc (.cells #[.int .i64 u, .slice A l.length C] 30)).alloc (.cells #[.int .i64 0, .slice none 0 0] 30)).heap.size = w.heap.size + 1 + 1 := by simp
  rw [z1] at VR
  rw [z2] at VF
  clear z1 z2 hb2 hb3 h1 h2
  have HW := fun w' (hb : Below w.heap.size w w') => viewWrong_any u (.slice A l.length C) l w' (HA.out w' hb)
  obtain ⟨x, hx⟩ : ∃ x, (Vw.wrongV u l).1 = x := ⟨_, rfl⟩
  obtain ⟨y, hy⟩ : ∃ y, (Vw.wrongV u l).2 = y := ⟨_, rfl⟩
  have HX : Hid ((Vw.wrongV u l).1 = x) := hx
  unfold faultV at HW
  rw [hx, hy] at HW
  clear hx hy
  go_enter Tryz.func44, Tryz.ntmps44
  go_wp2_with fail
  generalize ((w.alloc (.cells #[.int .i64 u, .slice A l.length C] 30)).alloc (.cells #[.int .i64 0, .slice none 0 0] 30)).alloc (.cells #[.int .i64 0, .int .i64 0] 78) = W0 at h3 VV VR VF ⊢
  refine (HW _ h3).mono ?_
  rintro e w1 ⟨rfl, b1⟩
  have bF : Below w1.heap.size w1 (w1.alloc (.cells #[.int .i64 (x : Nat), .int .i64 (y : Nat)] 78)) := (Below.refl _ _).alloc (Nat.le_refl _) _
  have VX := varF_new w1 78 (.int .i64 (x : Nat)) (.int .i64 (y : Nat))
  have VV := (VV.below b1).below bF
  have VR1 := VR.below b1
  have VR := VR1.below bF
  have VF1 := VF.below b1
  have VF := VF1.below bF
  have hn1 : w.heap.size + 1 < w1.heap.size := World.block_lt_of_cell? _ _ VR1.c0
  have hn2 : w.heap.size + 1 + 1 < w1.heap.size := World.block_lt_of_cell? _ _ VF1.c0
  have h4 := bt (bt h3 b1) bF
  clear HW VR1 VF1 h3 b1
  by_cases hx0 : x = 0
  case neg =>
    have HF : Hid (Vw.fold u l es = ((x, 0), 0, [])) := by
      show _ = _
      rw [Vw.fold_bad (by rw [HX.out]; exact hx0), HX.out]
    have hxe : ((x : Int) != 0) = true := by rw [bne_iff_ne]; omega
    clear hx0
    go_wp2_with fail
    generalize w1.alloc (.cells #[.int .i64 (x : Nat), .int .i64 (y : Nat)] 78) = w2 at VV VR VF VX h4 ⊢
    obtain ⟨c0, _, _⟩ := VX
    obtain ⟨r0, r1, fr⟩ := VR
    obtain ⟨q0, q1, fq⟩ := VF
    have f0 := fr 0
    have f1 := fr 1
    have f2 := fq 0
    have f3 := fq 1
    have hne : w1.heap.size ≠ w.heap.size + 1 + 1 := by omega
    have hne2 : w.heap.size + 1 + 1 ≠ w1.heap.size := by omega
    have hne3 : w1.heap.size ≠ w.heap.size + 1 := by omega
    have hne4 : w.heap.size + 1 ≠ w1.heap.size := by omega
    clear bF hn1 hn2 VV fr fq
    go_region
    go_wp2_with fail
    refine bodyPost_ret (v := .tuple #[.agg #[.int .i64 0, .slice none 0 0], .agg #[.int .i64 (x : Nat), .int .i64 0]]) (by simp [results, Tryz.results44, go_sem, r0, r1, q0, q1]) rfl ⟨by rw [HF.out]; exact foO_bad _ _ x 0, ?_⟩
    exact ((((h4.setCell (by show w.heap.size ≤ w.heap.size + 1; omega) _).setCell (by show w.heap.size ≤ w.heap.size + 1; omega) _).setCell (by show w.heap.size ≤ w.heap.size + 1 + 1; omega) _).setCell (by show w.heap.size ≤ w.heap.size + 1 + 1; omega) _).drew
  have HX : Hid ((Vw.wrongV u l).1 = 0) := HX.out.trans hx0
  subst hx0
  have HF0 : Hid (Vw.fold u l es = Vw.foldL u l 0 es) := Vw.fold_else HX.out
  have hln : l.length ≤ 150 := (Vw.right_of HX.out).len
  have HC := fun w' (hb : Below w.heap.size w w') => cloneA_any (.slice A l.length C) l w' (HA.out w' hb) (by omega)
  have VV : VarF (w1.alloc (.cells #[.int .i64 0, .int .i64 (y : Nat)] 78)) w.heap.size (.int .i64 u) (.slice A l.length C) := VV
  have VR : VarF (w1.alloc (.cells #[.int .i64 0, .int .i64 (y : Nat)] 78)) (w.heap.size + 1) (.int .i64 0) (.slice none 0 0) := VR
  have VF : VarF (w1.alloc (.cells #[.int .i64 0, .int .i64 (y : Nat)] 78)) (w.heap.size + 1 + 1) (.int .i64 0) (.int .i64 0) := VF
  have h4 : Below w.heap.size w (w1.alloc (.cells #[.int .i64 0, .int .i64 (y : Nat)] 78)) := h4
  have hn4 : w.heap.size + 1 + 1 < (w1.alloc (.cells #[.int .i64 0, .int .i64 (y : Nat)] 78)).heap.size := World.block_lt_of_cell? _ _ VF.c0
  have v1 := VV.c1
  clear VX bF hn1 hn2
  go_wp2_with fail
  generalize w1.alloc (.cells #[.int .i64 0, .int .i64 (y : Nat)] 78) = w2 at VV VR VF h4 v1 hn4 ⊢
  refine (HC _ h4).mono ?_
  rintro e w3 ⟨⟨v3, es3, rfl, hes3, hB3⟩, b3⟩
  have A3 := hB3.accs
  have P3 : Past (w.heap.size + 1 + 1 + 1) v3 := hB3.past.mono (by omega)
  rw [hes3] at A3
  have S3 : FS w (w3.setCell ⟨w.heap.size, 1, none⟩ v3) u v3 l := by
    have ho : Off (fun j => j = w.heap.size) w3 (w3.setCell ⟨w.heap.size, 1, none⟩ v3) := off_set w3 ⟨w.heap.size, 1, none⟩ v3
    exact ⟨(VV.below b3).set1 v3, (VR.below b3).off ho (by omega), (VF.below b3).off ho (by omega), A3.off ho (fun g hg e => by have := P3 g hg; omega), (bt h4 b3).setCell (Nat.le_refl _) _⟩
  obtain ⟨c0, c1, fr⟩ := VV.below b3
  have f0 := fr 0
  have f1 := fr 1
  obtain ⟨Q3, C3, rfl⟩ := A3.shape
  clear HC hB3 hes3 v1 h4 b3 A3 VV VR VF hn4
  go_wp2_with fail
  generalize w3.setCell ⟨w.heap.size, 1, none⟩ (.slice Q3 l.length C3) = wz at S3 ⊢
  clear c0 c1 fr f0 f1
  go_loopw [26] (fun x wr => ∃ (k : Nat) (uk : Int) (vk : Value) (lk : List Vw.Acc), k ≤ es.length ∧ x = .int .i64 k ∧ FS w wr uk vk lk ∧ Past (w.heap.size + 1 + 1 + 1) vk ∧ Hid (Vw.fold u l es = Vw.foldL uk lk k (es.drop k))) (fun x _ => es.length - (intOf x).toNat)
  case atStart => exact ⟨0, u, _, l, Nat.zero_le _, rfl, S3, P3, HF0.out⟩
  case round =>
    obtain ⟨k, uk, vk, lk, hk, rfl, SK, PK, HK⟩ := hrel
    clear S3 P3
    obtain ⟨Ak, Ck, rfl⟩ := SK.ac.shape
    by_cases hlt : k < es.length
    · have hlt' : (k : Int) < (es.length : Int) := by omega
      obtain ⟨ev, hev⟩ : ∃ ev, es[k]? = some ev := ⟨es[k], List.getElem?_eq_getElem hlt⟩
      obtain ⟨b, o, rfl, hin⟩ := HEV.out k ev hev
      obtain ⟨s, hs1, hs2, d0, d1, d2⟩ := hin.below SK.bel
      have HD : Hid (es.drop k = ev :: es.drop (k + 1)) := evs_drop hev
      obtain ⟨wo, rfl⟩ : ∃ y, y = wr := ⟨wr, rfl⟩
      have bA : Below wo.heap.size wo (wo.alloc (.cells #[.string s, .int .i64 ev.kind, .int .i64 ev.num] 83)) := (Below.refl _ _).alloc (Nat.le_refl _) _
      have SA := SK.below bA
      have VE := varE_new wo (.string s) (.int .i64 ev.kind) (.int .i64 ev.num)
      have HAP := apply_any uk (.slice Ak lk.length Ck) lk s ev.kind ev.num _ SA.ac hs1
      rw [hs2] at HAP
      have hroom := SK.room
      have hevE : (⟨ev.name, ev.kind, ev.num⟩ : Evt.Ev) = ev := rfl
      rw [hevE] at HAP
      clear hev hs2 hin SK hevE
      have v0 := SA.vv.c0
      have v1 := SA.vv.c1
      obtain ⟨g0, g1, g2⟩ := VE
      go_wp2_with fail
      refine HAP.mono ?_
      rintro e w4 ⟨⟨v4, rfl, A4, P4⟩, b4⟩
      have S4 := SA.below b4
      have P4 : Past (w.heap.size + 1 + 1 + 1) v4 := P4.mono (by have := bA.size; omega)
      have HN : Hid (Vw.fold u l es = if (Vw.apply uk lk ev).1 = 0 then Vw.foldL (Vw.apply uk lk ev).2.1 (Vw.apply uk lk ev).2.2 (k + 1) (es.drop (k + 1)) else (((Vw.apply uk lk ev).1, k), 0, [])) := by
        show _ = _
        rw [HK.out, HD.out, Vw.foldL]
      obtain ⟨Q4, C4, rfl⟩ := A4.shape
      generalize (Vw.apply uk lk ev).2.1 = u' at HN
      generalize (Vw.apply uk lk ev).2.2 = l' at HN A4 P4
      generalize (Vw.apply uk lk ev).1 = x' at HN
      clear HAP SA v0 v1 g0 g1 g2 b4 bA d0 d1 d2
      have bV : Below w4.heap.size w4 (w4.alloc (.cells #[.int .i64 u', .slice Q4 l'.length C4] 30)) := (Below.refl _ _).alloc (Nat.le_refl _) _
      have S5 := S4.below bV
      have A5 := A4.below bV
      have VN := varF_new w4 30 (.int .i64 u') (.slice Q4 l'.length C4)
      have h54 := S4.room
      clear S4 A4
      by_cases hx0 : x' = 0
      · have HN : Hid (Vw.fold u l es = Vw.foldL u' l' (k + 1) (es.drop (k + 1))) := by
          show _ = _
          rw [HN.out, if_pos hx0]
        have hxe : ((x' : Int) != 0) = false := by rw [bne_eq_false_iff_eq]; omega
        have HS6 : Hid (FS w (((w4.alloc (.cells #[.int .i64 u', .slice Q4 l'.length C4] 30)).setCell ⟨w.heap.size, 0, none⟩ (.int .i64 u')).setCell ⟨w.heap.size, 1, none⟩ (.slice Q4 l'.length C4)) u' (.slice Q4 l'.length C4) l') := S5.put A5 P4
        obtain ⟨c0, c1, fr⟩ := S5.vv
        have f0 := fr 0
        have f1 := fr 1
        obtain ⟨n0, n1, _⟩ := VN
        clear S5 A5 hx0
        go_wp2_with fail
        exact ⟨⟨k + 1, u', _, l', by omega, by go_num, HS6.out, P4, HN.out⟩, by simp [intOf]; omega⟩
      · have HN : Hid (Vw.fold u l es = ((x', k), 0, [])) := by
          show _ = _
          rw [HN.out, if_neg hx0]
        have hxe : ((x' : Int) != 0) = true := by rw [bne_iff_ne]; omega
        have bb := S5.bel
        obtain ⟨c0, c1, fr⟩ := S5.vr
        have f0 := fr 0
        have f1 := fr 1
        obtain ⟨q0, q1, fq⟩ := S5.vf
        have f2 := fq 0
        have f3 := fq 1
        clear S5 A5 hx0 VN
        go_wp2_with fail
        refine bodyPost_ret (v := .tuple #[.agg #[.int .i64 0, .slice none 0 0], .agg #[.int .i64 (x' : Nat), .int .i64 (k : Nat)]]) (by simp [results, Tryz.results44, go_sem, c0, c1, q0, q1]) rfl ⟨by rw [HN.out]; exact foO_bad _ _ x' k, ?_⟩
        exact below_four bb _ _ _ _
    · obtain rfl : k = es.length := by omega
      have HN : Hid (Vw.fold u l es = ((0, 0), uk, lk)) := by
        show _ = _
        rw [HK.out, List.drop_length]
        rfl
      have HT := SK.told PK (.int .i64 uk) (.slice Ak lk.length Ck) (.int .i64 0) (.int .i64 0)
      have HT : Hid (Accs ((((wr.setCell ⟨w.heap.size + 1, 0, none⟩ (.int .i64 uk)).setCell ⟨w.heap.size + 1, 1, none⟩ (.slice Ak lk.length Ck)).setCell ⟨w.heap.size + 1 + 1, 0, none⟩ (.int .i64 0)).setCell ⟨w.heap.size + 1 + 1, 1, none⟩ (.int .i64 0)) (.slice Ak lk.length Ck) lk) := HT
      have bb := SK.bel
      have v0 := SK.vv.c0
      have v1 := SK.vv.c1
      obtain ⟨c0, c1, fr⟩ := SK.vr
      have f0 := fr 0
      have f1 := fr 1
      obtain ⟨q0, q1, fq⟩ := SK.vf
      have f2 := fq 0
      have f3 := fq 1
      clear SK
      go_wp2_with fail
      refine bodyPost_ret (v := .tuple #[.agg #[.int .i64 uk, .slice Ak lk.length Ck], .agg #[.int .i64 0, .int .i64 0]]) (by simp [results, Tryz.results44, go_sem, c0, c1, q0, q1]) rfl ⟨by rw [HN.out]; exact ⟨_, rfl, HT.out, PK.mono (by omega)⟩, ?_⟩
      exact below_four bb _ _ _ _

end Go.Proofs.YtmcaejooaaahdaaGreat

namespace Go.Proofs.YtmcaejooaaahdaaGreat.Sto
open Evt (Ev Bat)

theorem three_bytes {n : Nat} (h : n ≤ 1000000) : Evt.Bytes (Evt.three n) := fun x hx => by
  unfold Evt.three at hx
  simp only [List.mem_cons, List.not_mem_nil, or_false] at hx
  rcases hx with rfl | rfl | rfl <;> omega
theorem bytes_append {a b : List Nat} (ha : Evt.Bytes a) (hb : Evt.Bytes b) : Evt.Bytes (a ++ b) := fun x hx => by
  rcases List.mem_append.1 hx with q | q
  · exact ha x q
  · exact hb x q
theorem bytes_cons {a : Nat} {b : List Nat} (ha : a < 256) (hb : Evt.Bytes b) : Evt.Bytes (a :: b) := fun x hx => by
  rcases List.mem_cons.1 hx with rfl | q
  · exact ha
  · exact hb x q
theorem encE_bytes {e : Ev} (h : Evt.wrongE e = 0) : Evt.Bytes (Evt.encE e) := by
  obtain ⟨⟨n1, n2, n3⟩, k1, k4, m0, m1⟩ := Evt.wrongE_inv h
  unfold Evt.encE
  refine bytes_append (bytes_cons (by omega) fun x hx => ?_) (bytes_cons (by omega) (three_bytes (by omega)))
  have := (Evt.letter_iff x).1 (List.all_eq_true.1 n1 x hx)
  omega
theorem flat_bytes {α : Type} {f : α → List Nat} {l : List α} (h : ∀ x, x ∈ l → Evt.Bytes (f x)) : Evt.Bytes (l.flatMap f) := fun y hy => by
  obtain ⟨x, hx, hy⟩ := List.mem_flatMap.1 hy
  exact h x hx y hy
theorem encB_bytes {b : Bat} (h : (Evt.wrongB b).1 = 0) : Evt.Bytes (Evt.encB b) := by
  obtain ⟨c1, c2, l1, l2, h5⟩ := Evt.wrongB_inv h
  unfold Evt.encB
  exact bytes_append (three_bytes (by omega)) (bytes_cons (by omega) (flat_bytes fun e he => encE_bytes (h5 e he)))
theorem encL_bytes {l : List Bat} (h : (Evt.wrongL l).1 = 0) : Evt.Bytes (Evt.encL l) := by
  obtain ⟨h1, h2⟩ := Evt.wrongL_inv h
  unfold Evt.encL
  exact bytes_cons (by omega) (flat_bytes fun b hb => encB_bytes (h2 b hb))

theorem laid_inv {X : Six} {c : Cfg} {s : St} {BL : List (List Bat)} {had : List (Int × Int)} {b : Bat} {v : Int × List Vw.Acc} (h : Inv X c s BL had) (h0 : (laid X c s b v).1 = 0) :
    ∃ BL', Inv X c (laid X c s b v).2 BL' had ∧ evsOf BL'.flatten ++ evsOf (laid X c s b v).2.tail = evsOf BL.flatten ++ evsOf s.tail ++ b.evs ∧ ∀ H, Whole X c s BL H → Whole X c (laid X c s b v).2 BL' H := by
  have ht : evsOf (s.tail ++ [b]) = evsOf s.tail ++ b.evs := by
    rw [evsOf_append]
    simp [evsOf]
  unfold laid at h0 ⊢
  dsimp only at h0 ⊢
  by_cases q1 : (s.tail ++ [b]).length < c.b
  · rw [if_pos q1]
    refine ⟨BL, ⟨h.len, h.dl, h.up, h.ok⟩, ?_, fun H hw => hw⟩
    show evsOf BL.flatten ++ evsOf (s.tail ++ [b]) = _
    rw [ht, List.append_assoc]
  · rw [if_neg q1] at h0 ⊢
    by_cases q2 : (Evt.wrongL (s.tail ++ [b])).1 ≠ 0
    · rw [if_pos q2] at h0
      exact absurd h0 q2
    · rw [if_neg q2] at h0 ⊢
      by_cases q3 : (X.lay (Evt.encL (s.tail ++ [b])) s.segs c).1 ≠ 0
      · rw [if_pos q3] at h0
        exact absurd h0 q3
      · rw [if_neg q3]
        have q2 := Decidable.not_not.1 q2
        have q3 := Decidable.not_not.1 q3
        have hL : X.lay (Evt.encL (s.tail ++ [b])) s.segs c = (0, (X.lay (Evt.encL (s.tail ++ [b])) s.segs c).2) := by
          rw [← q3]
        refine ⟨BL ++ [s.tail ++ [b]], h.next q2 (encL_bytes q2) hL _ _ _, ?_, fun H hw => whole_next h hw hL _ _ _⟩
        show evsOf (BL ++ [s.tail ++ [b]]).flatten ++ [] = _
        rw [List.append_nil, List.flatten_append, evsOf_append, show [s.tail ++ [b]].flatten = s.tail ++ [b] by simp, ht, List.append_assoc]
/-- What a put that comes adds. -/
def adds (X : Six) (c : Cfg) (s : St) (d : Do) : List Ev := if d.kind = 1 ∧ (step X c s d).2.err = 0 ∧ d.bat.cmd ∉ s.seen then d.bat.evs else []
theorem put_inv {X : Six} {c : Cfg} {s : St} {BL : List (List Bat)} {had : List (Int × Int)} (h : Inv X c s BL had) (d : Do) :
    ∃ BL', Inv X c (put X c s d).1 BL' had ∧ evsOf BL'.flatten ++ evsOf (put X c s d).1.tail = evsOf BL.flatten ++ evsOf s.tail ++ (if (put X c s d).2.err = 0 ∧ d.bat.cmd ∉ s.seen then d.bat.evs else []) ∧ ∀ H, Whole X c s BL H → Whole X c (put X c s d).1 BL' H := by
  unfold put
  by_cases h1 : (Evt.wrongB d.bat).1 ≠ 0
  · rw [if_pos h1, if_neg (fun q => h1 q.1), List.append_nil]
    exact ⟨BL, h, rfl, fun _ hw => hw⟩
  rw [if_neg h1]
  by_cases h2 : d.bat.cmd ∈ s.seen
  · rw [if_pos h2, if_neg (fun q => q.2 h2), List.append_nil]
    exact ⟨BL, h, rfl, fun _ hw => hw⟩
  rw [if_neg h2]
  by_cases h3 : 0 ≤ d.ver ∧ d.ver ≠ (Vw.get s.acc d.name).cnt
  · rw [if_pos h3, if_neg (fun q => by have := q.1; cases this), List.append_nil]
    exact ⟨BL, h, rfl, fun _ hw => hw⟩
  rw [if_neg h3]
  by_cases h4 : (Vw.fold s.u s.acc d.bat.evs).1.1 ≠ 0
  · rw [if_pos h4, if_neg (fun q => h4 q.1), List.append_nil]
    exact ⟨BL, h, rfl, fun _ hw => hw⟩
  rw [if_neg h4]
  by_cases h5 : (laid X c s d.bat (Vw.fold s.u s.acc d.bat.evs).2).1 ≠ 0
  · rw [if_pos h5, if_neg (fun q => h5 q.1), List.append_nil]
    exact ⟨BL, h, rfl, fun _ hw => hw⟩
  rw [if_neg h5, if_pos ⟨rfl, h2⟩]
  exact laid_inv h (Decidable.not_not.1 h5)
theorem scrub_inv {X : Six} {c : Cfg} {s : St} {BL : List (List Bat)} {had : List (Int × Int)} (hg : Good X c) : ∀ (m k : Nat) (ds : List Disk) (e n : Nat), k + m = BL.length → Inv X c { s with disks := ds } BL had → Inv X c { s with disks := (scrub X c m k ds e n).1 } BL had
  | 0, _, _, _, _, _, h => h
  | m + 1, k, ds, e, n, he, h => by
    rw [scrub]
    by_cases q1 : X.bad (blocks ds k) k = []
    · rw [if_pos q1]
      exact scrub_inv hg m (k + 1) ds e n (by omega) h
    · rw [if_neg q1]
      by_cases q2 : (X.mend (blocks ds k) k c).1 ≠ 0
      · rw [if_pos q2]
        exact scrub_inv hg m (k + 1) ds _ n (by omega) h
      · rw [if_neg q2]
        have hk : k < BL.length := by omega
        obtain ⟨l, hl⟩ : ∃ l, BL[k]? = some l := ⟨BL[k], List.getElem?_eq_getElem hk⟩
        obtain ⟨L, hh⟩ := h.hurts hl
        have hh : Hurts X c (blocks ds k) (Evt.encL l) k L := hh
        have hm : X.mend (blocks ds k) k c = (0, L) := by
          by_cases q : (X.bad (blocks ds k) k).length ≤ c.s
          · exact (hg.kept hh q).2
          · exact absurd (Decidable.not_not.1 q2) (by rw [(hg.lost hh (by omega)).2]; decide)
        rw [hm]
        exact scrub_inv hg m (k + 1) _ e _ (by omega) (h.again hl hh.lay)
/-- The blocks of which a byte was turned. -/
def hadOf (d : Do) (had : List (Int × Int)) : List (Int × Int) := if d.kind = 7 ∧ d.turn ≠ 0 then (d.n, d.seg) :: had else had
theorem had_more (d : Do) (had : List (Int × Int)) : ∀ x, x ∈ had → x ∈ hadOf d had := fun x hx => by
  unfold hadOf
  split
  · exact List.mem_cons_of_mem _ hx
  · exact hx
theorem harm_inv {X : Six} {c : Cfg} {s : St} {BL : List (List Bat)} {had : List (Int × Int)} (h : Inv X c s BL had) (d : Do) (hb : d.turn < 256) (hk : d.kind = 5 ∨ d.kind = 6 ∨ d.kind = 7) (ho : d.kind = 7 ∧ d.turn ≠ 0 → (d.n, d.seg) ∉ had) : Inv X c (harm s d).1 BL (hadOf d had) := by
  have h' := h.more (had_more d had)
  unfold harm
  split
  · exact h'
  · rename_i x hx
    by_cases q0 : d.n < 0
    · rw [if_pos q0]
      exact h'
    rw [if_neg q0]
    by_cases q1 : d.kind = 5 ∧ x.gone = true
    · rw [if_pos q1]
      exact h'
    rw [if_neg q1]
    by_cases q2 : d.kind = 5 ∨ d.kind = 6
    · rw [if_pos q2]
      exact h'.disk _ _ ⟨List.Pairwise.nil, fun _ hh => (by cases hh), fun _ => rfl⟩ fun _ _ _ _ _ => Or.inl rfl
    rw [if_neg q2]
    have k7 : d.kind = 7 := by omega
    obtain ⟨u1, u2, u3⟩ := h.up _ x hx
    split
    · exact h'
    · rename_i y hy
      obtain ⟨y1, y2⟩ := find_pick u1 hy
      have ym := List.mem_of_find?_eq_some hy
      by_cases q3 : d.pos < 0 ∨ (y.2.length : Int) ≤ d.pos
      · rw [if_pos q3]
        exact h'
      rw [if_neg q3]
      refine h'.disk _ _ ⟨spoil_up u1, fun z hz => ?_, fun hgone => ?_⟩ fun k l L hl hL => ?_
      · have hz1 : z.1 ∈ (spoil d.seg d.pos.toNat d.turn x.bl).map (·.1) := List.mem_map_of_mem hz
        rw [spoil_keys] at hz1
        obtain ⟨w, hw, e⟩ := List.mem_map.1 hz1
        rw [← e]
        exact u2 w hw
      · have := u3 hgone
        rw [this] at ym
        cases ym
      · obtain ⟨_, _, L', h3, h4⟩ := h.ok k l hl
        rw [hL] at h3
        have h3 : L = L' := (Prod.mk.inj h3).2
        subst h3
        have hn : ((d.n.toNat : Nat) : Int) = d.n := by omega
        by_cases e : (k : Int) = d.seg
        · show pickB k (spoil d.seg d.pos.toNat d.turn x.bl) [] = [] ∨ pickB k (spoil d.seg d.pos.toNat d.turn x.bl) [] = _ ∨ _ ∧ Turned (pickB k (spoil d.seg d.pos.toNat d.turn x.bl) []) _
          rw [e, pick_spoil u1 ym y2]
          have hp := h4 _ x hx
          rw [e, y1] at hp
          by_cases t0 : d.turn = 0
          · have hs : y.2.set d.pos.toNat (y.2.getD d.pos.toNat 0 ^^^ d.turn) = y.2 := by
              rw [t0, Nat.xor_zero, List.getD_eq_getElem?_getD, List.getElem?_eq_getElem (by omega)]
              exact List.set_getElem_self _
            rw [hs]
            rcases hp with z | z | z
            · exact Or.inl z
            · exact Or.inr (Or.inl z)
            · exact Or.inr (Or.inr ⟨had_more d had _ z.1, z.2⟩)
          · have hno := ho ⟨k7, t0⟩
            rcases hp with z | z | z
            · rw [z] at q3
              exact absurd (show d.pos < 0 ∨ ((0 : Nat) : Int) ≤ d.pos by omega) q3
            · right
              right
              refine ⟨?_, d.pos.toNat, d.turn, by rw [← z]; omega, by omega, hb, by rw [← z]⟩
              unfold hadOf
              rw [if_pos ⟨k7, t0⟩, hn]
              exact List.mem_cons_self ..
            · rw [hn] at z
              exact absurd z.1 hno
        · show pickB k (spoil d.seg d.pos.toNat d.turn x.bl) [] = [] ∨ pickB k (spoil d.seg d.pos.toNat d.turn x.bl) [] = _ ∨ _ ∧ Turned (pickB k (spoil d.seg d.pos.toNat d.turn x.bl) []) _
          rw [pick_spared e]
          rcases h4 _ x hx with z | z | z
          · exact Or.inl z
          · exact Or.inr (Or.inl z)
          · exact Or.inr (Or.inr ⟨had_more d had _ z.1, z.2⟩)
/-- One thing more is done. -/
theorem step_inv {X : Six} {c : Cfg} {s : St} {BL : List (List Bat)} {had : List (Int × Int)} (hg : Good X c) (h : Inv X c s BL had) (d : Do) (hb : d.turn < 256) (ho : d.kind = 7 ∧ d.turn ≠ 0 → (d.n, d.seg) ∉ had) :
    ∃ BL', Inv X c (step X c s d).1 BL' (hadOf d had) ∧ evsOf BL'.flatten ++ evsOf (step X c s d).1.tail = evsOf BL.flatten ++ evsOf s.tail ++ adds X c s d ∧ (d.kind = 1 → ∀ H, Whole X c s BL H → Whole X c (step X c s d).1 BL' H) ∧ (d.kind ≠ 1 → BL' = BL) := by
  by_cases k1 : d.kind = 1
  · obtain ⟨BL', q1, q2, q3⟩ := put_inv h d
    refine ⟨BL', ?_, ?_, fun _ H hw => by rw [step_put k1]; exact q3 H hw, fun q => absurd k1 q⟩
    · rw [step_put k1]
      exact q1.more (had_more d had)
    · unfold adds
      rw [step_put k1, q2]
      congr 1
      by_cases q : (put X c s d).2.err = 0 ∧ d.bat.cmd ∉ s.seen
      · rw [if_pos q, if_pos ⟨k1, q.1, q.2⟩]
      · rw [if_neg q, if_neg (fun z => q ⟨z.2.1, z.2.2⟩)]
  · have ha : adds X c s d = [] := if_neg fun q => k1 q.1
    rw [ha, List.append_nil, (step_same k1).tail]
    refine ⟨BL, ?_, rfl, fun q => absurd q k1, fun _ => rfl⟩
    unfold step
    rw [if_neg k1]
    by_cases k2 : d.kind = 2 ∨ d.kind = 3 ∨ d.kind = 4
    · rw [if_pos k2]
      exact h.more (had_more d had)
    rw [if_neg k2]
    by_cases k3 : d.kind = 5 ∨ d.kind = 6 ∨ d.kind = 7
    · rw [if_pos k3]
      exact harm_inv h d hb k3 ho
    rw [if_neg k3]
    by_cases k4 : d.kind = 8
    · rw [if_pos k4]
      exact (scrub_inv hg s.segs 0 s.disks 0 0 (by rw [h.len]; omega) h).more (had_more d had)
    rw [if_neg k4]
    by_cases k5 : d.kind = 9
    · rw [if_pos k5]
      exact h.more (had_more d had)
    · rw [if_neg k5]
      exact h.more (had_more d had)

end Go.Proofs.YtmcaejooaaahdaaGreat.Sto

namespace Go.Proofs.YtmcaejooaaahdaaGreat.Sto
open Evt (Ev Bat)

/-- An answer is what is asked of all events. -/
def Answers (d : Do) (a : Ans) (l : List Ev) : Prop :=
  (d.kind = 3 → if d.n < 0 ∨ (l.length : Int) < d.n then a.err = 3 else a.err = 0 ∧ a.n = l.length ∧ a.evs = l.drop d.n.toNat) ∧
  (d.kind = 2 → if ¬ Evt.named d.name then a.err = 7 else a.err = 0 ∧ a.n = (l.filter fun e => decide (e.name = d.name)).length ∧ a.evs = l.filter fun e => decide (e.name = d.name)) ∧
  (d.kind = 4 → (Vw.fold 0 [] l).1.1 = 0 ∧ a.err = 0 ∧ a.n = l.length ∧ (a.vu, a.vl) = (Vw.fold 0 [] l).2)
theorem answers_else {d : Do} (h : ¬ (d.kind = 2 ∨ d.kind = 3 ∨ d.kind = 4)) (a : Ans) (l : List Ev) : Answers d a l :=
  ⟨fun q => absurd (Or.inr (Or.inl q)) h, fun q => absurd (Or.inl q) h, fun q => absurd (Or.inr (Or.inr q)) h⟩
theorem looks_ok {X : Six} {c : Cfg} {s : St} {d : Do} {es : List Ev} (h : all X c s = (0, es)) (hf : (Vw.fold 0 [] es).1.1 = 0) : Answers d (looks X c s d) es := by
  unfold looks
  rw [h, if_neg (fun q => q rfl)]
  dsimp only
  refine ⟨fun k => ?_, fun k => ?_, fun k => ?_⟩
  · rw [if_neg (show ¬ d.kind = 4 by omega), if_pos k]
    by_cases q : d.n < 0 ∨ (es.length : Int) < d.n
    · rw [if_pos q, if_pos q]
      rfl
    · rw [if_neg q, if_neg q]
      exact ⟨rfl, rfl, rfl⟩
  · rw [if_neg (show ¬ d.kind = 4 by omega), if_neg (show ¬ d.kind = 3 by omega)]
    by_cases q : ¬ Evt.named d.name
    · rw [if_pos q, if_pos q]
      rfl
    · rw [if_neg q, if_neg q]
      exact ⟨rfl, rfl, rfl⟩
  · rw [if_pos k]
    obtain ⟨_, k2, _⟩ := Vw.fold_keeps hf
    exact ⟨hf, hf, by show (Vw.fold 0 [] es).2.1 = _; rw [k2]; omega, rfl⟩
/-- The commands that were had, behind one thing more. -/
def cmds (d : Do) (a : Ans) (cm : List Int) : List Int := if d.kind = 1 ∧ a.err = 0 ∧ d.bat.cmd ∉ cm then d.bat.cmd :: cm else cm
theorem told_cons (d : Do) (a : Ans) (r : List (Do × Ans)) (cm : List Int) : toldOf ((d, a) :: r) cm = (if d.kind = 1 ∧ a.err = 0 ∧ d.bat.cmd ∉ cm then d.bat.evs else []) ++ toldOf r (cmds d a cm) := by
  rw [toldOf]
  unfold cmds
  by_cases q : d.kind = 1 ∧ a.err = 0 ∧ d.bat.cmd ∉ cm
  · rw [if_pos q, if_pos q, if_pos q]
  · rw [if_neg q, if_neg q, if_neg q]
    rfl
/-- The snapshot, and what was seen, agree with what was put in. -/
structure Agrees (s : St) (es : List Ev) (cm : List Int) : Prop where
  seen : ∀ x, x ∈ cm ↔ x ∈ s.seen
  ok : (Vw.fold 0 [] es).1.1 = 0
  snap : (Vw.fold 0 [] es).2 = (s.u, s.acc)
theorem step_agrees {X : Six} {c : Cfg} {s : St} {es : List Ev} {cm : List Int} (h : Agrees s es cm) (d : Do) : Agrees (step X c s d).1 (es ++ adds X c s d) (cmds d (step X c s d).2 cm) := by
  by_cases hk : d.kind = 1
  · unfold adds cmds
    rw [step_put hk]
    rcases put_ways X c s d with ⟨q1, q2⟩ | ⟨q1, _, q3⟩ | ⟨q0, q1, q2, q3, q4, q5, _⟩
    · rw [if_neg (fun q => q2 q.2.1), if_neg (fun q => q2 q.2.1), q1, List.append_nil]
      exact h
    · rw [if_neg (fun q => q.2.2 q3), if_neg (fun q => q.2.2 ((h.seen _).2 q3)), q1, List.append_nil]
      exact h
    · have he : (put X c s d).2.err = 0 := by rw [q2]; rfl
      rw [if_pos ⟨hk, he, q0⟩, if_pos ⟨hk, he, fun q => q0 ((h.seen _).1 q)⟩]
      have hf := fold_more (a := es) (b := d.bat.evs) h.ok (by rw [h.snap]; exact q1)
      rw [h.snap] at hf
      refine ⟨fun x => ?_, hf.1, by rw [hf.2, q3, q4]⟩
      rw [q5, List.mem_cons, h.seen]
      exact ⟨fun q => mem_seen (q.symm), fun q => (seen_mem q).symm⟩
  · unfold adds cmds
    rw [if_neg (fun q => hk q.1), if_neg (fun q => hk q.1), List.append_nil]
    have hs := step_same (X := X) (c := c) (s := s) hk
    exact ⟨fun x => by rw [hs.seen]; exact h.seen x, h.ok, by rw [h.snap, hs.u, hs.acc]⟩
theorem adds_told {X : Six} {c : Cfg} {s : St} {es : List Ev} {cm : List Int} (h : Agrees s es cm) (d : Do) : (if d.kind = 1 ∧ (step X c s d).2.err = 0 ∧ d.bat.cmd ∉ cm then d.bat.evs else []) = adds X c s d := by
  unfold adds
  by_cases q : d.kind = 1 ∧ (step X c s d).2.err = 0 ∧ d.bat.cmd ∉ cm
  · rw [if_pos q, if_pos ⟨q.1, q.2.1, fun z => q.2.2 ((h.seen _).2 z)⟩]
  · rw [if_neg q, if_neg (fun z => q ⟨z.1, z.2.1, fun y => z.2.2 ((h.seen _).1 y)⟩)]
end Go.Proofs.YtmcaejooaaahdaaGreat.Sto
