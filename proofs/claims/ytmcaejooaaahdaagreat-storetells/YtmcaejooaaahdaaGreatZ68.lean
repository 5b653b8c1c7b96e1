/-
  Texts of the proof, joined: VRefF.
-/
import Derived.Test.YtmcaejooaaahdaaGreatZ67
import Derived.Test.YtmcaejooaaahdaaGreatZ33
import Derived.BigQuiet
namespace Go.Proofs.YtmcaejooaaahdaaGreat
open Go.RowKit

/-- What is told of a view and events. -/
def FoR (e : Ending) (w' : World) (N : Nat) (vs : Value) (l : List Vw.Acc) (r : (Nat × Nat) × Int × List Vw.Acc) : Prop := ∃ v, e = .returned (.tuple #[.agg #[.int .i64 r.2.1, v], faultV r.1]) ∧ Accs w' v r.2.2 ∧ (Past N v ∨ (v = vs ∧ r.2.2 = l))
theorem foR_bad (w' : World) (N : Nat) (vs : Value) (l : List Vw.Acc) (x y : Nat) : FoR (.returned (.tuple #[.agg #[.int .i64 0, .slice none 0 0], .agg #[.int .i64 (x : Nat), .int .i64 (y : Nat)]])) w' N vs l ((x, y), 0, []) := ⟨_, rfl, Accs.nil w', Or.inl (past_nil N)⟩
/-- A list that lies in none of the call's own variables. -/
def Far (N : Nat) (v : Value) (l : List Vw.Acc) : Prop := l ≠ [] → ∀ g, v.ownBlock = some g → g < N ∨ N + 1 + 1 < g
theorem Past.far {N : Nat} {v : Value} (h : Past (N + 1 + 1 + 1) v) (l : List Vw.Acc) : Far N v l := fun _ g hg => Or.inr (h g hg)
theorem far_of {w : World} {v : Value} {l : List Vw.Acc} (h : Accs w v l) : Far w.heap.size v l := fun hl g hg => by
  obtain ⟨b, o, cap, rfl, _, _, h3⟩ := h.some (List.length_pos_iff.2 hl)
  obtain ⟨s, _, _, c0, _⟩ := h3 0 _ (List.getElem?_eq_getElem (List.length_pos_iff.2 hl))
  have hp : b < w.heap.size := World.block_lt_of_cell? _ _ c0
  have e : some b = some g := hg
  cases e
  exact Or.inl hp
theorem Accs.far {S : Nat → Prop} {w w' : World} {N : Nat} {v : Value} {l : List Vw.Acc} (h : Accs w v l) (hf : Far N v l) (ho : Off S w w') (hS : ∀ j, S j → N ≤ j ∧ j ≤ N + 1 + 1) : Accs w' v l := by
  by_cases hl : l = []
  · subst hl
    obtain ⟨A, cap, hv, h1, h2, _⟩ := h
    exact ⟨A, cap, hv, h1, h2, fun _ _ he => (by cases he)⟩
  · exact h.off ho (fun g hg q => by
      have := hS g q
      have := hf hl g hg
      omega)
theorem FS.put' {w wr : World} {u u' : Int} {v v' : Value} {l l' : List Vw.Acc} (h : FS w wr u v l) (ha : Accs wr v' l') (hp : Far w.heap.size v' l') : FS w ((wr.setCell ⟨w.heap.size, 0, none⟩ (.int .i64 u')).setCell ⟨w.heap.size, 1, none⟩ v') u' v' l' := by
  have ho := off_two wr w.heap.size (.int .i64 u') v'
  exact ⟨h.vv.set2 _ _, h.vr.off ho (by omega), h.vf.off ho (by omega), ha.far hp ho (fun j hj => by omega), (h.bel.setCell (Nat.le_refl _) _).setCell (Nat.le_refl _) _⟩
theorem FS.told' {w wr : World} {u : Int} {v : Value} {l : List Vw.Acc} (h : FS w wr u v l) (hp : Far w.heap.size v l) (a b c d : Value) : Accs ((((wr.setCell ⟨w.heap.size + 1, 0, none⟩ a).setCell ⟨w.heap.size + 1, 1, none⟩ b).setCell ⟨w.heap.size + 1 + 1, 0, none⟩ c).setCell ⟨w.heap.size + 1 + 1, 1, none⟩ d) v l :=
  (h.ac.far hp (off_two wr (w.heap.size + 1) a b) (fun j hj => by omega)).far hp (off_two _ (w.heap.size + 1 + 1) c d) (fun j hj => by omega)

set_option maxHeartbeats 2000000 in
set_option maxRecDepth 100000 in
theorem refFold_any (u : Int) (vs ve : Value) (l : List Vw.Acc) (es : List Evt.Ev) (w : World) (h : Accs w vs l) (he : Evs w ve es) :
    Calls Tryz.prog 34 #[.agg #[.int .i64 u, vs], ve] w fun e w' => FoR e w' w.heap.size vs l (Vw.fold u l es) ∧ Below w.heap.size w w' := by
  obtain ⟨A, C, rfl⟩ := h.shape
  have hel : es.length ≤ 9223372036854775807 := by
    obtain ⟨_, _, _, q1, q2, _⟩ := he
    unfold maxLen at q2
    omega
  obtain ⟨E, D, rfl, _, _, hE⟩ := he
  have HA : Hid (∀ w', Below w.heap.size w w' → Accs w' (.slice A l.length C) l) := fun w' hb => h.below hb
  have F0 : Far w.heap.size (.slice A l.length C) l := far_of h
  have HEV : Hid (∀ i e, es[i]? = some e → ∃ b o, E = some ⟨b, o, none⟩ ∧ EvIn w b (o + i * 3) e) := hE
  clear h hE
  have h1 : Below w.heap.size w (w.alloc (.cells #[.int .i64 u, .slice A l.length C] 30)) := (Below.refl _ _).alloc (Nat.le_refl _) _
  have h2 := h1.alloc h1.size (.cells #[.int .i64 0, .slice none 0 0] 30)
  have h3 := h2.alloc h2.size (.cells #[.int .i64 0, .int .i64 0] 78)
  have hb2 : Below (w.alloc (.cells #[.int .i64 u, .slice A l.length C] 30)).heap.size (w.alloc (.cells #[.int .i64 u, .slice A l.length C] 30)) ((w.alloc (.cells #[.int .i64 u, .slice A l.length C] 30)).alloc (.cells #[.int .i64 0, .slice none 0 0] 30)) := (Below.refl _ _).alloc (Nat.le_refl _) _
  have hb3 : Below ((w.alloc (.cells #[.int .i64 u, .slice A l.length C] 30)).alloc (.cells #[.int .i64 0, .slice none 0 0] 30)).heap.size ((w.alloc (.cells #[.int .i64 u, .slice A l.length C] 30)).alloc (.cells #[.int .i64 0, .slice none 0 0] 30)) (((w.alloc (.cells #[.int .i64 u, .slice A l.length C] 30)).alloc (.cells #[.int .i64 0, .slice none 0 0] 30)).alloc (.cells #[.int .i64 0, .int .i64 0] 78)) := (Below.refl _ _).alloc (Nat.le_refl _) _
  have VV := ((varF_new w 30 (.int .i64 u) (.slice A l.length C)).below hb2).below hb3
  have VR := (varF_new (w.alloc (.cells #[.int .i64 u, .slice A l.length C] 30)) 30 (.int .i64 0) (.slice none 0 0)).below hb3
  have VF := varF_new ((w.alloc (.cells #[.int .i64 u, .slice A l.length C] 30)).alloc (.cells #[.int .i64 0, .slice none 0 0] 30)) 78 (.int .i64 0) (.int .i64 0)
  have z1 : (w.alloc (.cells #[.int .i64 u, .slice A l.length C] 30)).heap.size = w.heap.size + 1 := by simp
  have z2 : ((w.alloc (.cells #[.int .i64 u, .slice A l.length C] 30)).alloc (.cells #[.int .i64 0, .slice none 0 0] 30)).heap.size = w.heap.size + 1 + 1 := by simp
  rw [z1] at VR
  rw [z2] at VF
  clear z1 z2 hb2 hb3 h1 h2
  have HW := fun w' (hb : Below w.heap.size w w') => refWrongV_any u (.slice A l.length C) l w' (HA.out w' hb)
  obtain ⟨x, hx⟩ : ∃ x, (Vw.wrongV u l).1 = x := ⟨_, rfl⟩
  obtain ⟨y, hy⟩ : ∃ y, (Vw.wrongV u l).2 = y := ⟨_, rfl⟩
  have HX : Hid ((Vw.wrongV u l).1 = x) := hx
  unfold faultV at HW
  rw [hx, hy] at HW
  clear hx hy
  go_enter Tryz.func34, Tryz.ntmps34
  go_wp2_with fail
  generalize ((w.alloc (.cells #[.int .i64 u, .slice A l.length C] 30)).alloc (.cells #[.int .i64 0, .slice none 0 0] 30)).alloc (.cells #[.int .i64 0, .int .i64 0] 78) = W0 at h3 VV VR VF ⊢
  refine (HW _ h3).mono ?_
  rintro e w1 ⟨rfl, b1⟩
  have bF : Below w1.heap.size w1 (w1.alloc (.cells #[.int .i64 (x : Nat), .int .i64 (y : Nat)] 78)) := (Below.refl _ _).alloc (Nat.le_refl _) _
  have VX := varF_new w1 78 (.int .i64 (x : Nat)) (.int .i64 (y : Nat))
  have VV := (VV.below b1).below bF
  have VR1 := VR.below b1
  have VR := VR1.below bF
  have VF1 := VF.below b1
  have VF := VF1.below bF
  have hn1 : w.heap.size + 1 < w1.heap.size := World.block_lt_of_cell? _ _ VR1.c0
  have hn2 : w.heap.size + 1 + 1 < w1.heap.size := World.block_lt_of_cell? _ _ VF1.c0
  have h4 := bt (bt h3 b1) bF
  clear HW VR1 VF1 h3 b1
  by_cases hx0 : x = 0
  case neg =>
    have HF : Hid (Vw.fold u l es = ((x, 0), 0, [])) := by
      show _ = _
      rw [Vw.fold_bad (by rw [HX.out]; exact hx0), HX.out]
    have hxe : ((x : Int) != 0) = true := by rw [bne_iff_ne]; omega
    clear hx0
    go_wp2_with fail
    generalize w1.alloc (.cells #[.int .i64 (x : Nat), .int .i64 (y : Nat)] 78) = w2 at VV VR VF VX h4 ⊢
    obtain ⟨c0, _, _⟩ := VX
    obtain ⟨r0, r1, fr⟩ := VR
    obtain ⟨q0, q1, fq⟩ := VF
    have f0 := fr 0
    have f1 := fr 1
    have f2 := fq 0
    have f3 := fq 1
    have hne : w1.heap.size ≠ w.heap.size + 1 + 1 := by omega
    have hne2 : w.heap.size + 1 + 1 ≠ w1.heap.size := by omega
    have hne3 : w1.heap.size ≠ w.heap.size + 1 := by omega
    have hne4 : w.heap.size + 1 ≠ w1.heap.size := by omega
    clear bF hn1 hn2 VV fr fq
    go_region
    go_wp2_with fail
    refine bodyPost_ret (v := .tuple #[.agg #[.int .i64 0, .slice none 0 0], .agg #[.int .i64 (x : Nat), .int .i64 0]]) (by simp [results, Tryz.results34, go_sem, r0, r1, q0, q1]) rfl ⟨by rw [HF.out]; exact foR_bad _ _ _ _ x 0, ?_⟩
    exact ((((h4.setCell (by show w.heap.size ≤ w.heap.size + 1; omega) _).setCell (by show w.heap.size ≤ w.heap.size + 1; omega) _).setCell (by show w.heap.size ≤ w.heap.size + 1 + 1; omega) _).setCell (by show w.heap.size ≤ w.heap.size + 1 + 1; omega) _).drew
  have HX : Hid ((Vw.wrongV u l).1 = 0) := HX.out.trans hx0
  subst hx0
  have HF0 : Hid (Vw.fold u l es = Vw.foldL u l 0 es) := Vw.fold_else HX.out
  have h4 : Below w.heap.size w (w1.alloc (.cells #[.int .i64 0, .int .i64 (y : Nat)] 78)) := h4
  have S3 : FS w (w1.alloc (.cells #[.int .i64 0, .int .i64 (y : Nat)] 78)) u (.slice A l.length C) l := ⟨VV, VR, VF, HA.out _ h4, h4⟩
  clear VX bF hn1 hn2 VV VR VF h4
  go_wp2_with fail
  generalize w1.alloc (.cells #[.int .i64 0, .int .i64 (y : Nat)] 78) = w2 at S3 ⊢
  go_loopw [22] (fun x wr => ∃ (k : Nat) (uk : Int) (vk : Value) (lk : List Vw.Acc), k ≤ es.length ∧ x = .int .i64 k ∧ FS w wr uk vk lk ∧ (Far w.heap.size vk lk ∧ Hid (Past w.heap.size vk ∨ (vk = .slice A l.length C ∧ lk = l))) ∧ Hid (Vw.fold u l es = Vw.foldL uk lk k (es.drop k))) (fun x _ => es.length - (intOf x).toNat)
  case atStart => exact ⟨0, u, _, l, Nat.zero_le _, rfl, S3, ⟨F0, Or.inr ⟨rfl, rfl⟩⟩, HF0.out⟩
  case round =>
    obtain ⟨k, uk, vk, lk, hk, rfl, SK, ⟨PK, PV⟩, HK⟩ := hrel
    clear S3 F0
    obtain ⟨Ak, Ck, rfl⟩ := SK.ac.shape
    by_cases hlt : k < es.length
    · have hlt' : (k : Int) < (es.length : Int) := by omega
      obtain ⟨ev, hev⟩ : ∃ ev, es[k]? = some ev := ⟨es[k], List.getElem?_eq_getElem hlt⟩
      obtain ⟨b, o, rfl, hin⟩ := HEV.out k ev hev
      obtain ⟨s, hs1, hs2, d0, d1, d2⟩ := hin.below SK.bel
      have HD : Hid (es.drop k = ev :: es.drop (k + 1)) := evs_drop hev
      obtain ⟨wo, rfl⟩ : ∃ y, y = wr := ⟨wr, rfl⟩
      have bA : Below wo.heap.size wo (wo.alloc (.cells #[.string s, .int .i64 ev.kind, .int .i64 ev.num] 83)) := (Below.refl _ _).alloc (Nat.le_refl _) _
      have SA := SK.below bA
      have VE := varE_new wo (.string s) (.int .i64 ev.kind) (.int .i64 ev.num)
      have HAP := refApply_any uk (.slice Ak lk.length Ck) lk s ev.kind ev.num _ SA.ac hs1
      rw [hs2] at HAP
      have hroom := SK.room
      have hevE : (⟨ev.name, ev.kind, ev.num⟩ : Evt.Ev) = ev := rfl
      rw [hevE] at HAP
      clear hev hs2 hin SK hevE
      have v0 := SA.vv.c0
      have v1 := SA.vv.c1
      obtain ⟨g0, g1, g2⟩ := VE
      go_wp2_with fail
      refine HAP.mono ?_
      rintro e w4 ⟨⟨v4, rfl, A4, P4⟩, b4⟩
      have S4 := SA.below b4
      have P4 : Past (w.heap.size + 1 + 1 + 1) v4 := P4.mono (by have := bA.size; omega)
      have HN : Hid (Vw.fold u l es = if (Vw.apply uk lk ev).1 = 0 then Vw.foldL (Vw.apply uk lk ev).2.1 (Vw.apply uk lk ev).2.2 (k + 1) (es.drop (k + 1)) else (((Vw.apply uk lk ev).1, k), 0, [])) := by
        show _ = _
        rw [HK.out, HD.out, Vw.foldL]
      obtain ⟨Q4, C4, rfl⟩ := A4.shape
      generalize (Vw.apply uk lk ev).2.1 = u' at HN
      generalize (Vw.apply uk lk ev).2.2 = l' at HN A4 P4
      generalize (Vw.apply uk lk ev).1 = x' at HN
      clear HAP SA v0 v1 g0 g1 g2 b4 bA d0 d1 d2
      have bV : Below w4.heap.size w4 (w4.alloc (.cells #[.int .i64 u', .slice Q4 l'.length C4] 30)) := (Below.refl _ _).alloc (Nat.le_refl _) _
      have S5 := S4.below bV
      have A5 := A4.below bV
      have VN := varF_new w4 30 (.int .i64 u') (.slice Q4 l'.length C4)
      have h54 := S4.room
      clear S4 A4
      by_cases hx0 : x' = 0
      · have HN : Hid (Vw.fold u l es = Vw.foldL u' l' (k + 1) (es.drop (k + 1))) := by
          show _ = _
          rw [HN.out, if_pos hx0]
        have hxe : ((x' : Int) != 0) = false := by rw [bne_eq_false_iff_eq]; omega
        have HS6 : Hid (FS w (((w4.alloc (.cells #[.int .i64 u', .slice Q4 l'.length C4] 30)).setCell ⟨w.heap.size, 0, none⟩ (.int .i64 u')).setCell ⟨w.heap.size, 1, none⟩ (.slice Q4 l'.length C4)) u' (.slice Q4 l'.length C4) l') := S5.put' A5 (P4.far _)
        obtain ⟨c0, c1, fr⟩ := S5.vv
        have f0 := fr 0
        have f1 := fr 1
        obtain ⟨n0, n1, _⟩ := VN
        clear S5 A5 hx0
        go_wp2_with fail
        exact ⟨⟨k + 1, u', _, l', by omega, by go_num, HS6.out, ⟨P4.far _, Or.inl (P4.mono (by omega))⟩, HN.out⟩, by simp [intOf]; omega⟩
      · have HN : Hid (Vw.fold u l es = ((x', k), 0, [])) := by
          show _ = _
          rw [HN.out, if_neg hx0]
        have hxe : ((x' : Int) != 0) = true := by rw [bne_iff_ne]; omega
        have bb := S5.bel
        obtain ⟨c0, c1, fr⟩ := S5.vr
        have f0 := fr 0
        have f1 := fr 1
        obtain ⟨q0, q1, fq⟩ := S5.vf
        have f2 := fq 0
        have f3 := fq 1
        clear S5 A5 hx0 VN
        go_wp2_with fail
        refine bodyPost_ret (v := .tuple #[.agg #[.int .i64 0, .slice none 0 0], .agg #[.int .i64 (x' : Nat), .int .i64 (k : Nat)]]) (by simp [results, Tryz.results34, go_sem, c0, c1, q0, q1]) rfl ⟨by rw [HN.out]; exact foR_bad _ _ _ _ x' k, ?_⟩
        exact below_four bb _ _ _ _
    · obtain rfl : k = es.length := by omega
      have HN : Hid (Vw.fold u l es = ((0, 0), uk, lk)) := by
        show _ = _
        rw [HK.out, List.drop_length]
        rfl
      have HT := SK.told' PK (.int .i64 uk) (.slice Ak lk.length Ck) (.int .i64 0) (.int .i64 0)
      have HT : Hid (Accs ((((wr.setCell ⟨w.heap.size + 1, 0, none⟩ (.int .i64 uk)).setCell ⟨w.heap.size + 1, 1, none⟩ (.slice Ak lk.length Ck)).setCell ⟨w.heap.size + 1 + 1, 0, none⟩ (.int .i64 0)).setCell ⟨w.heap.size + 1 + 1, 1, none⟩ (.int .i64 0)) (.slice Ak lk.length Ck) lk) := HT
      have bb := SK.bel
      have v0 := SK.vv.c0
      have v1 := SK.vv.c1
      obtain ⟨c0, c1, fr⟩ := SK.vr
      have f0 := fr 0
      have f1 := fr 1
      obtain ⟨q0, q1, fq⟩ := SK.vf
      have f2 := fq 0
      have f3 := fq 1
      clear SK
      go_wp2_with fail
      refine bodyPost_ret (v := .tuple #[.agg #[.int .i64 uk, .slice Ak lk.length Ck], .agg #[.int .i64 0, .int .i64 0]]) (by simp [results, Tryz.results34, go_sem, c0, c1, q0, q1]) rfl ⟨by rw [HN.out]; exact ⟨_, rfl, HT.out, PV.out⟩, ?_⟩
      exact below_four bb _ _ _ _

end Go.Proofs.YtmcaejooaaahdaaGreat
