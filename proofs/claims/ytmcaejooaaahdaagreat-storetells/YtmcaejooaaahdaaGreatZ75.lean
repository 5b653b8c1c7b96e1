/-
  Texts of the proof, joined: JStepU.
-/
import Derived.Test.YtmcaejooaaahdaaGreatZ69
import Derived.Test.YtmcaejooaaahdaaGreatZ46
namespace Go.Proofs.YtmcaejooaaahdaaGreat
open Go.RowKit

section
variable {X : Sto.Six} {c : Sto.Cfg} {s : Sto.St} {d : Sto.Do} {T : Nat → Bool} {w : World} {Ad At As Aa Ae : Option Addr} {nd Cd nt Ct ns Cs na Ca ne Ce : Nat} {t : ByteArray}
/-- What a scrub's variables hold. -/
structure ScW (w wr : World) (S : Nat → Bool) (QT D : Nat) (tl stl dcl : List Value) (E nn : Nat) (ds : List Sto.Disk) : Prop where
  pj : PJ w wr stl dcl
  vt : VarN wr QT 32 tl
  va : VarN wr (QT + 1) 42 [.int .i64 (E : Nat), .int .i64 (nn : Nat), .slice none 0 0, .int .i64 0, .slice none 0 0]
  dk : ∃ V, DkJ wr S D V ds
  sq : S (QT + 1) = true
  qd : QT + 1 ≠ D
  qt : QT ≠ D
  lo : w.heap.size + 1 + 1 + 1 < QT
  ld : w.heap.size + 1 + 1 + 1 < D
  low : ∀ k, S k = true → k < wr.heap.size
section
variable {w wr wr' : World} {S : Nat → Bool} {QT D : Nat} {tl stl dcl : List Value} {E nn : Nat} {ds : List Sto.Disk}
theorem ScW.below (h : ScW w wr S QT D tl stl dcl E nn ds) (hb : Below wr.heap.size wr wr') : ScW w wr' S QT D tl stl dcl E nn ds := by
  obtain ⟨V, hV⟩ := h.dk
  exact ⟨h.pj.below hb, h.vt.below hb, h.va.below hb, ⟨V, hV.off hb⟩, h.sq, h.qd, h.qt, h.lo, h.ld, fun k z => Nat.lt_of_lt_of_le (h.low k z) hb.size⟩
theorem ScW.ans (h : ScW w wr S QT D tl stl dcl E nn ds) (ho : Off (fun q => q = QT + 1) wr wr') {E' nn' : Nat} (hv : VarN wr' (QT + 1) 42 [.int .i64 (E' : Nat), .int .i64 (nn' : Nat), .slice none 0 0, .int .i64 0, .slice none 0 0]) : ScW w wr' S QT D tl stl dcl E' nn' ds := by
  obtain ⟨V, hV⟩ := h.dk
  have hlo := h.lo
  exact ⟨h.pj.off ho (fun k z => by have z : k = QT + 1 := z; omega), h.vt.off ho (fun z => by have z : QT = QT + 1 := z; omega), hv, ⟨V, hV.offS ho fun k z => by
    have z : k = QT + 1 := z
    rw [z]
    exact ⟨h.sq, h.qd⟩⟩, h.sq, h.qd, h.qt, h.lo, h.ld, fun k z => Nat.lt_of_lt_of_le (h.low k z) ho.size⟩
theorem ScW.err (h : ScW w wr S QT D tl stl dcl E nn ds) (x : Nat) : ScW w (wr.setCell ⟨QT + 1, 0, none⟩ (.int .i64 (x : Nat))) S QT D tl stl dcl x nn ds := h.ans (off_set wr ⟨QT + 1, 0, none⟩ _) (h.va.set 0 _ (Nat.succ_pos _))
theorem ScW.num (h : ScW w wr S QT D tl stl dcl E nn ds) (x : Nat) : ScW w (wr.setCell ⟨QT + 1, 1, none⟩ (.int .i64 (x : Nat))) S QT D tl stl dcl E x ds := h.ans (off_set wr ⟨QT + 1, 1, none⟩ _) (h.va.set 1 _ (Nat.succ_lt_succ (Nat.succ_pos _)))
theorem ScW.wrote (h : ScW w wr S QT D tl stl dcl E nn ds) (ho : Off (fun q => q = D) wr wr') {V : Nat → Value} {ds' : List Sto.Disk} (hV : DkJ wr' S D V ds') : ScW w wr' S QT D tl stl dcl E nn ds' := by
  have hld := h.ld
  exact ⟨h.pj.off ho (fun k z => by have z : k = D := z; omega), h.vt.off ho (fun z => h.qt z), h.va.off ho (fun z => h.qd z), ⟨V, hV⟩, h.sq, h.qd, h.qt, h.lo, h.ld, fun k z => Nat.lt_of_lt_of_le (h.low k z) ho.size⟩
end
/-- What Mend tells, in blocks from M on. -/
def MdO (w : World) (M : Nat) (v : Value) (x : Nat) (L : List (List Nat)) : Prop := (x = 0 ∧ BlM w M v L) ∨ (x ≠ 0 ∧ v = .slice none 0 0)
/-- The blocks of T, both results, and a scrub's own. -/
def scrT (T : Nat → Bool) (N D Q : Nat) : Nat → Bool := fun k => T k || (decide (k = N + 1 + 1) || (decide (k = N + 1 + 1 + 1) || (decide (k = D) || (decide (k = Q) || decide (k = Q + 1)))))
theorem scrT_iff {T : Nat → Bool} {N D Q k : Nat} : scrT T N D Q k = true ↔ T k = true ∨ k = N + 1 + 1 ∨ k = N + 1 + 1 + 1 ∨ k = D ∨ k = Q ∨ k = Q + 1 := by
  unfold scrT
  simp
theorem si_bl {c : Sto.Cfg} {m : Nat} {ds : List Sto.Disk} (h : Sto.SI c m ds) (hm : m ≤ 40) (i : Nat) (d : Sto.Disk) (hd : ds[i]? = some d) : d.bl.length ≤ 100 := by
  obtain ⟨q1, q2, _⟩ := h.up i d hd
  have := upI_len (a := 0) (m := (m : Int)) (Sto.up_iff.1 q1) (fun x hx => by
    obtain ⟨y, hy, rfl⟩ := List.mem_map.1 hx
    exact q2 y hy) (by omega)
  rw [List.length_map] at this
  omega
section
variable {X : Sto.Six} {c : Sto.Cfg} {s : Sto.St} {d : Sto.Do} {T : Nat → Bool} {w : World} {Ad At As Aa Ae : Option Addr} {nd Cd nt Ct ns Cs na Ca ne Ce : Nat} {t : ByteArray}
/-- The store has other disks, that were written. -/
theorem SJ.disksJ (H : SJ X c s d T w Ad nd Cd At nt Ct As ns Cs Aa na Ca Ae ne Ce t) {w2 wE : World} {D n C Q : Nat} {V : Nat → Value} {ds : List Sto.Disk} (hb : Below w.heap.size w w2) (hd : DkJ w2 (scrT T w.heap.size D Q) D V ds) (ho : Off (fun q => q = w.heap.size + 1 + 1 ∨ q = w.heap.size + 1 + 1 + 1) w2 wE) (hD : w.heap.size + 1 + 1 + 1 < D) (hn : n = ds.length) (h1 : n ≤ C) (h2 : C ≤ maxLen) (E : Nat) (m : Int) : StepO (.returned (.tuple #[stA (c.d : Int) (c.s : Int) (c.b : Int) (.slice (some ⟨D, 0, none⟩) n C) (s.segs : Int) (.slice At nt Ct) (.slice As ns Cs) s.u (.slice Aa na Ca), .agg #[.int .i64 (E : Nat), .int .i64 m, .slice none 0 0, .int .i64 0, .slice none 0 0]])) T w wE c ({ s with disks := ds }, ⟨E, m, [], 0, []⟩) := by
  have hbE : Below w.heap.size w wE := hb.trans (ho.below hb.size fun q hq => by omega)
  have hs : CSub (blank T w) (blank T wE) := blank_below hbE
  have o3 : Off (fun q => (q = w.heap.size + 1 + 1 ∨ q = w.heap.size + 1 + 1 + 1) ∨ T q = true) w2 (blank T wE) := (ho.wider fun _ z => Or.inl z).trans ((off_blank T wE).wider fun _ z => Or.inr z)
  subst hn
  exact ⟨_, _, _, _, _, _, rfl, ⟨(hd.offS o3 (fun q hq => by
    rcases hq with (z | z) | z
    · exact ⟨scrT_iff.2 (Or.inr (Or.inl z)), by omega⟩
    · exact ⟨scrT_iff.2 (Or.inr (Or.inr (Or.inl z))), by omega⟩
    · have := H.low q z
      exact ⟨scrT_iff.2 (Or.inl z), by omega⟩)).dks h1 h2, H.st0.tl.sub hs, H.st0.sn.sub hs, H.st0.ac.sub hs⟩, evs_none8 _, Accs.nil _, H.pv, hbE⟩
end
set_option maxHeartbeats 8000000 in
set_option maxRecDepth 100000 in
theorem refStep_scrub (H : SJ X c s d T w Ad nd Cd At nt Ct As ns Cs Aa na Ca Ae ne Ce t) (hk : d.kind = 8) :
    Calls Tryz.prog 11 #[.agg #[.int .i64 (c.d : Int), .int .i64 (c.s : Int), .int .i64 (c.b : Int), .slice Ad nd Cd, .int .i64 (s.segs : Int), .slice At nt Ct, .slice As ns Cs, .int .i64 s.u, .slice Aa na Ca], .agg #[.int .i64 8, .int .i64 d.n, .int .i64 d.seg, .int .i64 d.pos, .int .u8 (d.turn : Int), .int .i64 d.bat.cmd, .slice Ae ne Ce, .string t, .int .i64 d.ver]] w fun e w' => StepO e T w w' c (Sto.step X c s d) := by
  have HJ : Hid (SJ X c s d T w Ad nd Cd At nt Ct As ns Cs Aa na Ca Ae ne Ce t) := H
  obtain ⟨r, hr⟩ : ∃ r, r = Sto.step X c s d := ⟨_, rfl⟩
  have HRR : Hid (Sto.step X c s d = r) := hr.symm
  rw [← hr]
  obtain ⟨w1, hw1, PJ0⟩ := pj_ex w #[.int .i64 (c.d : Int), .int .i64 (c.s : Int), .int .i64 (c.b : Int), .slice Ad nd Cd, .int .i64 (s.segs : Int), .slice At nt Ct, .slice As ns Cs, .int .i64 s.u, .slice Aa na Ca] #[.int .i64 8, .int .i64 d.n, .int .i64 d.seg, .int .i64 d.pos, .int .u8 (d.turn : Int), .int .i64 d.bat.cmd, .slice Ae ne Ce, .string t, .int .i64 d.ver]
  have eg := Tryz.enters_noS
  clear H hr
  go_enter Tryz.func11, Tryz.ntmps11
  go_upto_region 1 with fail
  rw [← hw1]
  clear hw1
  have HP1 : Hid (PJ w w1 (stL c (.slice Ad nd Cd) (s.segs : Int) (.slice At nt Ct) (.slice As ns Cs) s.u (.slice Aa na Ca)) (doL 8 d (.slice Ae ne Ce) t)) := PJ0
  have d0 := PJ0.dc.cell (i := 0) rfl
  clear PJ0
  have hnd : nd = s.disks.length := by
    obtain ⟨A, C, q, _⟩ := HJ.out.st.dk
    cases q
    rfl
  have HND : Hid (nd = s.disks.length) := hnd
  have hn12 : nd ≤ 12 := by
    rw [hnd]
    exact HJ.out.wf.n12
  have hsg : s.segs ≤ 40 := HJ.out.wf.segs
  have HST : Hid (Sto.step X c s d = ({ s with disks := (Sto.scrub X c s.segs 0 s.disks 0 0).1 }, ⟨(Sto.scrub X c s.segs 0 s.disks 0 0).2.1, (Sto.scrub X c s.segs 0 s.disks 0 0).2.2, [], 0, []⟩)) := step_scrub hk
  have HOW := refOwn_any (c.d : Int) (c.s : Int) (c.b : Int) (s.segs : Int) s.u (.slice Ad nd Cd) (.slice At nt Ct) (.slice As ns Cs) (.slice Aa na Ca) s.disks w1 (HJ.out.st.dk.below HP1.out.bel) HJ.out.wf.n1 HJ.out.wf.n12 (fun i d hd => HJ.out.wf.bl hd) HJ.out.wf.len ⟨_, _, _, rfl⟩ ⟨_, _, _, rfl⟩ ⟨_, _, _, rfl⟩
  obtain ⟨a0, a1, a2, a3, a4, a5, a6, a7, a8⟩ := HP1.out.st.c9
  clear hnd hk
  go_wp2_with fail
  refine HOW.mono ?_
  rintro e w9 ⟨D, C, V0, U, rfl, hC1, hC2, hDk, b9⟩
  rw [← HND.out] at hC1 ⊢
  have bT : Below w9.heap.size w9 (w9.alloc (.cells #[.int .i64 (c.d : Int), .int .i64 (c.s : Int), .int .i64 (c.b : Int), .slice (some ⟨D, 0, none⟩) nd C, .int .i64 (s.segs : Int), .slice At nt Ct, .slice As ns Cs, .int .i64 s.u, .slice Aa na Ca] 32)) := (Below.refl _ _).alloc (Nat.le_refl _) _
  have bU : Below (w9.alloc (.cells #[.int .i64 (c.d : Int), .int .i64 (c.s : Int), .int .i64 (c.b : Int), .slice (some ⟨D, 0, none⟩) nd C, .int .i64 (s.segs : Int), .slice At nt Ct, .slice As ns Cs, .int .i64 s.u, .slice Aa na Ca] 32)).heap.size (w9.alloc (.cells #[.int .i64 (c.d : Int), .int .i64 (c.s : Int), .int .i64 (c.b : Int), .slice (some ⟨D, 0, none⟩) nd C, .int .i64 (s.segs : Int), .slice At nt Ct, .slice As ns Cs, .int .i64 s.u, .slice Aa na Ca] 32)) ((w9.alloc (.cells #[.int .i64 (c.d : Int), .int .i64 (c.s : Int), .int .i64 (c.b : Int), .slice (some ⟨D, 0, none⟩) nd C, .int .i64 (s.segs : Int), .slice At nt Ct, .slice As ns Cs, .int .i64 s.u, .slice Aa na Ca] 32)).alloc (.cells zAnA 42)) := (Below.refl _ _).alloc (Nat.le_refl _) _
  have VT := (varN_new w9 #[.int .i64 (c.d : Int), .int .i64 (c.s : Int), .int .i64 (c.b : Int), .slice (some ⟨D, 0, none⟩) nd C, .int .i64 (s.segs : Int), .slice At nt Ct, .slice As ns Cs, .int .i64 s.u, .slice Aa na Ca] 32).below bU
  have VU := varN_new (w9.alloc (.cells #[.int .i64 (c.d : Int), .int .i64 (c.s : Int), .int .i64 (c.b : Int), .slice (some ⟨D, 0, none⟩) nd C, .int .i64 (s.segs : Int), .slice At nt Ct, .slice As ns Cs, .int .i64 s.u, .slice Aa na Ca] 32)) zAnA 42
  have hsz : (w9.alloc (.cells #[.int .i64 (c.d : Int), .int .i64 (c.s : Int), .int .i64 (c.b : Int), .slice (some ⟨D, 0, none⟩) nd C, .int .i64 (s.segs : Int), .slice At nt Ct, .slice As ns Cs, .int .i64 s.u, .slice Aa na Ca] 32)).heap.size = w9.heap.size + 1 := Array.size_push _
  rw [hsz] at VU
  have hDk10 := (hDk.below bT).below bU
  have PJ10 := ((HP1.out.below b9).below bT).below bU
  have HN1 : Hid (w.heap.size + 1 + 1 + 1 < w1.heap.size) := HP1.out.size
  have h19 : w1.heap.size ≤ w9.heap.size := b9.size
  have hC2' : C ≤ 9223372036854775807 := by unfold maxLen at hC2; exact hC2
  clear HOW hDk b9 bT bU hsz a0 a1 a2 a3 a4 a5 a6 a7 a8 HP1 d0
  go_upto_region 52 with fail
  obtain ⟨w10, hw10⟩ : ∃ q, q = (w9.alloc (.cells #[.int .i64 (c.d : Int), .int .i64 (c.s : Int), .int .i64 (c.b : Int), .slice (some ⟨D, 0, none⟩) nd C, .int .i64 (s.segs : Int), .slice At nt Ct, .slice As ns Cs, .int .i64 s.u, .slice Aa na Ca] 32)).alloc (.cells zAnA 42) := ⟨_, rfl⟩
  rw [← hw10] at VT VU hDk10 PJ10 ⊢
  obtain ⟨QT, hQT⟩ : ∃ q, q = w9.heap.size := ⟨_, rfl⟩
  rw [← hQT] at VT VU ⊢
  have hDQ : QT ≠ D := VT.ty.ne hDk10.row.ty (by decide)
  have hDQ1 : QT + 1 ≠ D := VU.ty.ne hDk10.row.ty (by decide)
  obtain ⟨S, hS⟩ : ∃ S, S = scrT T w.heap.size D QT := ⟨_, rfl⟩
  have HSS : Hid (S = scrT T w.heap.size D QT) := hS
  have HW0 : Hid (ScW w w10 S QT D (stL c (.slice (some ⟨D, 0, none⟩) nd C) (s.segs : Int) (.slice At nt Ct) (.slice As ns Cs) s.u (.slice Aa na Ca)) (stL c (.slice Ad nd Cd) (s.segs : Int) (.slice At nt Ct) (.slice As ns Cs) s.u (.slice Aa na Ca)) (doL 8 d (.slice Ae ne Ce) t) 0 0 s.disks) := by
    have hge := hDk10.ge
    have h1 := HN1.out
    have h2 := RowC.lt VU
    have h3 := hDk10.row.lt
    refine ⟨PJ10, VT, VU, ⟨V0, hDk10.dkJ ?_ fun k hk => ?_⟩, ?_, hDQ1, hDQ, by omega, by omega, fun k hk => ?_⟩
    · rw [hS]
      exact scrT_iff.2 (Or.inr (Or.inr (Or.inr (Or.inl rfl))))
    · rw [hS] at hk
      rcases scrT_iff.1 hk with z | z | z | z | z | z
      · have := HJ.out.low k z
        exact Or.inl (by omega)
      · exact Or.inl (by omega)
      · exact Or.inl (by omega)
      · exact Or.inr ⟨58, z ▸ hDk10.row.ty, by decide, by decide⟩
      · exact Or.inr ⟨32, z ▸ VT.ty, by decide, by decide⟩
      · exact Or.inr ⟨42, z ▸ VU.ty, by decide, by decide⟩
    · rw [hS]
      exact scrT_iff.2 (Or.inr (Or.inr (Or.inr (Or.inr (Or.inr rfl)))))
    · rw [hS] at hk
      rcases scrT_iff.1 hk with z | z | z | z | z | z
      · have := HJ.out.low k z
        omega
      · omega
      · omega
      · omega
      · omega
      · omega
  clear hw10 hQT VT VU hDk10 PJ10 hS h19
  go_wp2_with fail
  go_loopw [19] (fun xv wr => ∃ (k E nn : Nat) (ds : List Sto.Disk), k ≤ s.segs ∧ xv = .int .i64 k ∧ Hid (ScW w wr S QT D (stL c (.slice (some ⟨D, 0, none⟩) nd C) (s.segs : Int) (.slice At nt Ct) (.slice As ns Cs) s.u (.slice Aa na Ca)) (stL c (.slice Ad nd Cd) (s.segs : Int) (.slice At nt Ct) (.slice As ns Cs) s.u (.slice Aa na Ca)) (doL 8 d (.slice Ae ne Ce) t) E nn ds) ∧ Hid (Sto.scrub X c s.segs 0 s.disks 0 0 = Sto.scrub X c (s.segs - k) k ds E nn) ∧ Hid (Sto.SI c s.segs ds) ∧ nn ≤ k * 12) (fun xv _ => s.segs - (intOf xv).toNat)
  case atStart => exact ⟨0, 0, 0, s.disks, Nat.zero_le _, rfl, HW0, rfl, HJ.out.wf.si, Nat.le_refl _⟩
  case round =>
    obtain ⟨k, E, nn, ds, hkn, rfl, HW, HEQ, HSI, hnn⟩ := hrel
    obtain ⟨wo, rfl⟩ : ∃ x, x = wr := ⟨wr, rfl⟩
    have a4 := HW.out.pj.st.cell (i := 4) rfl
    have hdl : nd = ds.length := by rw [HND.out, HJ.out.wf.dl, HSI.out.dl]
    have HDL : Hid (nd = ds.length) := hdl
    by_cases hlt : k < s.segs
    · have hlt' : (k : Int) < (s.segs : Int) := by omega
      obtain ⟨q, hq⟩ : ∃ q, s.segs - k = q + 1 := ⟨s.segs - k - 1, by omega⟩
      have hl12 : (Sto.blocks ds (k : Int)).length ≤ 12 := by
        unfold Sto.blocks
        rw [List.length_map, ← hdl]
        exact hn12
      have hlen : (Sto.blocks ds (k : Int)).length = c.d + c.s := by
        unfold Sto.blocks
        rw [List.length_map]
        exact HSI.out.dl
      obtain ⟨bs, hbs⟩ : ∃ bs, bs = Sto.blocks ds (k : Int) := ⟨_, rfl⟩
      have HBK : Hid (∀ w', ScW w w' S QT D (stL c (.slice (some ⟨D, 0, none⟩) nd C) (s.segs : Int) (.slice At nt Ct) (.slice As ns Cs) s.u (.slice Aa na Ca)) (stL c (.slice Ad nd Cd) (s.segs : Int) (.slice At nt Ct) (.slice As ns Cs) s.u (.slice Aa na Ca)) (doL 8 d (.slice Ae ne Ce) t) E nn ds → Calls Tryz.prog 38 #[stA (c.d : Int) (c.s : Int) (c.b : Int) (.slice (some ⟨D, 0, none⟩) nd C) (s.segs : Int) (.slice At nt Ct) (.slice As ns Cs) s.u (.slice Aa na Ca), .int .i64 (k : Int)] w' fun e w2 => ∃ v', e = .returned v' ∧ BlL w2 v' bs ∧ Below w'.heap.size w' w2) := fun w' h => by
        obtain ⟨V, hV⟩ := h.dk
        rw [hbs]
        exact refBlk_any (c.d : Int) (c.s : Int) (c.b : Int) (s.segs : Int) s.u (.slice (some ⟨D, 0, none⟩) nd C) (.slice At nt Ct) (.slice As ns Cs) (.slice Aa na Ca) ds (k : Int) w' (by rw [HDL.out]; exact hV.dks (by rw [← HDL.out]; exact hC1) hC2) (by rw [← HDL.out]; exact hn12) ⟨_, _, _, rfl⟩ ⟨_, _, _, rfl⟩ ⟨_, _, _, rfl⟩
      rw [← hbs] at hl12 hlen
      have HBD : Hid (∀ v' w', BlL w' v' bs → Calls Tryz.prog 37 #[v', .int .i64 (k : Int)] w' fun e w2 => ∃ v2, e = .returned v2 ∧ Nums w2 w'.heap.size v2 (X.bad bs k) ∧ Below w'.heap.size w' w2) := fun v' w' hB => badR_any HJ.out.x v' _ k w' hB hl12
      have HMD : Hid (∀ M v' w', BlL w' v' bs → M ≤ w'.heap.size → Calls Tryz.prog 39 #[v', .int .i64 (k : Int), .int .i64 (c.d : Int)] w' fun e w2 => ∃ v2, e = .returned (.tuple #[v2, .int .i64 ((X.mend bs k c).1 : Nat)]) ∧ MdO w2 M v2 (X.mend bs k c).1 (X.mend bs k c).2 ∧ Below w'.heap.size w' w2) := fun M v' w' hB hM => (mendJ_any HJ.out.x v' bs k c w' hB hlen HJ.out.wf.d8 HJ.out.wf.s4).mono fun e w2 z => by
        obtain ⟨⟨v2, h1, h2⟩, h3⟩ := z
        refine ⟨v2, h1, ?_, h3⟩
        rcases h2 with ⟨y1, y2⟩ | y
        · exact Or.inl ⟨y1, y2.lower hM⟩
        · exact Or.inr y
      have hbl12 := Nat.le_trans (bad_len HJ.out.x bs k) hl12
      have HBM : Hid (∀ i, i ∈ X.bad bs k → i < nd) := fun i hi => by
        have := bad_mem HJ.out.x hi
        rw [hbs] at this
        unfold Sto.blocks at this
        rw [List.length_map, ← HDL.out] at this
        exact this
      have HML : Hid ((X.mend bs k c).1 = 0 → (X.mend bs k c).2.length = nd) := fun z => by rw [mend_len HJ.out.x z, HDL.out, HSI.out.dl]
      have HNX : Hid (Sto.scrub X c s.segs 0 s.disks 0 0 = if X.bad bs k = [] then Sto.scrub X c (s.segs - (k + 1)) (k + 1) ds E nn else if (X.mend bs k c).1 ≠ 0 then Sto.scrub X c (s.segs - (k + 1)) (k + 1) ds (if E = 0 then (X.mend bs k c).1 else E) nn else Sto.scrub X c (s.segs - (k + 1)) (k + 1) (Sto.write k (X.mend bs k c).2 0 ds) E (nn + Sto.there ds (X.bad bs k))) := by
        have e : s.segs - (k + 1) = q := by omega
        show Sto.scrub X c s.segs 0 s.disks 0 0 = _
        rw [HEQ.out, hq, e, Sto.scrub, hbs]
      generalize X.bad bs k = bl at HBD hbl12 HBM HNX
      generalize X.mend bs k c = md at HMD HML HNX
      obtain ⟨mx, mL⟩ := md
      obtain ⟨nb, hnb⟩ : ∃ nb, nb = bl.length := ⟨_, rfl⟩
      have HNB : Hid (nb = bl.length) := hnb
      rw [← hnb] at hbl12
      have HB1 := HBK.out _ HW.out
      obtain ⟨t0, t1, t2, t3, t4, t5, t6, t7, t8⟩ := HW.out.vt.c9
      clear hq HEQ hl12 hlen hbs hdl hnb
      go_wp2_with fail
      refine HB1.mono ?_
      rintro e w2 ⟨v2, rfl, hL2, b2⟩
      have HB2 := HBD.out v2 w2 hL2
      clear HB1 HBD hL2
      go_wp2_with fail
      refine HB2.mono ?_
      rintro e w3 ⟨v3, rfl, hN3, b3⟩
      have HNU : Hid (Nums w3 w2.heap.size v3 bl) := hN3
      have HW3 : Hid (ScW w w3 S QT D (stL c (.slice (some ⟨D, 0, none⟩) nd C) (s.segs : Int) (.slice At nt Ct) (.slice As ns Cs) s.u (.slice Aa na Ca)) (stL c (.slice Ad nd Cd) (s.segs : Int) (.slice At nt Ct) (.slice As ns Cs) s.u (.slice Aa na Ca)) (doL 8 d (.slice Ae ne Ce) t) E nn ds) := (HW.out.below b2).below b3
      have HLO : Hid (∀ k, S k = true → k < w2.heap.size) := (HW.out.below b2).low
      have h23 : w2.heap.size ≤ w3.heap.size := b3.size
      obtain ⟨A3, C3, e3, h31, h32, _⟩ := row_shape hN3
      rw [← HNB.out] at e3 h31
      subst e3
      have h32' : C3 ≤ 9223372036854775807 := by unfold maxLen at h32; exact h32
      clear HB2 b2 b3 hN3 t0 t1 t2 t3 t4 t5 t6 t7 t8 HW a4
      by_cases hb0 : bl = []
      case pos =>
        have hn0 : ((nb : Int) == 0) = true := by rw [HNB.out, hb0]; rfl
        have HN2 : Hid (Sto.scrub X c s.segs 0 s.disks 0 0 = Sto.scrub X c (s.segs - (k + 1)) (k + 1) ds E nn) := by
          show Sto.scrub X c s.segs 0 s.disks 0 0 = _
          rw [HNX.out, if_pos hb0]
        clear hb0 HNX HBM HML HMD HBK HNU HLO
        go_wp2_with fail
        exact ⟨⟨k + 1, E, nn, ds, by omega, by go_num, HW3, HN2, HSI, by rw [Nat.succ_mul]; omega⟩, by simp [intOf]; omega⟩
      case neg =>
        have hnp : 0 < nb := by
          rw [HNB.out]
          exact List.length_pos_iff.2 hb0
        have hn0 : ((nb : Int) == 0) = false := by rw [beq_eq_false_iff_ne]; omega
        have HN2 : Hid (Sto.scrub X c s.segs 0 s.disks 0 0 = if mx ≠ 0 then Sto.scrub X c (s.segs - (k + 1)) (k + 1) ds (if E = 0 then mx else E) nn else Sto.scrub X c (s.segs - (k + 1)) (k + 1) (Sto.write k mL 0 ds) E (nn + Sto.there ds bl)) := by
          show Sto.scrub X c s.segs 0 s.disks 0 0 = _
          rw [HNX.out, if_neg hb0]
        have HSo : ∀ w', Below w3.heap.size w3 w' → (((w'.cell? ⟨QT, 0, none⟩ = some (.int .i64 (c.d : Int)) ∧ w'.cell? ⟨QT, 1, none⟩ = some (.int .i64 (c.s : Int)) ∧ w'.cell? ⟨QT, 2, none⟩ = some (.int .i64 (c.b : Int)) ∧ w'.cell? ⟨QT, 3, none⟩ = some (.slice (some ⟨D, 0, none⟩) nd C) ∧ w'.cell? ⟨QT, 4, none⟩ = some (.int .i64 (s.segs : Int)) ∧ w'.cell? ⟨QT, 5, none⟩ = some (.slice At nt Ct) ∧ w'.cell? ⟨QT, 6, none⟩ = some (.slice As ns Cs) ∧ w'.cell? ⟨QT, 7, none⟩ = some (.int .i64 s.u) ∧ w'.cell? ⟨QT, 8, none⟩ = some (.slice Aa na Ca)) ∧ w'.cell? ⟨w.heap.size, 0, none⟩ = some (.int .i64 (c.d : Int))) ∧ Below w3.heap.size w3 w') := fun w' hb' => by
          have V := HW3.out.below hb'
          obtain ⟨t0, t1, t2, t3, t4, t5, t6, t7, t8⟩ := V.vt.c9
          exact ⟨⟨⟨t0, t1, t2, t3, t4, t5, t6, t7, t8⟩, V.pj.st.cell (i := 0) rfl⟩, hb'⟩
        have TD := HSo w3.drew (Below.refl _ _).drew
        have HBS : ∀ w', (((w'.cell? ⟨QT, 0, none⟩ = some (.int .i64 (c.d : Int)) ∧ w'.cell? ⟨QT, 1, none⟩ = some (.int .i64 (c.s : Int)) ∧ w'.cell? ⟨QT, 2, none⟩ = some (.int .i64 (c.b : Int)) ∧ w'.cell? ⟨QT, 3, none⟩ = some (.slice (some ⟨D, 0, none⟩) nd C) ∧ w'.cell? ⟨QT, 4, none⟩ = some (.int .i64 (s.segs : Int)) ∧ w'.cell? ⟨QT, 5, none⟩ = some (.slice At nt Ct) ∧ w'.cell? ⟨QT, 6, none⟩ = some (.slice As ns Cs) ∧ w'.cell? ⟨QT, 7, none⟩ = some (.int .i64 s.u) ∧ w'.cell? ⟨QT, 8, none⟩ = some (.slice Aa na Ca)) ∧ w'.cell? ⟨w.heap.size, 0, none⟩ = some (.int .i64 (c.d : Int))) ∧ Below w3.heap.size w3 w') → Below w3.heap.size w3 w' := fun w' hS => hS.2
        have HB4 := fun w' (hS : (((w'.cell? ⟨QT, 0, none⟩ = some (.int .i64 (c.d : Int)) ∧ w'.cell? ⟨QT, 1, none⟩ = some (.int .i64 (c.s : Int)) ∧ w'.cell? ⟨QT, 2, none⟩ = some (.int .i64 (c.b : Int)) ∧ w'.cell? ⟨QT, 3, none⟩ = some (.slice (some ⟨D, 0, none⟩) nd C) ∧ w'.cell? ⟨QT, 4, none⟩ = some (.int .i64 (s.segs : Int)) ∧ w'.cell? ⟨QT, 5, none⟩ = some (.slice At nt Ct) ∧ w'.cell? ⟨QT, 6, none⟩ = some (.slice As ns Cs) ∧ w'.cell? ⟨QT, 7, none⟩ = some (.int .i64 s.u) ∧ w'.cell? ⟨QT, 8, none⟩ = some (.slice Aa na Ca)) ∧ w'.cell? ⟨w.heap.size, 0, none⟩ = some (.int .i64 (c.d : Int))) ∧ Below w3.heap.size w3 w')) => HBK.out w' (HW3.out.below hS.2)
        clear hb0 HNX
        go_upto_region 57 with fail
        go_region_held3 (fun w' => (((w'.cell? ⟨QT, 0, none⟩ = some (.int .i64 (c.d : Int)) ∧ w'.cell? ⟨QT, 1, none⟩ = some (.int .i64 (c.s : Int)) ∧ w'.cell? ⟨QT, 2, none⟩ = some (.int .i64 (c.b : Int)) ∧ w'.cell? ⟨QT, 3, none⟩ = some (.slice (some ⟨D, 0, none⟩) nd C) ∧ w'.cell? ⟨QT, 4, none⟩ = some (.int .i64 (s.segs : Int)) ∧ w'.cell? ⟨QT, 5, none⟩ = some (.slice At nt Ct) ∧ w'.cell? ⟨QT, 6, none⟩ = some (.slice As ns Cs) ∧ w'.cell? ⟨QT, 7, none⟩ = some (.int .i64 s.u) ∧ w'.cell? ⟨QT, 8, none⟩ = some (.slice Aa na Ca)) ∧ w'.cell? ⟨w.heap.size, 0, none⟩ = some (.int .i64 (c.d : Int))) ∧ Below w3.heap.size w3 w'))
          (first | with_reducible exact TD | with_reducible assumption)
          (first | (go_at_call 38; refine (HB4 _ (by assumption)).mono ?_; rintro e1 w4 ⟨v4, rfl, hL4, b4⟩; have S1 := HSo w4 (bt (HBS _ (by assumption)) b4)) | (go_at_call 39; refine (HMD.out w3.heap.size _ _ (by assumption) (HBS _ (by assumption)).size).mono ?_; rintro e2 w5 ⟨v5, rfl, hM5, b5⟩; have S2 := HSo w5 (bt S1.2 b5)))
        have b35 := S2.2
        have HW5 : Hid (ScW w w5 S QT D (stL c (.slice (some ⟨D, 0, none⟩) nd C) (s.segs : Int) (.slice At nt Ct) (.slice As ns Cs) s.u (.slice Aa na Ca)) (stL c (.slice Ad nd Cd) (s.segs : Int) (.slice At nt Ct) (.slice As ns Cs) s.u (.slice Aa na Ca)) (doL 8 d (.slice Ae ne Ce) t) E nn ds) := HW3.out.below b35
        have HM5 : Hid (MdO w5 w3.heap.size v5 mx mL) := hM5
        have HNU5 : Hid (Nums w5 w2.heap.size (.slice A3 nb C3) bl) := HNU.out.below b35
        clear S1 S2 TD HBS HSo HB4 HMD HBK b4 b5 hL4 hM5 HW3 HNU b35
        by_cases hmx : mx = 0
        case neg =>
          have hxn : ((mx : Int) != 0) = true := by rw [bne_iff_ne]; omega
          have HN3 : Hid (Sto.scrub X c s.segs 0 s.disks 0 0 = Sto.scrub X c (s.segs - (k + 1)) (k + 1) ds (if E = 0 then mx else E) nn) := by
            show Sto.scrub X c s.segs 0 s.disks 0 0 = _
            rw [HN2.out, if_pos hmx]
          have va0 := HW5.out.va.cell (i := 0) rfl
          have vf0 := HW5.out.va.frozen 0
          have hM := HM5.out
          rcases hM with ⟨z, _⟩ | ⟨_, z⟩
          · exact absurd z hmx
          subst z
          clear HN2 HM5
          by_cases hE : E = 0
          · have hE0 : ((E : Int) == 0) = true := by rw [hE]; rfl
            have HN4 : Hid (Sto.scrub X c s.segs 0 s.disks 0 0 = Sto.scrub X c (s.segs - (k + 1)) (k + 1) ds mx nn) := by
              show Sto.scrub X c s.segs 0 s.disks 0 0 = _
              rw [HN3.out, if_pos hE]
            have HW6 : Hid (ScW w (w5.setCell ⟨QT + 1, 0, none⟩ (.int .i64 (mx : Nat))) S QT D (stL c (.slice (some ⟨D, 0, none⟩) nd C) (s.segs : Int) (.slice At nt Ct) (.slice As ns Cs) s.u (.slice Aa na Ca)) (stL c (.slice Ad nd Cd) (s.segs : Int) (.slice At nt Ct) (.slice As ns Cs) s.u (.slice Aa na Ca)) (doL 8 d (.slice Ae ne Ce) t) mx nn ds) := HW5.out.err mx
            clear hE HN3 HW5
            go_wp2_with fail
            exact ⟨⟨k + 1, mx, nn, ds, by omega, by go_num, HW6, HN4, HSI, by rw [Nat.succ_mul]; omega⟩, by simp [intOf]; omega⟩
          · have hE0 : ((E : Int) == 0) = false := by rw [beq_eq_false_iff_ne]; omega
            have HN4 : Hid (Sto.scrub X c s.segs 0 s.disks 0 0 = Sto.scrub X c (s.segs - (k + 1)) (k + 1) ds E nn) := by
              show Sto.scrub X c s.segs 0 s.disks 0 0 = _
              rw [HN3.out, if_neg hE]
            clear hE HN3
            go_wp2_with fail
            exact ⟨⟨k + 1, E, nn, ds, by omega, by go_num, HW5, HN4, HSI, by rw [Nat.succ_mul]; omega⟩, by simp [intOf]; omega⟩
        case pos =>
          have hxn : ((mx : Int) != 0) = false := by rw [hmx]; rfl
          have HN3 : Hid (Sto.scrub X c s.segs 0 s.disks 0 0 = Sto.scrub X c (s.segs - (k + 1)) (k + 1) (Sto.write k mL 0 ds) E (nn + Sto.there ds bl)) := by
            show Sto.scrub X c s.segs 0 s.disks 0 0 = _
            rw [HN2.out, if_neg (fun z => z hmx)]
          have HLn : Hid (mL.length = nd) := HML.out hmx
          have HMB : Hid (BlL (blank S w5) v5 mL) := by
            rcases HM5.out with ⟨_, z⟩ | ⟨z, _⟩
            · exact z.2 S fun k hk => Nat.lt_of_lt_of_le (HLO.out k hk) h23
            · exact absurd hmx z
          have hthb : ∀ j, Sto.there ds (bl.take j) ≤ 12 := fun j => by
            have h1 := there_le ds (bl.take j)
            rw [List.length_take] at h1
            have h2 := HNB.out
            omega
          have HTB : Hid (∀ j, Sto.there ds (bl.take j) ≤ 12) := hthb
          have hk40 : k * 12 ≤ 40 * 12 := Nat.mul_le_mul_right _ (by omega)
          have HT0 : Hid (ScW w w5 S QT D (stL c (.slice (some ⟨D, 0, none⟩) nd C) (s.segs : Int) (.slice At nt Ct) (.slice As ns Cs) s.u (.slice Aa na Ca)) (stL c (.slice Ad nd Cd) (s.segs : Int) (.slice At nt Ct) (.slice As ns Cs) s.u (.slice Aa na Ca)) (doL 8 d (.slice Ae ne Ce) t) E (nn + Sto.there ds (bl.take 0)) ds) := HW5.out
          clear HN2 HM5 hmx HML hthb HW5
          go_wp2_with fail
          go_loopw [266] (fun xv wi => ∃ (j : Nat), j ≤ nb ∧ xv = .int .i64 j ∧ Hid (ScW w wi S QT D (stL c (.slice (some ⟨D, 0, none⟩) nd C) (s.segs : Int) (.slice At nt Ct) (.slice As ns Cs) s.u (.slice Aa na Ca)) (stL c (.slice Ad nd Cd) (s.segs : Int) (.slice At nt Ct) (.slice As ns Cs) s.u (.slice Aa na Ca)) (doL 8 d (.slice Ae ne Ce) t) E (nn + Sto.there ds (bl.take j)) ds) ∧ Hid (Off (fun q => q = QT + 1) w5 wi)) (fun xv _ => nb - (intOf xv).toNat)
          case atStart => exact ⟨0, Nat.zero_le _, rfl, HT0, Off.refl _ _⟩
          case round =>
            obtain ⟨j, hj, rfl, HWI, HOI⟩ := hrel
            have hNI := owns_off HNU5.out HOI.out (fun g hg z => by
              have z : g = QT + 1 := z
              have h1 := (HNU5.out.lt g hg).1
              have h2 := HLO.out (QT + 1) HWI.out.sq
              omega)
            obtain ⟨A9, C9, e9, hcl⟩ := nums_cells (l := bl) hNI
            have eA : A9 = A3 := by
              injection e9 with q _ _
              exact q.symm
            subst eA
            clear e9
            have hth := HTB.out j
            by_cases hjl : j < nb
            · have hjl' : (j : Int) < (nb : Int) := by omega
              obtain ⟨b9, o9, rfl, c9⟩ := hcl j (by rw [← HNB.out]; exact hjl)
              obtain ⟨i, hi⟩ : ∃ i, i = bl.getD j 0 := ⟨_, rfl⟩
              rw [← hi] at c9
              have hji : bl[j]? = some i := by
                have : j < bl.length := by rw [← HNB.out]; exact hjl
                rw [hi, List.getD_eq_getElem?_getD, List.getElem?_eq_getElem this]
                rfl
              have hil := HBM.out i (List.mem_of_getElem? hji)
              have hil' : (i : Int) < (nd : Int) := by omega
              obtain ⟨di, hdi⟩ : ∃ di, ds[i]? = some di := ⟨ds[i]'(by rw [← HDL.out]; exact hil), List.getElem?_eq_getElem _⟩
              obtain ⟨VI, hVI⟩ := HWI.out.dk
              have cg := hVI.gone hdi
              have t3 := HWI.out.vt.cell (i := 3) rfl
              have htk := there_take ds bl j hji hdi
              obtain ⟨gn, hgn⟩ : ∃ gn, gn = di.gone := ⟨_, rfl⟩
              rw [← hgn] at cg htk
              obtain ⟨th, hTH⟩ : ∃ th, th = Sto.there ds (bl.take j) := ⟨_, rfl⟩
              rw [← hTH] at htk HWI hth
              clear hVI hdi hji hgn hi hTH hNI hcl
              cases gn with
              | true =>
                have HW6 : Hid (ScW w wr S QT D (stL c (.slice (some ⟨D, 0, none⟩) nd C) (s.segs : Int) (.slice At nt Ct) (.slice As ns Cs) s.u (.slice Aa na Ca)) (stL c (.slice Ad nd Cd) (s.segs : Int) (.slice At nt Ct) (.slice As ns Cs) s.u (.slice Aa na Ca)) (doL 8 d (.slice Ae ne Ce) t) E (nn + Sto.there ds (bl.take (j + 1))) ds) := by
                  have e : Sto.there ds (bl.take (j + 1)) = th := htk
                  show ScW w wr S QT D (stL c (.slice (some ⟨D, 0, none⟩) nd C) (s.segs : Int) (.slice At nt Ct) (.slice As ns Cs) s.u (.slice Aa na Ca)) (stL c (.slice Ad nd Cd) (s.segs : Int) (.slice At nt Ct) (.slice As ns Cs) s.u (.slice Aa na Ca)) (doL 8 d (.slice Ae ne Ce) t) E (nn + Sto.there ds (bl.take (j + 1))) ds
                  rw [e]
                  exact HWI.out
                clear htk
                go_wp2_with fail
                exact ⟨⟨j + 1, by omega, by go_num, HW6, HOI⟩, by simp [intOf]; omega⟩
              | false =>
                have va1 := HWI.out.va.cell (i := 1) rfl
                have vf1 := HWI.out.va.frozen 1
                have HW6 : Hid (ScW w (wr.setCell ⟨QT + 1, 1, none⟩ (.int .i64 ((nn + th + 1 : Nat) : Int))) S QT D (stL c (.slice (some ⟨D, 0, none⟩) nd C) (s.segs : Int) (.slice At nt Ct) (.slice As ns Cs) s.u (.slice Aa na Ca)) (stL c (.slice Ad nd Cd) (s.segs : Int) (.slice At nt Ct) (.slice As ns Cs) s.u (.slice Aa na Ca)) (doL 8 d (.slice Ae ne Ce) t) E (nn + Sto.there ds (bl.take (j + 1))) ds) := by
                  have e : Sto.there ds (bl.take (j + 1)) = th + 1 := htk
                  show ScW w (wr.setCell ⟨QT + 1, 1, none⟩ (.int .i64 ((nn + th + 1 : Nat) : Int))) S QT D (stL c (.slice (some ⟨D, 0, none⟩) nd C) (s.segs : Int) (.slice At nt Ct) (.slice As ns Cs) s.u (.slice Aa na Ca)) (stL c (.slice Ad nd Cd) (s.segs : Int) (.slice At nt Ct) (.slice As ns Cs) s.u (.slice Aa na Ca)) (doL 8 d (.slice Ae ne Ce) t) E (nn + Sto.there ds (bl.take (j + 1))) ds
                  rw [e]
                  exact HWI.out.num (nn + th + 1)
                have HO6 : Hid (Off (fun q => q = QT + 1) w5 (wr.setCell ⟨QT + 1, 1, none⟩ (.int .i64 ((nn + th + 1 : Nat) : Int)))) := HOI.out.trans (off_set wr ⟨QT + 1, 1, none⟩ _)
                obtain ⟨tn, htn⟩ : ∃ tn, tn = nn + th := ⟨_, rfl⟩
                rw [← htn] at va1 HW6 HO6
                have ecast : ((tn + 1 : Nat) : Int) = (tn : Int) + 1 := by omega
                rw [ecast] at HW6 HO6
                have htn9 : tn ≤ 1000 := by omega
                clear htk htn ecast
                go_wp2_with fail
                exact ⟨⟨j + 1, by omega, by go_num, HW6, HO6⟩, by simp [intOf]; omega⟩
            · obtain rfl : j = nb := by omega
              have HWE : Hid (ScW w wr S QT D (stL c (.slice (some ⟨D, 0, none⟩) nd C) (s.segs : Int) (.slice At nt Ct) (.slice As ns Cs) s.u (.slice Aa na Ca)) (stL c (.slice Ad nd Cd) (s.segs : Int) (.slice At nt Ct) (.slice As ns Cs) s.u (.slice Aa na Ca)) (doL 8 d (.slice Ae ne Ce) t) E (nn + Sto.there ds bl) ds) := by
                have := HWI.out
                rw [HNB.out, List.take_length] at this
                exact this
              have HLB := HMB.out.sub (blank_one HWI.out.sq HOI.out)
              obtain ⟨VI, hVI⟩ := HWI.out.dk
              have HWR := refWrite_any S QT D nd C (c.d : Int) (c.s : Int) (c.b : Int) (s.segs : Int) s.u (k : Int) (.slice At nt Ct) (.slice As ns Cs) (.slice Aa na Ca) v5 mL VI ds wr HWI.out.vt hVI HWI.out.low HDL.out hn12 hC1 hC2 (si_bl HSI.out hsg) HLB HLn.out
              have hth2 : Sto.there ds bl ≤ 12 := by
                rw [HNB.out, List.take_length] at hth
                exact hth
              clear hVI HLB HWI hNI hcl HOI HMB hth
              go_wp2_with fail
              refine HWR.mono ?_
              rintro e w6 ⟨rfl, ⟨V6, hD6⟩, o6⟩
              have HW6 : Hid (ScW w w6 S QT D (stL c (.slice (some ⟨D, 0, none⟩) nd C) (s.segs : Int) (.slice At nt Ct) (.slice As ns Cs) s.u (.slice Aa na Ca)) (stL c (.slice Ad nd Cd) (s.segs : Int) (.slice At nt Ct) (.slice As ns Cs) s.u (.slice Aa na Ca)) (doL 8 d (.slice Ae ne Ce) t) E (nn + Sto.there ds bl) (Sto.write k mL 0 ds)) := HWE.out.wrote o6 hD6
              have HSI6 : Hid (Sto.SI c s.segs (Sto.write k mL 0 ds)) := HSI.out.write hlt mL
              clear HWR hD6 o6 HWE
              go_wp2_with fail
              exact ⟨⟨k + 1, E, nn + Sto.there ds bl, Sto.write k mL 0 ds, by omega, by go_num, HW6, HN3, HSI6, by rw [Nat.succ_mul]; omega⟩, by simp [intOf]; omega⟩
    · have hkk : k = s.segs := by omega
      have hnl : ¬ (k : Int) < (s.segs : Int) := by omega
      have HFE : Hid (Sto.scrub X c s.segs 0 s.disks 0 0 = (ds, E, nn)) := by
        show Sto.scrub X c s.segs 0 s.disks 0 0 = _
        rw [HEQ.out, hkk, Nat.sub_self]
        rfl
      obtain ⟨V, hV⟩ := HW.out.dk
      have PJ0 := HW.out.pj
      have hld := HW.out.ld
      have HFZ : Hid (∀ wE, Off (fun q => q = w.heap.size + 1 + 1 ∨ q = w.heap.size + 1 + 1 + 1) wo wE → StepO (.returned (.tuple #[stA (c.d : Int) (c.s : Int) (c.b : Int) (.slice (some ⟨D, 0, none⟩) nd C) (s.segs : Int) (.slice At nt Ct) (.slice As ns Cs) s.u (.slice Aa na Ca), .agg #[.int .i64 (E : Nat), .int .i64 (nn : Nat), .slice none 0 0, .int .i64 0, .slice none 0 0]])) T w wE c r) := fun wE ho => by
        rw [← HRR.out, HST.out, HFE.out]
        exact HJ.out.disksJ PJ0.bel (by rw [← HSS.out]; exact hV) ho hld HDL.out hC1 hC2 E nn
      obtain ⟨t0, t1, t2, t3, t4, t5, t6, t7, t8⟩ := HW.out.vt.c9
      have z0 := HW.out.va.cell (i := 0) rfl
      have z1 := HW.out.va.cell (i := 1) rfl
      have z2 := HW.out.va.cell (i := 2) rfl
      have z3 := HW.out.va.cell (i := 3) rfl
      have z4 := HW.out.va.cell (i := 4) rfl
      obtain ⟨x0, x1, x2, x3, x4, x5, x6, x7, x8, p0, p1, p2, p3, p4, p5, p6, p7, p8, y0, y1, y2, y3, y4, q0, q1, q2, q3, q4⟩ := PJ0.res
      have q1 : ¬ QT = w.heap.size + 1 + 1 := by have := HW.out.lo; omega
      have q2 : ¬ QT = w.heap.size + 1 + 1 + 1 := by have := HW.out.lo; omega
      have q3 : ¬ QT + 1 = w.heap.size + 1 + 1 := by have := HW.out.lo; omega
      have q4 : ¬ QT + 1 = w.heap.size + 1 + 1 + 1 := by have := HW.out.lo; omega
      clear hkk HEQ HW PJ0 hV HFE HST HRR HSI hld hdl
      go_upto_region 68 with fail
      go_region
      go_wp2_with fail
      refine bodyPost_ret (v := .tuple #[stA (c.d : Int) (c.s : Int) (c.b : Int) (.slice (some ⟨D, 0, none⟩) nd C) (s.segs : Int) (.slice At nt Ct) (.slice As ns Cs) s.u (.slice Aa na Ca), .agg #[.int .i64 (E : Nat), .int .i64 (nn : Nat), .slice none 0 0, .int .i64 0, .slice none 0 0]]) (by simp [results, Tryz.results11, go_sem, x0, x1, x2, x3, x4, x5, x6, x7, x8, y0, y1, y2, y3, y4]) rfl ?_
      exact HFZ.out _ (off14 _ _ _ _ _ _ _ _ _ _ _ _ _ _ _ _ _)
end

end Go.Proofs.YtmcaejooaaahdaaGreat
