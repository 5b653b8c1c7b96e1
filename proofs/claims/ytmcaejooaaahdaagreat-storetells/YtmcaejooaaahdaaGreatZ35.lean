/-
  Texts of the proof, joined: HHarm, HChange.
-/
import Derived.Test.YtmcaejooaaahdaaGreatZ34
namespace Go.Proofs.YtmcaejooaaahdaaGreat
open Go.RowKit

theorem WfD.set {ds : List Sto.Disk} {m : Nat} (h : WfD ds m) (q : Nat) {d' : Sto.Disk} (hd : Sto.Up d'.bl ∧ (∀ h, h ∈ d'.bl → 0 ≤ h.1 ∧ h.1 < (m : Int)) ∧ (d'.gone = true → d'.bl = [])) : WfD (ds.set q d') m := fun i d hi => by
  by_cases e : i = q
  · subst e
    rw [List.getElem?_set_self'] at hi
    obtain ⟨_, _, rfl⟩ := Option.map_eq_some_iff.1 hi
    exact hd
  · rw [List.getElem?_set_ne (fun z => e z.symm)] at hi
    exact h i d hi
theorem WfS.disk {c : Sto.Cfg} {s : Sto.St} (h : WfS c s) (q : Nat) {d' : Sto.Disk} (hd : Sto.Up d'.bl ∧ (∀ h, h ∈ d'.bl → 0 ≤ h.1 ∧ h.1 < ((100 : Nat) : Int)) ∧ (d'.gone = true → d'.bl = [])) : WfS c { s with disks := s.disks.set q d' } :=
  ⟨by show (s.disks.set q d').length = _; rw [List.length_set]; exact h.len, h.d1, h.d8, h.s4, h.b1, h.b10, h.wd.set q hd, h.segs, h.tail, h.bats, h.up, h.cmds, h.right⟩
section
variable {w : World} {N R D : Nat} {F E : Nat → Prop} {c : Sto.Cfg} {s : Sto.St} {V : Nat → Value} {U : Nat → List HeC} {vt vs va : Value} {tc : List (Int × Sl)} {ds : List Sto.Disk}
/-- A disk is another one, and has nothing. -/
theorem DkAt.swap (h : DkAt w N D V U ds) {q : Nat} {d : Sto.Disk} (hq : ds[q]? = some d) (b : Bool) : DkAt ((w.setCell ⟨D, q * 2, none⟩ (.bool b)).setCell ⟨D, q * 2 + 1, none⟩ (.slice none 0 0)) N D (upd V q (.slice none 0 0)) (upd U q []) (ds.set q ⟨b, []⟩) := by
  have hl := (List.getElem?_eq_some_iff.1 hq).1
  refine h.put hl ⟨b, []⟩ (.slice none 0 0) [] ?_ (((Off.refl _ w).set (p := ⟨D, q * 2, none⟩) (Or.inl rfl) _).set (p := ⟨D, q * 2 + 1, none⟩) (Or.inl rfl) _) (World.ownsRow_nil _ N _ 2) rfl (fun x hx => by cases hx) (fun g hg => by cases hg) (fun a x g ha => by cases ha) (fun a _ x _ g ha => by cases ha)
  refine ((h.row.set (q * 2) (.bool b)).set (q * 2 + 1) (.slice none 0 0)).congr fun j hj => ?_
  rw [dkF_set hq _ j]
  by_cases e : j = q * 2
  · rw [if_pos e, if_neg (by omega), if_pos e]
  · rw [if_neg e]
    by_cases e2 : j = q * 2 + 1
    · rw [if_pos e2, if_neg e]
    · rw [if_neg e2, if_neg e]
/-- A byte of a block is another one. -/
theorem DkAt.spoilt (h : DkAt w N D V U ds) {q i g n cap p y : Nat} {d : Sto.Disk} {x : HeC} (hq : ds[q]? = some d) (hx : (U q)[i]? = some x) (hv : slV x.2.1 = .slice (some ⟨g, 0, none⟩) n cap) (hp : p < x.2.2.length) (hy : y < 256) :
    DkAt (w.setCell ⟨g, p, none⟩ (.int .u8 ((y : Nat) : Int))) N D V (upd U q ((U q).set i (x.1, x.2.1, x.2.2.set p y))) (ds.set q ⟨d.gone, d.bl.set i (x.1, x.2.2.set p y)⟩) := by
  have hl := (List.getElem?_eq_some_iff.1 hq).1
  have hil := (List.getElem?_eq_some_iff.1 hx).1
  have hxm := List.mem_of_getElem? hx
  have hB := h.byt q x hl hxm
  have hgx : (slV x.2.1).ownBlock = some g := by rw [hv]; rfl
  have hgT := hB.ty hgx
  have ho := off_set w ⟨g, p, none⟩ (.int .u8 ((y : Nat) : Int))
  have H := h.put (w' := w.setCell ⟨g, p, none⟩ (.int .u8 ((y : Nat) : Int))) hl ⟨d.gone, d.bl.set i (x.1, x.2.2.set p y)⟩ (V q) ((U q).set i (x.1, x.2.1, x.2.2.set p y)) ?_ (ho.wider fun k e => Or.inr (Or.inr ⟨x, hxm, by rw [hgx, e]⟩)) ?_ ?_ (fun z hz => ?_) (fun b hb => Or.inl hb) (fun a z b ha hb => ?_) (fun a b z z' e ha hb h1 h2 => ?_)
  · rw [upd_self] at H
    exact H
  · refine (h.row.of_block (ho.block D h.row.lt fun e => h.row.ty.ne hgT (by decide) e)).congr fun j hj => ?_
    rw [dkF_set hq (V q) j]
    by_cases e : j = q * 2
    · rw [if_pos e, e]
      unfold dkF
      rw [if_pos (by omega), show q * 2 / 2 = q by omega, List.getD_eq_getElem?_getD, hq]
      rfl
    · rw [if_neg e]
      by_cases e2 : j = q * 2 + 1
      · rw [if_pos e2, e2]
        unfold dkF
        rw [if_neg (by omega), show (q * 2 + 1) / 2 = q by omega]
      · rw [if_neg e2]
  · rw [List.length_set]
    have e : ((U q).set i (x.1, x.2.1, x.2.2.set p y)).flatMap heCells = (U q).flatMap heCells := by
      have h1 := flat_setH (U q) i 0 x (x.1, x.2.1, x.2.2.set p y) (.int .i64 x.1) (by decide) hx rfl
      rw [← h1]
      have h2 := flat_get heCells 2 (U q) (fun _ _ => rfl) i 0 (by decide) x hx
      obtain ⟨h3, h4⟩ := List.getElem?_eq_some_iff.1 (show ((U q).flatMap heCells)[i * 2 + 0]? = some (.int .i64 x.1) from h2)
      conv => lhs; rw [← h4]
      exact List.set_getElem_self h3
    rw [e]
    exact owns_off (h.own q hl) ho fun b hb e => (owns_ty (h.own q hl) hb).ne hgT (by decide) e
  · show d.bl.set i (x.1, x.2.2.set p y) = ((U q).set i (x.1, x.2.1, x.2.2.set p y)).map heOf
    rw [List.map_set, h.bl q d hq]
    rfl
  · obtain ⟨a, ha⟩ := List.mem_iff_getElem?.1 hz
    by_cases e : a = i
    · subst e
      rw [List.getElem?_set_self hil] at ha
      cases ha
      show OwnB _ N (slV x.2.1) (x.2.2.set p y)
      rw [hv] at hB ⊢
      exact hB.set hp hy
    · rw [List.getElem?_set_ne (fun z => e z.symm)] at ha
      exact (h.byt q z hl (List.mem_of_getElem? ha)).off ho fun b hb e2 => e (h.sepU q q a i z x g hl hl ha hx (by rw [hb, e2]) hgx).2
  · by_cases e : a = i
    · subst e
      rw [List.getElem?_set_self hil] at ha
      cases ha
      exact Or.inl ⟨x, hxm, hb⟩
    · rw [List.getElem?_set_ne (fun z => e z.symm)] at ha
      exact Or.inl ⟨z, List.mem_of_getElem? ha, hb⟩
  · have old : ∀ (a : Nat) (z : HeC), ((U q).set i (x.1, x.2.1, x.2.2.set p y))[a]? = some z → ∃ z0, (U q)[a]? = some z0 ∧ z0.2.1 = z.2.1 := fun a z ha => by
      by_cases e : a = i
      · subst e
        rw [List.getElem?_set_self hil] at ha
        cases ha
        exact ⟨x, hx, rfl⟩
      · rw [List.getElem?_set_ne (fun z => e z.symm)] at ha
        exact ⟨z, ha, rfl⟩
    obtain ⟨z0, q1, q2⟩ := old a z ha
    obtain ⟨z1, q3, q4⟩ := old b z' hb
    exact (h.sepU q q a b z0 z1 e hl hl q1 q3 (by rw [q2]; exact h1) (by rw [q4]; exact h2)).2

/-- What becomes of disks: an error, and the disks then. -/
def HarmP (w w' : World) (N R : Nat) (F E : Nat → Prop) (c : Sto.Cfg) (s : Sto.St) (D : Nat) (vt vs va : Value) (tc : List (Int × Sl)) (ds' : List Sto.Disk) : Prop := ∃ V' U', StP w' N R F E c { s with disks := ds' } D V' U' vt vs va tc ∧ Frame w w' F F E E
theorem HarmP.same (h : StP w N R F E c s D V U vt vs va tc) {w' : World} (hb : Below w.heap.size w w') : HarmP w w' N R F E c s D vt vs va tc s.disks := ⟨V, U, h.below hb, Frame.of_below F E hb⟩
theorem StP.swap (h : StP w N R F E c s D V U vt vs va tc) {q : Nat} {d : Sto.Disk} (hq : s.disks[q]? = some d) (b : Bool) (hNw : N ≤ w.heap.size) : HarmP w ((w.setCell ⟨D, q * 2, none⟩ (.bool b)).setCell ⟨D, q * 2 + 1, none⟩ (.slice none 0 0)) N R F E c s D vt vs va tc (s.disks.set q ⟨b, []⟩) := by
  have ho : Off (fun k => k = D) w ((w.setCell ⟨D, q * 2, none⟩ (.bool b)).setCell ⟨D, q * 2 + 1, none⟩ (.slice none 0 0)) := ((Off.refl (fun k => k = D) w).set (p := ⟨D, q * 2, none⟩) rfl _).set (p := ⟨D, q * 2 + 1, none⟩) rfl _
  refine ⟨_, _, h.disks ho (fun k e => ⟨by rw [e]; exact h.fD, _, by rw [e]; exact h.dk.row.ty, Or.inl rfl⟩) (h.dk.swap hq b) (List.length_set ..) (fun _ z => z) (fun _ z => Or.inl z) hNw (fun i g hi hg => ?_) (fun i x g hi hx hg => ?_) (h.wf.disk q ⟨List.Pairwise.nil, fun _ hh => (by cases hh), fun _ => rfl⟩)⟩
  · by_cases e : i = q
    · rw [e, upd_at] at hg
      cases hg
    · rw [upd_ne _ _ e] at hg
      exact h.fV i g hi hg
  · by_cases e : i = q
    · rw [e, upd_at] at hx
      cases hx
    · rw [upd_ne _ _ e] at hx
      exact h.fU i x g hi hx hg
theorem StP.spoilt (h : StP w N R F E c s D V U vt vs va tc) {q i g n cap p y : Nat} {d : Sto.Disk} {x : HeC} (hq : s.disks[q]? = some d) (hx : (U q)[i]? = some x) (hv : slV x.2.1 = .slice (some ⟨g, 0, none⟩) n cap) (hp : p < x.2.2.length) (hy : y < 256) (hNw : N ≤ w.heap.size) :
    HarmP w (w.setCell ⟨g, p, none⟩ (.int .u8 ((y : Nat) : Int))) N R F E c s D vt vs va tc (s.disks.set q ⟨d.gone, d.bl.set i (x.1, x.2.2.set p y)⟩) := by
  have hl := (List.getElem?_eq_some_iff.1 hq).1
  have hxm := List.mem_of_getElem? hx
  have hgx : (slV x.2.1).ownBlock = some g := by rw [hv]; rfl
  have hwd := h.wf.wd q d hq
  have hbl := h.dk.bl q d hq
  have hkeys : (d.bl.set i (x.1, x.2.2.set p y)).map (·.1) = d.bl.map (·.1) := by
    rw [List.map_set]
    have h1 : (d.bl.map (·.1))[i]? = some x.1 := by
      rw [hbl, keys_of, List.getElem?_map, hx]
      rfl
    obtain ⟨h3, h4⟩ := List.getElem?_eq_some_iff.1 h1
    show (d.bl.map (·.1)).set i x.1 = _
    conv => lhs; rw [← h4]
    exact List.set_getElem_self h3
  refine ⟨_, _, h.disks (off_set w ⟨g, p, none⟩ (.int .u8 ((y : Nat) : Int))) (fun k e => ⟨?_, _, ?_, Or.inr (Or.inr rfl)⟩) (h.dk.spoilt hq hx hv hp hy) (List.length_set ..) (fun _ z => z) (fun _ z => Or.inl z) hNw (fun i g hi hg => h.fV i g hi hg) (fun j z b hj hz hb => ?_) (h.wf.disk q ⟨?_, fun z hz => ?_, fun hgone => ?_⟩)⟩
  · have e : k = g := e
    rw [e]
    exact h.fU q x g hl hxm hgx
  · have e : k = g := e
    rw [e]
    exact (h.dk.byt q x hl hxm).ty hgx
  · by_cases e : j = q
    · subst e
      rw [upd_at] at hz
      rcases List.mem_or_eq_of_mem_set hz with z1 | rfl
      · exact h.fU j z b hj z1 hb
      · exact h.fU j x b hj hxm hb
    · rw [upd_ne _ _ e] at hz
      exact h.fU j z b hj hz hb
  · rw [Sto.up_iff]
    show UpI ((d.bl.set i (x.1, x.2.2.set p y)).map (·.1))
    rw [hkeys]
    exact Sto.up_iff.1 hwd.1
  · have hz1 : z.1 ∈ (d.bl.set i (x.1, x.2.2.set p y)).map (·.1) := List.mem_map_of_mem hz
    rw [hkeys] at hz1
    obtain ⟨z', hz', e⟩ := List.mem_map.1 hz1
    rw [← e]
    exact hwd.2.1 z' hz'
  · have := hwd.2.2 hgone
    rw [hbl] at this
    have : U q = [] := List.map_eq_nil_iff.1 this
    rw [this] at hxm
    cases hxm
end

/-! ### The calls -/
/-- An error is told, and the disks then. -/
def HarmO (e : Ending) (w w' : World) (N R : Nat) (F E : Nat → Prop) (c : Sto.Cfg) (s : Sto.St) (D : Nat) (vt vs va : Value) (tc : List (Int × Sl)) (x : Nat) (ds' : List Sto.Disk) : Prop := e = .returned (.int .i64 (x : Nat)) ∧ HarmP w w' N R F E c s D vt vs va tc ds'
section
variable {N R D : Nat} {F E : Nat → Prop} {c : Sto.Cfg} {s : Sto.St} {V : Nat → Value} {U : Nat → List HeC} {vt vs va : Value} {tc : List (Int × Sl)}
theorem Tryz.enters_lose : ∀ args w, (callFunc 25 args).run Tryz.prog w = .ok (.enter 25 args) w := enters_of Tryz.func25 (by kernel_rfl) rfl
theorem Tryz.enters_swap : ∀ args w, (callFunc 26 args).run Tryz.prog w = .ok (.enter 26 args) w := enters_of Tryz.func26 (by kernel_rfl) rfl
set_option maxHeartbeats 400000 in
set_option maxRecDepth 100000 in
theorem lose_any (q : Nat) (d : Sto.Disk) (w : World) (h : StP w N R F E c s D V U vt vs va tc) (hq : s.disks[q]? = some d) (hNw : N ≤ w.heap.size) :
    Calls Tryz.prog 25 #[.pointer (some ⟨D, q * 2, none⟩)] w fun e w' => HarmO e w w' N R F E c s D vt vs va tc (if d.gone then 8 else 0) (if d.gone then s.disks else s.disks.set q ⟨true, []⟩) := by
  have g0 := h.dk.gone hq
  have g1 := h.dk.held (List.getElem?_eq_some_iff.1 hq).1
  have f0 := h.dk.row.frozen (q * 2)
  have f1 := h.dk.row.frozen (q * 2 + 1)
  cases hg : d.gone with
  | true =>
    have HH : Hid (HarmP w w N R F E c s D vt vs va tc s.disks) := HarmP.same h (Below.refl _ _)
    rw [hg] at g0
    clear h hg
    go_enter Tryz.func25, Tryz.ntmps25
    go_wp2_with fail
    go_ret
    exact ⟨rfl, HH.out⟩
  | false =>
    have HH : Hid (HarmP w ((w.setCell ⟨D, q * 2, none⟩ (.bool true)).setCell ⟨D, q * 2 + 1, none⟩ (.slice none 0 0)) N R F E c s D vt vs va tc (s.disks.set q ⟨true, []⟩)) := h.swap hq true hNw
    rw [hg] at g0
    clear h hg
    go_enter Tryz.func25, Tryz.ntmps25
    go_wp2_with fail
    go_ret
    exact ⟨rfl, HH.out⟩
set_option maxHeartbeats 400000 in
set_option maxRecDepth 100000 in
theorem swap_any (q : Nat) (d : Sto.Disk) (w : World) (h : StP w N R F E c s D V U vt vs va tc) (hq : s.disks[q]? = some d) (hNw : N ≤ w.heap.size) :
    Calls Tryz.prog 26 #[.pointer (some ⟨D, q * 2, none⟩)] w fun e w' => HarmO e w w' N R F E c s D vt vs va tc 0 (s.disks.set q ⟨false, []⟩) := by
  have g0 := h.dk.gone hq
  have g1 := h.dk.held (List.getElem?_eq_some_iff.1 hq).1
  have f0 := h.dk.row.frozen (q * 2)
  have f1 := h.dk.row.frozen (q * 2 + 1)
  have HH : Hid (HarmP w ((w.setCell ⟨D, q * 2, none⟩ (.bool false)).setCell ⟨D, q * 2 + 1, none⟩ (.slice none 0 0)) N R F E c s D vt vs va tc (s.disks.set q ⟨false, []⟩)) := h.swap hq false hNw
  clear h
  go_enter Tryz.func26, Tryz.ntmps26
  go_wp2_with fail
  go_ret
  exact ⟨rfl, HH.out⟩
/-- What comes of a byte that is turned. -/
def spoilR (ds : List Sto.Disk) (q : Nat) (d : Sto.Disk) (k p : Int) (y : Nat) : Nat × List Sto.Disk := match d.bl.find? (fun h => decide (h.1 = k)) with
  | none => (6, ds)
  | some h => if p < 0 ∨ (h.2.length : Int) ≤ p then (3, ds) else (0, ds.set q ⟨d.gone, Sto.spoil k p.toNat y d.bl⟩)
set_option maxHeartbeats 1000000 in
set_option maxRecDepth 100000 in
theorem spoil_any (q : Nat) (d : Sto.Disk) (k p : Int) (y : Nat) (w : World) (h : StP w N R F E c s D V U vt vs va tc) (hq : s.disks[q]? = some d) (hNw : N ≤ w.heap.size) (hy : y < 256) :
    Calls Tryz.prog 28 #[.pointer (some ⟨D, q * 2, none⟩), .int .i64 k, .int .i64 p, .int .u8 (y : Int)] w fun e w' => HarmO e w w' N R F E c s D vt vs va tc (spoilR s.disks q d k p y).1 (spoilR s.disks q d k p y).2 := by
  have hl := (List.getElem?_eq_some_iff.1 hq).1
  have g1 := h.dk.held hl
  obtain ⟨hup, hlen⟩ := h.dk.up h.wf.wd hl
  have hsegs := h.wf.segs
  have hbl := h.dk.bl q d hq
  have HE := h.dk.heIn hl
  have HF := find_any k (V q) (U q) w HE hup (by omega)
  have HP : Hid (StP w N R F E c s D V U vt vs va tc) := h
  have HQ : Hid (s.disks[q]? = some d) := hq
  have HU : Hid (Sto.Up d.bl) := (h.wf.wd q d hq).1
  have HB : Hid (d.bl = (U q).map heOf) := hbl
  obtain ⟨A, C, hV, hC1, hC2, hcell⟩ := HE
  rw [hV] at g1 HF
  have hC2' : C ≤ 9223372036854775807 := by unfold maxLen at hC2; exact hC2
  have HCE : Hid (∀ (i : Nat) (x : HeC), (U q)[i]? = some x → ∃ b o, A = some ⟨b, o, none⟩ ∧ w.cell? ⟨b, o + i * 2, none⟩ = some (.int .i64 x.1) ∧ w.cell? ⟨b, o + i * 2 + 1, none⟩ = some (slV x.2.1)) := hcell
  clear h hq hup hbl hV hcell hC2
  go_enter Tryz.func28, Tryz.ntmps28
  go_wp2_with fail
  refine HF.mono ?_
  rintro e w1 ⟨⟨i, z, rfl, hcut, hz⟩, b1⟩
  have HC : Hid (CutI (d.bl.map (·.1)) k i) := by
    show CutI (d.bl.map (·.1)) k i
    rw [HB.out, keys_of]
    exact hcut
  have hkk : (d.bl.map (·.1)) = (U q).map (·.1) := by rw [HB.out, keys_of]
  have g1 := (b1.cell (p := ⟨D, q * 2 + 1, none⟩) (World.block_lt_of_cell? _ _ g1)).trans g1
  clear HF hcut
  cases z with
  | false =>
    have HN : Hid (spoilR s.disks q d k p y = (6, s.disks)) := by
      show spoilR s.disks q d k p y = (6, s.disks)
      unfold spoilR
      rw [Sto.find_not HU.out HC.out fun z => absurd (hz.2 (by rw [← hkk]; exact z)) (by decide)]
    have HH : Hid (HarmP w w1 N R F E c s D vt vs va tc s.disks) := HarmP.same HP.out b1
    clear hz hkk
    go_wp2_with fail
    go_ret
    exact ⟨by rw [HN.out]; rfl, by rw [HN.out]; exact HH.out⟩
  | true =>
    have hk := hz.1 rfl
    rw [List.getElem?_map] at hk
    obtain ⟨x, hx, hxk⟩ := Option.map_eq_some_iff.1 hk
    have hdx : d.bl[i]? = some (heOf x) := by
      rw [HB.out, List.getElem?_map, hx]
      rfl
    have hfind := Sto.find_there HU.out HC.out hdx hxk
    obtain ⟨b, o, rfl, _, d1⟩ := HCE.out i x hx
    have d1 := (b1.cell (p := ⟨b, o + i * 2 + 1, none⟩) (World.block_lt_of_cell? _ _ d1)).trans d1
    have hP1 := HP.out.below b1
    have hB := hP1.dk.byt q x hl (List.mem_of_getElem? hx)
    obtain ⟨gx, cx, hvx, _, hcx1, hcx2, hrx⟩ := hB.at
    have hcx2' : cx ≤ 9223372036854775807 := by unfold maxLen at hcx2; exact hcx2
    obtain ⟨nx, hnx⟩ : ∃ nx, nx = x.2.2.length := ⟨_, rfl⟩
    have hil : (i : Int) < ((U q).length : Int) := by
      have := (List.getElem?_eq_some_iff.1 hx).1
      omega
    rw [hvx, ← hnx] at d1
    by_cases hp : p < 0 ∨ (x.2.2.length : Int) ≤ p
    · have HN : Hid (spoilR s.disks q d k p y = (3, s.disks)) := by
        show spoilR s.disks q d k p y = (3, s.disks)
        unfold spoilR
        rw [hfind]
        exact if_pos hp
      have HH : Hid (HarmP w w1 N R F E c s D vt vs va tc s.disks) := HarmP.same HP.out b1
      rw [← hnx] at hp hcx1
      clear hz hkk hk hx hxk hdx hfind hP1 hB hvx hrx hnx
      by_cases hp0 : p < 0
      · clear hp
        go_wp2_with fail
        go_ret
        exact ⟨by rw [HN.out]; rfl, by rw [HN.out]; exact HH.out⟩
      · have hp1 : (nx : Int) ≤ p := by omega
        clear hp
        go_wp2_with fail
        go_ret
        exact ⟨by rw [HN.out]; rfl, by rw [HN.out]; exact HH.out⟩
    · obtain ⟨p', rfl⟩ : ∃ p' : Nat, p = (p' : Int) := ⟨p.toNat, by omega⟩
      have hpl : p' < x.2.2.length := by omega
      have hbp := Sto.getD_bytes hB.1 p'
      have dx : w1.cell? ⟨gx, p', none⟩ = some (.int .u8 ((x.2.2.getD p' 0 : Nat) : Int)) := hrx.cell hpl
      have fx := hrx.frozen p'
      obtain ⟨bx, hbx⟩ : ∃ bx, bx = x.2.2.getD p' 0 := ⟨_, rfl⟩
      rw [← hbx] at dx hbp
      have hxr : bx ^^^ y < 256 := Nat.xor_lt_two_pow (n := 8) hbp hy
      have HN : Hid (spoilR s.disks q d k p' y = (0, s.disks.set q ⟨d.gone, d.bl.set i (x.1, x.2.2.set p' (bx ^^^ y))⟩)) := by
        show spoilR s.disks q d k p' y = _
        unfold spoilR
        rw [hfind]
        show (if (p' : Int) < 0 ∨ (x.2.2.length : Int) ≤ (p' : Int) then _ else _) = _
        rw [if_neg hp, Int.toNat_natCast, Sto.spoil_there HU.out hdx hxk, hbx, hxk]
        rfl
      have HH : Hid (HarmP w (w1.setCell ⟨gx, p', none⟩ (.int .u8 ((bx ^^^ y : Nat) : Int))) N R F E c s D vt vs va tc (s.disks.set q ⟨d.gone, d.bl.set i (x.1, x.2.2.set p' (bx ^^^ y))⟩)) := by
        obtain ⟨V', U', q1, q2⟩ := hP1.spoilt HQ.out hx hvx hpl hxr (Nat.le_trans hNw b1.size)
        exact ⟨V', U', q1, (Frame.of_below F E b1).trans q2⟩
      have hX : bits .xor .u8 (bx : Int) (y : Int) = ((bx ^^^ y : Nat) : Int) := u8_xor_nat bx y hbp hy
      have hp2 : (p' : Int) < (nx : Int) := by omega
      have hp3 : p' < nx := by omega
      rw [← hnx] at hcx1
      clear hz hkk hk hx hxk hdx hfind hP1 hB hvx hrx hnx hp hpl hbx
      go_wp2_with fail
      go_ret
      exact ⟨by rw [HN.out]; rfl, by rw [HN.out]; exact HH.out⟩
end

end Go.Proofs.YtmcaejooaaahdaaGreat

namespace Go.Proofs.YtmcaejooaaahdaaGreat
open Go.RowKit

/-- The five cells of an answer's variable, as a value. -/
abbrev ansVal (x : Int) (n : Int) : Value := .agg #[.int .i64 x, .int .i64 n, .slice none 0 0, .int .i64 0, .slice none 0 0]
abbrev ansC (x n : Int) : Array Value := #[.int .i64 x, .int .i64 n, .slice none 0 0, .int .i64 0, .slice none 0 0]
section
variable {N R D : Nat} {F E : Nat → Prop} {c : Sto.Cfg} {s : Sto.St} {V : Nat → Value} {U : Nat → List HeC} {vt vs va : Value} {tc : List (Int × Sl)}
/-- What is told of a change: an answer, and the disks then. -/
def ChP (e : Ending) (w w' : World) (N R : Nat) (F E : Nat → Prop) (c : Sto.Cfg) (s : Sto.St) (D : Nat) (vt vs va : Value) (tc : List (Int × Sl)) (x : Nat) (ds' : List Sto.Disk) : Prop := e = .returned (ansVal (x : Nat) 0) ∧ HarmP w w' N R F E c s D vt vs va tc ds'
/-- A variable of the call's own is written. -/
theorem HarmP.local {w w1 w2 w3 : World} {ds' : List Sto.Disk} {B : Nat} (hb : Below w.heap.size w w1) (h : HarmP w1 w2 N R F E c s D vt vs va tc ds') (ho : Off (fun k => k = B) w2 w3) (hB : w.heap.size ≤ B) (hF : ∀ k, F k ∨ E k → k < w.heap.size) : HarmP w w3 N R F E c s D vt vs va tc ds' := by
  obtain ⟨V', U', q1, q2⟩ := h
  have q3 := (Frame.of_below F E hb).trans q2
  refine ⟨V', U', q1.out ho fun k e => ⟨fun z => ?_, fun z => ?_⟩, q3.off.past ho fun k e hk => ?_, q3.growF, q3.growE⟩
  · have := hF k (Or.inl z)
    omega
  · have := hF k (Or.inr z)
    omega
  · omega
theorem off_five (w : World) (B : Nat) (a b c d e : Value) : Off (fun k => k = B) w (((((w.setCell ⟨B, 0, none⟩ a).setCell ⟨B, 1, none⟩ b).setCell ⟨B, 2, none⟩ c).setCell ⟨B, 3, none⟩ d).setCell ⟨B, 4, none⟩ e) :=
  (((((Off.refl (fun k => k = B) w).set (p := ⟨B, 0, none⟩) rfl a).set (p := ⟨B, 1, none⟩) rfl b).set (p := ⟨B, 2, none⟩) rfl c).set (p := ⟨B, 3, none⟩) rfl d).set (p := ⟨B, 4, none⟩) rfl e
/-- What is done to the disk. -/
def Does (g : Nat) (caps : Array Value) (N R : Nat) (F E : Nat → Prop) (c : Sto.Cfg) (s : Sto.St) (D : Nat) (vt vs va : Value) (tc : List (Int × Sl)) (w : World) (q x : Nat) (ds' : List Sto.Disk) : Prop :=
  ∀ w' V U, Below w.heap.size w w' → StP w' N R F E c s D V U vt vs va tc → Calls Tryz.prog g (#[.pointer (some ⟨D, q * 2, none⟩)] ++ caps) w' fun e w'' => HarmO e w' w'' N R F E c s D vt vs va tc x ds'

set_option maxHeartbeats 1000000 in
set_option maxRecDepth 100000 in
theorem change0_none (g : Nat) (n : Int) (w : World) (h : StP w N R F E c s D V U vt vs va tc) (hn : n < 0 ∨ (s.disks.length : Int) ≤ n) :
    Calls Tryz.prog 24 #[.pointer (some ⟨R, 0, none⟩), .int .i64 n, .func (.func g) #[] #[]] w fun e w' => ChP e w w' N R F E c s D vt vs va tc 6 s.disks := by
  have bA : Below w.heap.size w (w.alloc (.cells (ansC 0 0) 42)) := (Below.refl _ _).alloc (Nat.le_refl _) _
  have c3 := (bA.cell (p := ⟨R, 3, none⟩) (World.block_lt_of_cell? _ _ h.c3)).trans h.c3
  have HH : Hid (HarmP w (w.alloc (.cells (ansC 6 0) 42)) N R F E c s D vt vs va tc s.disks) := HarmP.same h ((Below.refl _ _).alloc (Nat.le_refl _) _)
  have hlen : s.disks.length ≤ 12 := by have := h.wf.len; have := h.wf.d8; have := h.wf.s4; omega
  obtain ⟨L, hL⟩ : ∃ L, L = s.disks.length := ⟨_, rfl⟩
  rw [← hL] at c3 hn hlen
  clear h bA hL
  by_cases hn0 : n < 0
  · clear hn
    go_enter Tryz.func24, Tryz.ntmps24
    go_wp2_with fail
    refine bodyPost_ret (v := ansVal 6 0) (by simp [results, Tryz.results24, go_sem]) rfl ⟨rfl, ?_⟩
    exact HH.out
  · have hn1 : (L : Int) ≤ n := by omega
    clear hn
    go_enter Tryz.func24, Tryz.ntmps24
    go_wp2_with fail
    refine bodyPost_ret (v := ansVal 6 0) (by simp [results, Tryz.results24, go_sem]) rfl ⟨rfl, ?_⟩
    exact HH.out

set_option maxHeartbeats 1000000 in
set_option maxRecDepth 100000 in
theorem change0_some (g : Nat) (eg : ∀ args w, (callFunc g args).run Tryz.prog w = .ok (.enter g args) w) (q x : Nat) (ds' : List Sto.Disk) (w : World) (h : StP w N R F E c s D V U vt vs va tc) (hq : q < s.disks.length) (HG : Does g #[] N R F E c s D vt vs va tc w q x ds') :
    Calls Tryz.prog 24 #[.pointer (some ⟨R, 0, none⟩), .int .i64 (q : Int), .func (.func g) #[] #[]] w fun e w' => ChP e w w' N R F E c s D vt vs va tc x ds' := by
  have bA : Below w.heap.size w (w.alloc (.cells (ansC 0 0) 42)) := (Below.refl _ _).alloc (Nat.le_refl _) _
  have VB := varN_new w (ansC 0 0) 42
  have c3 := (bA.cell (p := ⟨R, 3, none⟩) (World.block_lt_of_cell? _ _ h.c3)).trans h.c3
  have HC := HG _ V U bA (h.below bA)
  have hlen : s.disks.length ≤ 12 := by have := h.wf.len; have := h.wf.d8; have := h.wf.s4; omega
  have HFE : Hid (∀ k, F k ∨ E k → k < w.heap.size) := fun k hk => (show StAt w N R F E c s from ⟨_, _, _, _, _, _, _, h⟩).lt hk
  have HVB : Hid (VarN (w.alloc (.cells (ansC 0 0) 42)) w.heap.size 42 (ansC 0 0).toList) := VB
  have HBA : Hid (Below w.heap.size w (w.alloc (.cells (ansC 0 0) 42))) := bA
  obtain ⟨L, hL⟩ : ∃ L, L = s.disks.length := ⟨_, rfl⟩
  rw [← hL] at c3 hq hlen
  have hq' : (q : Int) < (L : Int) := by omega
  have hq0 : ¬ (q : Int) < 0 := by omega
  clear h bA VB hL HG
  go_enter Tryz.func24, Tryz.ntmps24
  go_wp2_with fail
  refine HC.mono ?_
  rintro e w2 ⟨rfl, hP⟩
  have hV2 : VarN w2 w.heap.size 42 (ansC 0 0).toList := by
    obtain ⟨V', U', q1, q2⟩ := hP
    exact HVB.out.off q2.off fun z => by
      have := HFE.out _ (Or.inl z)
      omega
  have HH : Hid (∀ a b d e f, HarmP w (((((w2.setCell ⟨w.heap.size, 0, none⟩ a).setCell ⟨w.heap.size, 1, none⟩ b).setCell ⟨w.heap.size, 2, none⟩ d).setCell ⟨w.heap.size, 3, none⟩ e).setCell ⟨w.heap.size, 4, none⟩ f) N R F E c s D vt vs va tc ds') := fun a b d e f =>
    HarmP.local HBA.out hP (off_five _ _ a b d e f) (Nat.le_refl _) HFE.out
  have b0 := hV2.cell (i := 0) rfl
  have b1 := hV2.cell (i := 1) rfl
  have b2 := hV2.cell (i := 2) rfl
  have b3 := hV2.cell (i := 3) rfl
  have b4 := hV2.cell (i := 4) rfl
  have f0 := hV2.frozen 0
  have f1 := hV2.frozen 1
  have f2 := hV2.frozen 2
  have f3 := hV2.frozen 3
  have f4 := hV2.frozen 4
  clear HC hP hV2
  go_wp2_with fail
  refine bodyPost_ret (v := ansVal (x : Nat) 0) (by simp [results, Tryz.results24, go_sem, b0, b1, b2, b3, b4]) rfl ⟨rfl, ?_⟩
  exact HH.out _ _ _ _ _

set_option maxHeartbeats 1000000 in
set_option maxRecDepth 100000 in
theorem change1_none (g : Nat) (k : Value) (n : Int) (w : World) (h : StP w N R F E c s D V U vt vs va tc) (hn : n < 0 ∨ (s.disks.length : Int) ≤ n) :
    Calls Tryz.prog 24 #[.pointer (some ⟨R, 0, none⟩), .int .i64 n, .func (.func g) #[] #[k]] w fun e w' => ChP e w w' N R F E c s D vt vs va tc 6 s.disks := by
  have bA : Below w.heap.size w (w.alloc (.cells (ansC 0 0) 42)) := (Below.refl _ _).alloc (Nat.le_refl _) _
  have c3 := (bA.cell (p := ⟨R, 3, none⟩) (World.block_lt_of_cell? _ _ h.c3)).trans h.c3
  have HH : Hid (HarmP w (w.alloc (.cells (ansC 6 0) 42)) N R F E c s D vt vs va tc s.disks) := HarmP.same h ((Below.refl _ _).alloc (Nat.le_refl _) _)
  have hlen : s.disks.length ≤ 12 := by have := h.wf.len; have := h.wf.d8; have := h.wf.s4; omega
  obtain ⟨L, hL⟩ : ∃ L, L = s.disks.length := ⟨_, rfl⟩
  rw [← hL] at c3 hn hlen
  clear h bA hL
  by_cases hn0 : n < 0
  · clear hn
    go_enter Tryz.func24, Tryz.ntmps24
    go_wp2_with fail
    refine bodyPost_ret (v := ansVal 6 0) (by simp [results, Tryz.results24, go_sem]) rfl ⟨rfl, ?_⟩
    exact HH.out
  · have hn1 : (L : Int) ≤ n := by omega
    clear hn
    go_enter Tryz.func24, Tryz.ntmps24
    go_wp2_with fail
    refine bodyPost_ret (v := ansVal 6 0) (by simp [results, Tryz.results24, go_sem]) rfl ⟨rfl, ?_⟩
    exact HH.out

set_option maxHeartbeats 1000000 in
set_option maxRecDepth 100000 in
theorem change1_some (g : Nat) (k : Value) (eg : ∀ args w, (callFunc g args).run Tryz.prog w = .ok (.enter g args) w) (q x : Nat) (ds' : List Sto.Disk) (w : World) (h : StP w N R F E c s D V U vt vs va tc) (hq : q < s.disks.length) (HG : Does g #[k] N R F E c s D vt vs va tc w q x ds') :
    Calls Tryz.prog 24 #[.pointer (some ⟨R, 0, none⟩), .int .i64 (q : Int), .func (.func g) #[] #[k]] w fun e w' => ChP e w w' N R F E c s D vt vs va tc x ds' := by
  have bA : Below w.heap.size w (w.alloc (.cells (ansC 0 0) 42)) := (Below.refl _ _).alloc (Nat.le_refl _) _
  have VB := varN_new w (ansC 0 0) 42
  have c3 := (bA.cell (p := ⟨R, 3, none⟩) (World.block_lt_of_cell? _ _ h.c3)).trans h.c3
  have HC := HG _ V U bA (h.below bA)
  have hlen : s.disks.length ≤ 12 := by have := h.wf.len; have := h.wf.d8; have := h.wf.s4; omega
  have HFE : Hid (∀ k, F k ∨ E k → k < w.heap.size) := fun k hk => (show StAt w N R F E c s from ⟨_, _, _, _, _, _, _, h⟩).lt hk
  have HVB : Hid (VarN (w.alloc (.cells (ansC 0 0) 42)) w.heap.size 42 (ansC 0 0).toList) := VB
  have HBA : Hid (Below w.heap.size w (w.alloc (.cells (ansC 0 0) 42))) := bA
  obtain ⟨L, hL⟩ : ∃ L, L = s.disks.length := ⟨_, rfl⟩
  rw [← hL] at c3 hq hlen
  have hq' : (q : Int) < (L : Int) := by omega
  have hq0 : ¬ (q : Int) < 0 := by omega
  clear h bA VB hL HG
  go_enter Tryz.func24, Tryz.ntmps24
  go_wp2_with fail
  refine HC.mono ?_
  rintro e w2 ⟨rfl, hP⟩
  have hV2 : VarN w2 w.heap.size 42 (ansC 0 0).toList := by
    obtain ⟨V', U', q1, q2⟩ := hP
    exact HVB.out.off q2.off fun z => by
      have := HFE.out _ (Or.inl z)
      omega
  have HH : Hid (∀ a b d e f, HarmP w (((((w2.setCell ⟨w.heap.size, 0, none⟩ a).setCell ⟨w.heap.size, 1, none⟩ b).setCell ⟨w.heap.size, 2, none⟩ d).setCell ⟨w.heap.size, 3, none⟩ e).setCell ⟨w.heap.size, 4, none⟩ f) N R F E c s D vt vs va tc ds') := fun a b d e f =>
    HarmP.local HBA.out hP (off_five _ _ a b d e f) (Nat.le_refl _) HFE.out
  have b0 := hV2.cell (i := 0) rfl
  have b1 := hV2.cell (i := 1) rfl
  have b2 := hV2.cell (i := 2) rfl
  have b3 := hV2.cell (i := 3) rfl
  have b4 := hV2.cell (i := 4) rfl
  have f0 := hV2.frozen 0
  have f1 := hV2.frozen 1
  have f2 := hV2.frozen 2
  have f3 := hV2.frozen 3
  have f4 := hV2.frozen 4
  clear HC hP hV2
  go_wp2_with fail
  refine bodyPost_ret (v := ansVal (x : Nat) 0) (by simp [results, Tryz.results24, go_sem, b0, b1, b2, b3, b4]) rfl ⟨rfl, ?_⟩
  exact HH.out _ _ _ _ _
end

end Go.Proofs.YtmcaejooaaahdaaGreat
