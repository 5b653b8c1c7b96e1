/-
  Texts of the proof, joined: HDoA.
-/
import Derived.Test.YtmcaejooaaahdaaGreatZ43
import Derived.Test.YtmcaejooaaahdaaGreatZ44
namespace Go.Proofs.YtmcaejooaaahdaaGreat
open Go.RowKit

/-! ### What was told, as an answer -/
section
variable {w w' wX : World} {N R D : Nat} {F E E' : Nat → Prop} {c : Sto.Cfg} {s : Sto.St} {V : Nat → Value} {U : Nat → List HeC} {vt vs va : Value} {tc : List (Int × Sl)}
theorem StP.moreE (h : StP w N R F E c s D V U vt vs va tc) (hE : ∀ k, E k → E' k) (hE' : ∀ k, E' k → E k ∨ (¬ F k ∧ k < w.heap.size)) : StP w N R F E' c s D V U vt vs va tc :=
  ⟨h.var, h.ge, h.dk, ⟨h.tail.own, h.tail.len, fun i x b hx hb => ⟨(h.tail.evs i x b hx hb).1, (h.tail.evs i x b hx hb).2.1, fun g hg hl => hE g ((h.tail.evs i x b hx hb).2.2 g hg hl)⟩⟩, h.seen, ⟨h.acc.1, fun g hg hl => hE g (h.acc.2 g hg hl)⟩, h.fR, h.fD, h.fV, h.fU, h.fT, h.fS, h.lt, fun k hk => by
    rcases hE' k hk with q | q
    · exact h.dis k q
    · exact q, h.wf⟩
theorem EvsE.lt {w : World} {E : Nat → Prop} {v : Value} {es : List Evt.Ev} (h : EvsE w E v es) {g : Nat} (hg : v.ownBlock = some g) (hl : es ≠ []) : g < w.heap.size := by
  obtain ⟨⟨A, cap, rfl, _, _, h3⟩, _⟩ := h
  cases es with
  | nil => exact absurd rfl hl
  | cons e r =>
    obtain ⟨b, o, rfl, t, _, _, c0, _⟩ := h3 0 e rfl
    cases hg
    exact World.block_lt_of_cell? _ _ c0
theorem AccE.lt {w : World} {E : Nat → Prop} {v : Value} {l : List Vw.Acc} (h : AccE w E v l) {g : Nat} (hg : v.ownBlock = some g) (hl : l ≠ []) : g < w.heap.size := by
  obtain ⟨⟨A, cap, rfl, _, _, h3⟩, _⟩ := h
  cases l with
  | nil => exact absurd rfl hl
  | cons e r =>
    obtain ⟨b, o, rfl, t, _, _, c0, _⟩ := h3 0 e rfl
    cases hg
    exact World.block_lt_of_cell? _ _ c0
theorem tell_do (h : StP w N R F E c s D V U vt vs va tc) {e : Ending} {a : Sto.Ans} (ht : TellO e w' w.heap.size a) (hb : Below w.heap.size w w') : DoO e w w' N R F E c (s, a) := by
  obtain ⟨v, rfl, ve, va', rfl, h1, h2⟩ := ht
  refine ⟨_, F, fun k => E k ∨ (w.heap.size ≤ k ∧ k < w'.heap.size), rfl, ⟨_, _, _, _, _, _, _, (h.below hb).moreE (fun _ q => Or.inl q) fun k q => ?_⟩, ⟨Off.of_below hb, fun _ q => Or.inl q, fun k q => q.imp id (·.1)⟩, ve, va', rfl, ⟨h1.1, fun g hg hl => Or.inr ⟨h1.2 g hg hl, h1.lt hg hl⟩⟩, ⟨h2.1, fun g hg hl => Or.inr ⟨h2.2 g hg hl, h2.lt hg hl⟩⟩⟩
  rcases q with q | ⟨q1, q2⟩
  · exact Or.inl q
  · exact Or.inr ⟨fun z => absurd (h.lt k z).2 (Nat.not_lt.2 q1), q2⟩
theorem change_do {e : Ending} {x : Nat} {ds' : List Sto.Disk} (hc : ChP e w w' N R F E c s D vt vs va tc x ds') : DoO e w w' N R F E c ({ s with disks := ds' }, ⟨x, 0, [], 0, []⟩) := by
  obtain ⟨rfl, V', U', h1, h2⟩ := hc
  exact ⟨_, F, E, rfl, ⟨_, _, _, _, _, _, _, h1⟩, h2, ansV_plain _ _ _ _⟩
end

/-! ### Closures -/
theorem Tryz.enters_do1 : ∀ args w, (callFunc 19 args).run Tryz.prog w = .ok (.enter 19 args) w := enters_of Tryz.func19 (by kernel_rfl) rfl
theorem Tryz.enters_do2 : ∀ args w, (callFunc 21 args).run Tryz.prog w = .ok (.enter 21 args) w := enters_of Tryz.func21 (by kernel_rfl) rfl
theorem Tryz.enters_do3 : ∀ args w, (callFunc 27 args).run Tryz.prog w = .ok (.enter 27 args) w := enters_of Tryz.func27 (by kernel_rfl) rfl
theorem Tryz.enters_viewOf : ∀ args w, (callFunc 23 args).run Tryz.prog w = .ok (.enter 23 args) w := enters_of Tryz.func23 (by kernel_rfl) rfl
set_option maxHeartbeats 1000000 in
set_option maxRecDepth 100000 in
theorem do1_any (B N : Nat) (v : Value) (es : List EvC) (t : ByteArray) (w : World) (h : EBuf w N v es) (hN : N ≤ w.heap.size) (ht : t.size ≤ 9223372036854775807) (hc : w.cell? ⟨B, 7, none⟩ = some (.string t)) :
    Calls Tryz.prog 19 #[v, .pointer (some ⟨B, 0, none⟩)] w fun e w' => TellO e w' N (ofA (es.map evOf) (nb t)) ∧ Below N w w' := by
  have bA : Below w.heap.size w (w.alloc (.cells (ansC 0 0) 42)) := (Below.refl _ _).alloc (Nat.le_refl _) _
  have VB := varN_new w (ansC 0 0) 42
  have HC := ofStream_any N v es t _ (h.below bA) ht
  have c7 := (bA.cell (p := ⟨B, 7, none⟩) (World.block_lt_of_cell? _ _ hc)).trans hc
  have HVL : Hid (∀ g, v.ownBlock = some g → N ≤ g ∧ g < w.heap.size) := fun g hg => h.1.lt g hg
  have HBA : Hid (Below w.heap.size w (w.alloc (.cells (ansC 0 0) 42))) := bA
  have HVB : Hid (VarN (w.alloc (.cells (ansC 0 0) 42)) w.heap.size 42 (ansC 0 0).toList) := VB
  have HNW : Hid (N ≤ w.heap.size) := hN
  obtain ⟨A, C, hv⟩ := h.shape
  obtain ⟨L, hL⟩ : ∃ L, L = es.length := ⟨_, rfl⟩
  rw [← hL] at hv
  subst hv
  obtain ⟨a, ha⟩ : ∃ a, a = ofA (es.map evOf) (nb t) := ⟨_, rfl⟩
  rw [← ha] at HC ⊢
  clear h hc bA VB hL ha hN
  go_enter Tryz.func19, Tryz.ntmps19
  go_upto_region 1 with fail
  generalize w.alloc (.cells (ansC 0 0) 42) = w1 at *
  go_wp2_with fail
  refine HC.mono ?_
  rintro e w2 ⟨⟨v2, rfl, ve, va2, rfl, hev, hac⟩, ho2⟩
  have hV2 : VarN w2 w.heap.size 42 (ansC 0 0).toList := HVB.out.off ho2 fun z => by
    have := (HVL.out _ z).2
    omega
  have hb2 : Below N w w2 := (HBA.out.mono HNW.out).trans (ho2.below (Nat.le_trans HNW.out HBA.out.size) fun k z => (HVL.out k z).1)
  have HFI : Hid (∀ w', Off (fun k => k = w.heap.size) w2 w' → AnsV w' (fun k => N ≤ k) (.agg #[.int .i64 (a.err : Nat), .int .i64 a.n, ve, .int .i64 a.vu, va2]) a ∧ Below N w w') := fun w' ho => by
    have hk : ∀ k, k < w2.heap.size → (N ≤ k ∧ TyB w2 k 83) → w'.heap[k]? = w2.heap[k]? := fun k hk q => ho.block k hk fun z => by
      have z : k = w.heap.size := z
      exact q.2.ne hV2.ty (by decide) z
    exact ⟨⟨ve, va2, rfl, hev.move hk fun k _ q => q.1, hac.move hk fun k _ q => q.1⟩, hb2.trans (ho.below (Nat.le_trans HNW.out hb2.size) fun k z => by rw [z]; exact HNW.out)⟩
  have b0 := hV2.cell (i := 0) rfl
  have b1 := hV2.cell (i := 1) rfl
  have b2 := hV2.cell (i := 2) rfl
  have b3 := hV2.cell (i := 3) rfl
  have b4 := hV2.cell (i := 4) rfl
  have f0 := hV2.frozen 0
  have f1 := hV2.frozen 1
  have f2 := hV2.frozen 2
  have f3 := hV2.frozen 3
  have f4 := hV2.frozen 4
  obtain ⟨Ae, Ce, hve⟩ := hev.1.shape
  obtain ⟨Aa, Ca, hva⟩ := hac.1.shape
  subst hve
  subst hva
  clear HC hev hac ho2 hV2 hb2
  go_wp2_with fail
  refine bodyPost_ret (v := .agg #[.int .i64 (a.err : Nat), .int .i64 a.n, .slice Ae a.evs.length Ce, .int .i64 a.vu, .slice Aa a.vl.length Ca]) (by simp [results, Tryz.results19, go_sem, b0, b1, b2, b3, b4]) rfl ⟨⟨_, rfl, ?_⟩, ?_⟩
  · exact (HFI.out _ (off_five _ w.heap.size _ _ _ _ _)).1
  · exact (HFI.out _ (off_five _ w.heap.size _ _ _ _ _)).2
set_option maxHeartbeats 1000000 in
set_option maxRecDepth 100000 in
theorem do2_any (B N : Nat) (v : Value) (es : List EvC) (n : Int) (w : World) (h : EBuf w N v es) (hN : N ≤ w.heap.size) (hl : es.length ≤ 200000) (hc : w.cell? ⟨B, 1, none⟩ = some (.int .i64 n)) :
    Calls Tryz.prog 21 #[v, .pointer (some ⟨B, 0, none⟩)] w fun e w' => TellO e w' N (fromA (es.map evOf) n) ∧ Below N w w' := by
  have bA : Below w.heap.size w (w.alloc (.cells (ansC 0 0) 42)) := (Below.refl _ _).alloc (Nat.le_refl _) _
  have VB := varN_new w (ansC 0 0) 42
  have HC := from_any N v es n _ (h.below bA) hl
  have c7 := (bA.cell (p := ⟨B, 1, none⟩) (World.block_lt_of_cell? _ _ hc)).trans hc
  have HVL : Hid (∀ g, v.ownBlock = some g → N ≤ g ∧ g < w.heap.size) := fun g hg => h.1.lt g hg
  have HBA : Hid (Below w.heap.size w (w.alloc (.cells (ansC 0 0) 42))) := bA
  have HVB : Hid (VarN (w.alloc (.cells (ansC 0 0) 42)) w.heap.size 42 (ansC 0 0).toList) := VB
  have HNW : Hid (N ≤ w.heap.size) := hN
  obtain ⟨A, C, hv⟩ := h.shape
  obtain ⟨L, hL⟩ : ∃ L, L = es.length := ⟨_, rfl⟩
  rw [← hL] at hv
  subst hv
  obtain ⟨a, ha⟩ : ∃ a, a = fromA (es.map evOf) n := ⟨_, rfl⟩
  rw [← ha] at HC ⊢
  clear h hc bA VB hL ha hN
  go_enter Tryz.func21, Tryz.ntmps21
  go_upto_region 1 with fail
  generalize w.alloc (.cells (ansC 0 0) 42) = w1 at *
  go_wp2_with fail
  refine HC.mono ?_
  rintro e w2 ⟨⟨v2, rfl, ve, va2, rfl, hev, hac⟩, ho2⟩
  have hV2 : VarN w2 w.heap.size 42 (ansC 0 0).toList := HVB.out.off ho2 fun z => by
    have := (HVL.out _ z).2
    omega
  have hb2 : Below N w w2 := (HBA.out.mono HNW.out).trans (ho2.below (Nat.le_trans HNW.out HBA.out.size) fun k z => (HVL.out k z).1)
  have HFI : Hid (∀ w', Off (fun k => k = w.heap.size) w2 w' → AnsV w' (fun k => N ≤ k) (.agg #[.int .i64 (a.err : Nat), .int .i64 a.n, ve, .int .i64 a.vu, va2]) a ∧ Below N w w') := fun w' ho => by
    have hk : ∀ k, k < w2.heap.size → (N ≤ k ∧ TyB w2 k 83) → w'.heap[k]? = w2.heap[k]? := fun k hk q => ho.block k hk fun z => by
      have z : k = w.heap.size := z
      exact q.2.ne hV2.ty (by decide) z
    exact ⟨⟨ve, va2, rfl, hev.move hk fun k _ q => q.1, hac.move hk fun k _ q => q.1⟩, hb2.trans (ho.below (Nat.le_trans HNW.out hb2.size) fun k z => by rw [z]; exact HNW.out)⟩
  have b0 := hV2.cell (i := 0) rfl
  have b1 := hV2.cell (i := 1) rfl
  have b2 := hV2.cell (i := 2) rfl
  have b3 := hV2.cell (i := 3) rfl
  have b4 := hV2.cell (i := 4) rfl
  have f0 := hV2.frozen 0
  have f1 := hV2.frozen 1
  have f2 := hV2.frozen 2
  have f3 := hV2.frozen 3
  have f4 := hV2.frozen 4
  obtain ⟨Ae, Ce, hve⟩ := hev.1.shape
  obtain ⟨Aa, Ca, hva⟩ := hac.1.shape
  subst hve
  subst hva
  clear HC hev hac ho2 hV2 hb2
  go_wp2_with fail
  refine bodyPost_ret (v := .agg #[.int .i64 (a.err : Nat), .int .i64 a.n, .slice Ae a.evs.length Ce, .int .i64 a.vu, .slice Aa a.vl.length Ca]) (by simp [results, Tryz.results21, go_sem, b0, b1, b2, b3, b4]) rfl ⟨⟨_, rfl, ?_⟩, ?_⟩
  · exact (HFI.out _ (off_five _ w.heap.size _ _ _ _ _)).1
  · exact (HFI.out _ (off_five _ w.heap.size _ _ _ _ _)).2

section
variable {N R D : Nat} {F E : Nat → Prop} {c : Sto.Cfg} {s : Sto.St} {V : Nat → Value} {U : Nat → List HeC} {vt vs va : Value} {tc : List (Int × Sl)}
set_option maxHeartbeats 1000000 in
set_option maxRecDepth 100000 in
theorem do3_any (B : Nat) (q : Nat) (x : Sto.Disk) (k p : Int) (y : Nat) (w : World) (h : StP w N R F E c s D V U vt vs va tc) (hq : s.disks[q]? = some x) (hNw : N ≤ w.heap.size) (hy : y < 256) (c2 : w.cell? ⟨B, 2, none⟩ = some (.int .i64 k)) (c3 : w.cell? ⟨B, 3, none⟩ = some (.int .i64 p)) (c4 : w.cell? ⟨B, 4, none⟩ = some (.int .u8 (y : Int))) :
    Calls Tryz.prog 27 #[.pointer (some ⟨D, q * 2, none⟩), .pointer (some ⟨B, 0, none⟩)] w fun e w' => HarmO e w w' N R F E c s D vt vs va tc (spoilR s.disks q x k p y).1 (spoilR s.disks q x k p y).2 := by
  have HC := spoil_any q x k p y w h hq hNw hy
  obtain ⟨r, hr⟩ : ∃ r, r = spoilR s.disks q x k p y := ⟨_, rfl⟩
  rw [← hr] at HC ⊢
  clear h hr
  go_enter Tryz.func27, Tryz.ntmps27
  go_wp2_with fail
  refine HC.mono ?_
  rintro e w2 ⟨rfl, hP⟩
  clear HC
  go_wp2_with fail
  go_ret
  exact ⟨rfl, hP⟩
end

end Go.Proofs.YtmcaejooaaahdaaGreat
