/-
  Texts of the proof, joined: XAlive, HKeepS, HSeek.
-/
import Derived.Test.YtmcaejooaaahdaaGreatZ38
import Derived.Test.YtmcaejooaaahdaaGreatZ40
import Derived.Test.YtmcaejooaaahdaaGreatZ14
namespace Go.Proofs.YtmcaejooaaahdaaGreat
open Go.RowKit


theorem three_bytes {n : Nat} (h : n < 16777216) : Evt.Bytes (Evt.three n) := fun x hx => by
  unfold Evt.three at hx
  simp at hx
  omega
theorem bytes_app {a b : List Nat} (ha : Evt.Bytes a) (hb : Evt.Bytes b) : Evt.Bytes (a ++ b) := fun x hx => (List.mem_append.1 hx).elim (ha x) (hb x)
theorem bytes_cons {a : Nat} {b : List Nat} (ha : a < 256) (hb : Evt.Bytes b) : Evt.Bytes (a :: b) := fun x hx => by
  rcases List.mem_cons.1 hx with rfl | h
  · exact ha
  · exact hb x h
theorem bytes_flat {α : Type} {f : α → List Nat} {l : List α} (h : ∀ a, a ∈ l → Evt.Bytes (f a)) : Evt.Bytes (l.flatMap f) := fun x hx => by
  obtain ⟨a, ha, hx⟩ := List.mem_flatMap.1 hx
  exact h a ha x hx
theorem encE_bytes {e : Evt.Ev} (h : Evt.wrongE e = 0) : Evt.Bytes (Evt.encE e) := by
  obtain ⟨⟨hl, h1, h2⟩, h3, h4, h5, h6⟩ := Evt.wrongE_inv h
  unfold Evt.encE
  refine bytes_app (bytes_cons (by omega) ?_) (bytes_cons (by omega) (three_bytes (by omega)))
  intro x hx
  have := (Evt.letter_iff x).1 (List.all_eq_true.1 hl x hx)
  omega
theorem encB_bytes {b : Evt.Bat} (h : (Evt.wrongB b).1 = 0) : Evt.Bytes (Evt.encB b) := by
  obtain ⟨h1, h2, h3, h4, h5⟩ := Evt.wrongB_inv h
  unfold Evt.encB
  exact bytes_app (three_bytes (by omega)) (bytes_cons (by omega) (bytes_flat (fun e he => encE_bytes (h5 e he))))
theorem encL_bytes {l : List Evt.Bat} (h : (Evt.wrongL l).1 = 0) : Evt.Bytes (Evt.encL l) := by
  obtain ⟨h1, h2⟩ := Evt.wrongL_inv h
  unfold Evt.encL
  exact bytes_cons (by omega) (bytes_flat (fun e he => encB_bytes (h2 e he)))
theorem outL_bytes (l : List Evt.Bat) : Evt.Bytes (outL l) := by
  by_cases h : (Evt.wrongL l).1 = 0
  · rw [outL_ok h]
    exact encL_bytes h
  · rw [outL_no h]
    exact Evt.Bytes.nil
/-- Bytes of whatever batches, as bytes. -/
theorem bytesL_list (v : Value) (l : List Evt.Bat) (w : World) (h : Bats w v l) :
    Calls Tryz.prog 78 #[v] w fun e w' => ∃ A C, e = .returned (.tuple #[.slice A (outL l).length C, .agg #[.int .i64 ((Evt.wrongL l).1 : Nat), .int .i64 ((Evt.wrongL l).2 : Nat)]]) ∧ BytL w' (.slice A (outL l).length C) (outL l) ∧ Below w.heap.size w w' := by
  refine (bytesL_any v l w h).mono ?_
  rintro e w' ⟨v', rfl, hb, hw⟩
  have hy := hb.bytL (outL_bytes l)
  obtain ⟨A, C, rfl⟩ := hy.byts.shape
  exact ⟨A, C, rfl, hy, hw⟩
end Go.Proofs.YtmcaejooaaahdaaGreat

namespace Go.Proofs.YtmcaejooaaahdaaGreat
open Go.RowKit

/-! ### Plainly -/
def keepS (X : Sto.Six) (c : Sto.Cfg) (s : Sto.St) (b : Evt.Bat) : Nat × Sto.St :=
  if (s.tail ++ [b]).length < c.b then (0, { s with tail := s.tail ++ [b] })
  else if (Evt.wrongL (s.tail ++ [b])).1 ≠ 0 then ((Evt.wrongL (s.tail ++ [b])).1, s)
  else if (X.lay (Evt.encL (s.tail ++ [b])) s.segs c).1 ≠ 0 then ((X.lay (Evt.encL (s.tail ++ [b])) s.segs c).1, s)
  else (0, { s with disks := Sto.write s.segs (X.lay (Evt.encL (s.tail ++ [b])) s.segs c).2 0 s.disks, segs := s.segs + 1, tail := [] })
theorem laid_keep (X : Sto.Six) (c : Sto.Cfg) (s : Sto.St) (b : Evt.Bat) (v : Int × List Vw.Acc) :
    Sto.laid X c s b v = ((keepS X c s b).1, if (keepS X c s b).1 = 0 then { (keepS X c s b).2 with seen := s.seen.take (Sto.below b.cmd s.seen) ++ b.cmd :: s.seen.drop (Sto.below b.cmd s.seen), u := v.1, acc := v.2 } else s) := by
  unfold Sto.laid keepS
  dsimp only
  by_cases h1 : (s.tail ++ [b]).length < c.b
  · rw [if_pos h1, if_pos h1]
    rfl
  · rw [if_neg h1, if_neg h1]
    by_cases h2 : (Evt.wrongL (s.tail ++ [b])).1 ≠ 0
    · rw [if_pos h2, if_pos h2]
      dsimp only
      rw [if_neg h2]
    · rw [if_neg h2, if_neg h2]
      by_cases h3 : (X.lay (Evt.encL (s.tail ++ [b])) s.segs c).1 ≠ 0
      · rw [if_pos h3, if_pos h3]
        dsimp only
        rw [if_neg h3]
      · rw [if_neg h3, if_neg h3]
        rfl

/-! ### In memory -/
section
variable {w w0 : World} {N R D : Nat} {F E E1 : Nat → Prop} {c : Sto.Cfg} {s : Sto.St} {V : Nat → Value} {U : Nat → List HeC} {vt vs va v' : Value} {tc tc1 : List (Int × Sl)} {b : Evt.Bat}
theorem TailO.stored (h : TailO w0 w N R F E c s D V U vt vs va tc b v' E1 tc1) (hlt : s.tail.length + 1 < c.b) (hb : (Evt.wrongB b).1 = 0) :
    StP (w.setCell ⟨R, 5, none⟩ v') N R (fun k => F k ∨ v'.ownBlock = some k) E1 c { s with tail := s.tail ++ [b] } D V U v' vs va tc1 ∧ Frame w0 (w.setCell ⟨R, 5, none⟩ v') F (fun k => F k ∨ v'.ownBlock = some k) E E1 := by
  have hs := h.st
  have ho : Off (fun k => k = R) w (w.setCell ⟨R, 5, none⟩ v') := off_set w ⟨R, 5, none⟩ v'
  have hsz : (w.setCell ⟨R, 5, none⟩ v').heap.size = w.heap.size := Deep.nblk_setCell _ _ _
  have hvt : ∀ g, v'.ownBlock = some g → TyB w g 47 := fun g hg => owns_ty h.tl.own hg
  have hE1 : ∀ k, E1 k → k < w.heap.size ∧ ¬ F k ∧ v'.ownBlock ≠ some k := fun k q => by
    rcases h.new k q with z | ⟨z, zt⟩
    · refine ⟨(hs.dis k z).2, (hs.dis k z).1, fun e => ?_⟩
      rcases h.at' k e with z1 | z1
      · exact (hs.dis k z).1 z1
      · exact absurd (h.elt k z) (Nat.not_lt.2 z1)
    · exact ⟨zt.lt, fun q => absurd (h.flt k q) (Nat.not_lt.2 z), fun e => zt.ne (hvt k e) (by decide) rfl⟩
  refine ⟨hs.remake (s' := { s with tail := s.tail ++ [b] }) ho rfl (hs.var.set 5 v' (show 5 < 9 by decide)) (h.tl.move (fun k hk q => ho.block k hk fun e => (hE1 k q).2.1 (by rw [show k = R from e]; exact hs.fR)) (fun _ _ q => q) ho fun g hg e => (hvt g hg).ne hs.var.ty (by decide) e) (owns_off hs.seen ho fun g hg e => (owns_ty hs.seen hg).ne hs.var.ty (by decide) e) ((hs.acc.move (fun k hk q => ho.block k hk fun e => (hs.dis k q).1 (by rw [show k = R from e]; exact hs.fR)) fun k _ q => h.up k q)) (fun _ q => Or.inl q) (fun g hg => Or.inr hg) (fun g hg => Or.inl (hs.fS g hg)) (fun k q => ?_) (fun k q => ?_) ⟨hs.wf.len, hs.wf.d1, hs.wf.d8, hs.wf.s4, hs.wf.b1, hs.wf.b10, hs.wf.wd, hs.wf.segs, ?_, fun x hx => ?_, hs.wf.up, hs.wf.cmds, hs.wf.right⟩, ⟨h.off.trans (ho.wider fun k e => by rw [show k = R from e]; exact hs.fR), fun k q => ?_, fun k q => ?_⟩⟩
  · rw [hsz]
    rcases q with q | q
    · exact hs.lt k q
    · exact h.tl.own.lt k q
  · rw [hsz]
    exact ⟨fun z => z.elim (hE1 k q).2.1 (hE1 k q).2.2, (hE1 k q).1⟩
  · show (s.tail ++ [b]).length < c.b
    rw [List.length_append]
    exact hlt
  · rcases List.mem_append.1 hx with q | q
    · exact hs.wf.bats x q
    · rw [List.mem_singleton.1 q]
      exact hb
  · rcases q with q | q
    · exact Or.inl q
    · exact h.at' k q
  · exact (h.new k q).imp id (·.1)
theorem StP.laidS (hs : StP w N R F E c s D V U vt vs va tc) (hsg : s.segs ≤ 39) (x : Value) (hx : x = .int .i64 ((s.segs + 1 : Nat) : Int)) : StP ((w.setCell ⟨R, 4, none⟩ x).setCell ⟨R, 5, none⟩ (.slice none 0 0)) N R F E c { s with segs := s.segs + 1, tail := [] } D V U (.slice none 0 0) vs va [] ∧ Off (fun k => k = R) w ((w.setCell ⟨R, 4, none⟩ x).setCell ⟨R, 5, none⟩ (.slice none 0 0)) := by
  subst hx
  have ho : Off (fun k => k = R) w ((w.setCell ⟨R, 4, none⟩ (.int .i64 ((s.segs + 1 : Nat) : Int))).setCell ⟨R, 5, none⟩ (.slice none 0 0)) := ((Off.refl (fun k => k = R) w).set (p := ⟨R, 4, none⟩) rfl _).set (p := ⟨R, 5, none⟩) rfl _
  have hb1 := hs.wf.b1
  exact ⟨hs.remake (s' := { s with segs := s.segs + 1, tail := [] }) ho rfl ((hs.var.set 4 (.int .i64 ((s.segs + 1 : Nat) : Int)) (show 4 < 9 by decide)).set 5 (.slice none 0 0) (show 5 < 9 by decide)) ⟨World.ownsRow_nil _ _ _ _, rfl, fun i x y hx => (by cases hx)⟩ (owns_off hs.seen ho fun g hg e => (owns_ty hs.seen hg).ne hs.var.ty (by decide) e) ((hs.acc.move (fun k hk q => ho.block k hk fun e => (hs.dis k q).1 (by rw [show k = R from e]; exact hs.fR)) fun k _ q => q)) (fun _ q => q) (fun g hg => (by cases hg)) hs.fS (fun k q => ⟨(hs.lt k q).1, Nat.lt_of_lt_of_le (hs.lt k q).2 ho.size⟩) (fun k q => ⟨(hs.dis k q).1, Nat.lt_of_lt_of_le (hs.dis k q).2 ho.size⟩) ⟨hs.wf.len, hs.wf.d1, hs.wf.d8, hs.wf.s4, hs.wf.b1, hs.wf.b10, hs.wf.wd, (show s.segs + 1 ≤ 40 by omega), (show 0 < c.b by omega), fun x hx => (by cases hx), hs.wf.up, hs.wf.cmds, hs.wf.right⟩, ho⟩
end

/-! ### The call -/
/-- An error is told, and the store then. -/
def KeepO (e : Ending) (w w' : World) (N R : Nat) (F E : Nat → Prop) (c : Sto.Cfg) (vs va : Value) (r : Nat × Sto.St) : Prop := e = .returned (.int .i64 (r.1 : Nat)) ∧ ∃ F' E' D V U vt tc, StP w' N R F' E' c r.2 D V U vt vs va tc ∧ Frame w w' F F' E E'
theorem keepK {R B : Nat} {x y z : Value} {wX w3 : World} (b3 : Below wX.heap.size wX w3) (h : wX.cell? ⟨R, 5, none⟩ = some x ∧ wX.cell? ⟨B, 0, none⟩ = some y ∧ wX.cell? ⟨B, 1, none⟩ = some z) : w3.cell? ⟨R, 5, none⟩ = some x ∧ w3.cell? ⟨B, 0, none⟩ = some y ∧ w3.cell? ⟨B, 1, none⟩ = some z :=
  ⟨(b3.cell (p := ⟨R, 5, none⟩) (World.block_lt_of_cell? _ _ h.1)).trans h.1, (b3.cell (p := ⟨B, 0, none⟩) (World.block_lt_of_cell? _ _ h.2.1)).trans h.2.1, (b3.cell (p := ⟨B, 1, none⟩) (World.block_lt_of_cell? _ _ h.2.2)).trans h.2.2⟩
theorem keepTl {R B : Nat} {x y z : Value} {S : Nat → Prop} {wX w3 : World} (ho : Off S wX w3) (hB : ¬ S B) (hR : w3.cell? ⟨R, 5, none⟩ = some x) (h : wX.cell? ⟨R, 5, none⟩ = some x ∧ wX.cell? ⟨B, 0, none⟩ = some y ∧ wX.cell? ⟨B, 1, none⟩ = some z) : w3.cell? ⟨R, 5, none⟩ = some x ∧ w3.cell? ⟨B, 0, none⟩ = some y ∧ w3.cell? ⟨B, 1, none⟩ = some z :=
  ⟨hR, (World.cell?_of_block (a := ⟨B, 0, none⟩) (ho.block B (World.block_lt_of_cell? _ _ h.2.1) hB)).trans h.2.1, (World.cell?_of_block (a := ⟨B, 1, none⟩) (ho.block B (World.block_lt_of_cell? _ _ h.2.1) hB)).trans h.2.2⟩
theorem keepL {R : Nat} {x y z : Value} {w0 wX w3 : World} (b3 : Below wX.heap.size wX w3) (h : wX.cell? ⟨R, 4, none⟩ = some x ∧ wX.cell? ⟨R, 0, none⟩ = some y ∧ wX.cell? ⟨R, 1, none⟩ = some z ∧ Below w0.heap.size w0 wX) : w3.cell? ⟨R, 4, none⟩ = some x ∧ w3.cell? ⟨R, 0, none⟩ = some y ∧ w3.cell? ⟨R, 1, none⟩ = some z ∧ Below w0.heap.size w0 w3 :=
  ⟨(b3.cell (p := ⟨R, 4, none⟩) (World.block_lt_of_cell? _ _ h.1)).trans h.1, (b3.cell (p := ⟨R, 0, none⟩) (World.block_lt_of_cell? _ _ h.2.1)).trans h.2.1, (b3.cell (p := ⟨R, 1, none⟩) (World.block_lt_of_cell? _ _ h.2.2.1)).trans h.2.2.1, bt h.2.2.2 b3⟩
section
variable {N R D : Nat} {F E : Nat → Prop} {c : Sto.Cfg} {s : Sto.St} {V : Nat → Value} {U : Nat → List HeC} {vt vs va : Value} {tc : List (Int × Sl)} {X : Sto.Six}
set_option maxHeartbeats 4000000 in
set_option maxRecDepth 100000 in
theorem keep_any (hX : Sto.SixOk X) (w : World) (h : StP w N R F E c s D V U vt vs va tc) (b : Evt.Bat) (ve : Value) (he : Evs w ve b.evs) (hb : (Evt.wrongB b).1 = 0) (hNw : N ≤ w.heap.size) :
    Calls Tryz.prog 45 #[.pointer (some ⟨R, 0, none⟩), .agg #[.int .i64 b.cmd, ve]] w fun e w' => KeepO e w w' N R F E c vs va (keepS X c s b) := by
  obtain ⟨A, C, rfl⟩ := he.shape
  have b1 : Below w.heap.size w (w.alloc (.cells #[.int .i64 b.cmd, .slice A b.evs.length C] 47)) := (Below.refl _ _).alloc (Nat.le_refl _) _
  have VB := varN_new w #[.int .i64 b.cmd, .slice A b.evs.length C] 47
  have h1 := h.below b1
  have he1 := he.below b1
  have d0 := VB.cell (i := 0) rfl
  have d1 := VB.cell (i := 1) rfl
  have c5 := h1.var.cell (i := 5) rfl
  have hN1 := Nat.le_trans hNw b1.size
  have hel : b.evs.length ≤ 2000000 := by
    have := (Evt.wrongB_inv hb).2.2.2.1
    omega
  have HBF : Hid (¬ F w.heap.size) := fun q => absurd (h.lt _ q).2 (Nat.lt_irrefl _)
  have HW1 : Hid (w.heap.size ≤ (w.alloc (.cells #[.int .i64 b.cmd, .slice A b.evs.length C] 47)).heap.size) := b1.size
  have HX : Hid (Sto.SixOk X) := hX
  have HBB : Hid ((Evt.wrongB b).1 = 0) := hb
  clear h he hX hb hNw VB
  go_enter Tryz.func45, Tryz.ntmps45
  go_upto_region 1 with fail
  generalize w.alloc (.cells #[.int .i64 b.cmd, .slice A b.evs.length C] 47) = w1 at *
  have HCL := cloneE_any (.slice A b.evs.length C) b.evs w1.drew (he1.below (Below.refl _ _).drew) hel
  have TD : w1.drew.cell? ⟨R, 5, none⟩ = some vt ∧ w1.drew.cell? ⟨w.heap.size, 0, none⟩ = some (.int .i64 b.cmd) ∧ w1.drew.cell? ⟨w.heap.size, 1, none⟩ = some (.slice A b.evs.length C) := ⟨c5, d0, d1⟩
  go_region_held3 (fun w' => w'.cell? ⟨R, 5, none⟩ = some vt ∧ w'.cell? ⟨w.heap.size, 0, none⟩ = some (.int .i64 b.cmd) ∧ w'.cell? ⟨w.heap.size, 1, none⟩ = some (.slice A b.evs.length C))
    (first | with_reducible exact TD | with_reducible assumption | with_reducible exact keepK ((Below.refl _ _).alloc (Nat.le_refl _) _) (by assumption))
    (first | (go_at_call 77; refine HCL.mono ?_; rintro e3 w3 ⟨⟨v3, es3, rfl, hm3, hE3⟩, b3⟩; have S3 := keepK b3 TD; obtain ⟨A3, C3, rfl⟩ := hE3.shape)
           | (obtain ⟨v4, w4, hr4, E1, tc1, hT⟩ := app_tl h1 (w := w3.alloc (.cells #[.int .i64 b.cmd, .slice A3 es3.length C3] 47)) (bt (bt (Below.refl _ _).drew b3) ((Below.refl _ _).alloc (Nat.le_refl _) _)) b (hE3.below ((Below.refl _ _).alloc (Nat.le_refl _) _)) hm3 hN1 (p := w3.heap.size) ((varN_new w3 #[.int .i64 b.cmd, .slice A3 es3.length C3] 47).cell (i := 0) rfl) ((varN_new w3 #[.int .i64 b.cmd, .slice A3 es3.length C3] 47).cell (i := 1) rfl); refine app_tlo rfl (.tmp 14) (.tmp 21) rfl rfl rfl rfl hr4 ?_; have S4 := keepTl hT.off HBF.out (hT.st.var.cell (i := 5) rfl) TD))
  have HT : Hid (TailO w1 w4 N R F E c s D V U vt vs va tc b v4 E1 tc1) := hT
  have HF1 : Hid (Frame w w4 F F E E) := (Frame.of_below F E b1).trans ⟨hT.off, fun _ q => Or.inl q, fun _ q => Or.inl q⟩
  have c2 := hT.st.var.cell (i := 2) rfl
  have c5 := hT.st.var.cell (i := 5) rfl
  have hfz := hT.st.var.frozen 5
  have HBY := bytesL_list v4 (s.tail ++ [b]) w4 hT.tl.bats
  obtain ⟨L, hL⟩ : ∃ L, L = (s.tail ++ [b]).length := ⟨_, rfl⟩
  have HL : Hid (L = s.tail.length + 1) := by
    show L = s.tail.length + 1
    rw [hL, List.length_append]
    rfl
  obtain ⟨A4, C4, hv4⟩ : ∃ A4 C4, v4 = .slice A4 L C4 := by
    rcases hT.tl.own.2 with ⟨rfl, q⟩ | ⟨g, cap, cur, rfl, _⟩
    · exact ⟨none, 0, by rw [hL, q]⟩
    · exact ⟨_, _, by rw [hL]⟩
  have HKS : Hid (keepS X c s b = if L < c.b then (0, { s with tail := s.tail ++ [b] }) else if (Evt.wrongL (s.tail ++ [b])).1 ≠ 0 then ((Evt.wrongL (s.tail ++ [b])).1, s) else if (X.lay (Evt.encL (s.tail ++ [b])) s.segs c).1 ≠ 0 then ((X.lay (Evt.encL (s.tail ++ [b])) s.segs c).1, s) else (0, { s with disks := Sto.write s.segs (X.lay (Evt.encL (s.tail ++ [b])) s.segs c).2 0 s.disks, segs := s.segs + 1, tail := [] })) := by
    show keepS X c s b = _
    rw [hL]
    rfl
  have HN4 : Hid (N ≤ w4.heap.size) := Nat.le_trans hN1 hT.off.size
  subst hv4
  clear hT hL HCL TD S3 S4 hr4 hE3 hm3 b3 h1 he1 d0 d1 hel b1 hN1 HBF
  by_cases hlt : L < c.b
  · have hlt' : (L : Int) < (c.b : Int) := by omega
    have HR : Hid (KeepO (.returned (.int .i64 0)) w (w4.setCell ⟨R, 5, none⟩ (.slice A4 L C4)) N R F E c vs va (keepS X c s b)) := by
      show KeepO _ _ _ _ _ _ _ _ _ _ _
      rw [HKS.out, if_pos hlt]
      obtain ⟨q1, q2⟩ := HT.out.stored (by rw [← HL.out]; exact hlt) HBB.out
      exact ⟨rfl, _, _, _, _, _, _, _, q1, ⟨HF1.out.off.trans ((off_set _ _ _).wider fun k e => by rw [show k = R from e]; exact HT.out.st.fR), fun k q => by
        rcases q2.growF k q with z | z
        · exact Or.inl z
        · exact Or.inr (Nat.le_trans HW1.out z), fun k q => by
        rcases q2.growE k q with z | z
        · exact Or.inl z
        · exact Or.inr (Nat.le_trans HW1.out z)⟩⟩
    clear HBY
    go_wp2_with fail
    go_ret
    exact HR.out
  · have hlt' : ¬ (L : Int) < (c.b : Int) := by omega
    obtain ⟨x, hx⟩ : ∃ x, x = (Evt.wrongL (s.tail ++ [b])).1 := ⟨_, rfl⟩
    obtain ⟨y, hy⟩ : ∃ y, y = (Evt.wrongL (s.tail ++ [b])).2 := ⟨_, rfl⟩
    obtain ⟨r, hr⟩ : ∃ r, r = outL (s.tail ++ [b]) := ⟨_, rfl⟩
    have HRE : Hid (x = 0 → r = Evt.encL (s.tail ++ [b])) := fun q => by rw [hr, outL_ok (by rw [← hx]; exact q)]
    have HXX : Hid (x = (Evt.wrongL (s.tail ++ [b])).1) := hx
    have HNL : Hid (¬ L < c.b) := hlt
    rw [← hx, ← hy, ← hr] at HBY
    obtain ⟨lr, hlr⟩ : ∃ lr, lr = r.length := ⟨_, rfl⟩
    rw [← hlr] at HBY
    clear hx hy hr hlr hlt c5 hfz
    go_wp2_with fail
    refine HBY.mono ?_
    rintro e5 w5 ⟨A5, C5, rfl, hY5, b5⟩
    have bA : Below w5.heap.size w5 (w5.alloc (.cells #[.int .i64 (x : Nat), .int .i64 (y : Nat)] 78)) := (Below.refl _ _).alloc (Nat.le_refl _) _
    have HB6 : Hid (Below w4.heap.size w4 (w5.alloc (.cells #[.int .i64 (x : Nat), .int .i64 (y : Nat)] 78))) := bt b5 bA
    clear HBY
    go_upto_region 6 with fail
    have f0 := (varN_new w5 #[.int .i64 (x : Nat), .int .i64 (y : Nat)] 78).cell (i := 0) rfl
    have hY6 := hY5.below bA
    generalize w5.alloc (.cells #[.int .i64 (x : Nat), .int .i64 (y : Nat)] 78) = w6 at *
    have HP6 : Hid (StP w6 N R F E c s D V U vt vs va tc) := HT.out.st.below HB6.out
    have HF6 : Hid (Frame w w6 F F E E) := HF1.out.trans (Frame.of_below F E HB6.out)
    have HN6 : Hid (N ≤ w6.heap.size) := Nat.le_trans HN4.out HB6.out.size
    clear HT HF1 HN4 HB6 hY5 bA b5 c2
    by_cases hx0 : x = 0
    case neg =>
      have HR : Hid (KeepO (.returned (.int .i64 (x : Nat))) w w6 N R F E c vs va (keepS X c s b)) := by
        show KeepO _ _ _ _ _ _ _ _ _ _ _
        rw [HKS.out, if_neg HNL.out, if_pos (by rw [← HXX.out]; exact hx0), ← HXX.out]
        exact ⟨rfl, _, _, _, _, _, _, _, HP6.out, HF6.out⟩
      have hxn : ((x : Int) != 0) = true := by rw [bne_iff_ne]; omega
      clear hx0 hY6
      go_wp2_with fail
      go_ret
      exact HR.out
    case pos =>
      have HRX : Hid (r = Evt.encL (s.tail ++ [b])) := HRE.out hx0
      have hxn : ((x : Int) != 0) = false := by rw [bne_eq_false_iff_eq]; omega
      have HX0 : Hid ((Evt.wrongL (s.tail ++ [b])).1 = 0) := by
        show (Evt.wrongL (s.tail ++ [b])).1 = 0
        rw [← HXX.out]
        exact hx0
      have HKS2 : Hid (keepS X c s b = if (Sto.layX r s.segs c).1 ≠ 0 then ((Sto.layX r s.segs c).1, s) else (0, { s with disks := Sto.write s.segs (Sto.layX r s.segs c).2 0 s.disks, segs := s.segs + 1, tail := [] })) := by
        show keepS X c s b = _
        rw [HKS.out, if_neg HNL.out, if_neg (fun z => z HX0.out), HX.out.lay, ← HRX.out]
      have c4 := HP6.out.var.cell (i := 4) rfl
      have c0 := HP6.out.var.cell (i := 0) rfl
      have c1 := HP6.out.var.cell (i := 1) rfl
      obtain ⟨n, hn⟩ : ∃ n, n = s.segs := ⟨_, rfl⟩
      have HNS : Hid (n = s.segs) := hn
      have hn40 : n ≤ 40 := by rw [hn]; exact HP6.out.wf.segs
      have HLY := layX_any (.slice A5 lr C5) r s.segs c w6.drew (hY6.below (Below.refl _ _).drew)
      obtain ⟨Z, hZ⟩ : ∃ Z, Z = Sto.layX r s.segs c := ⟨_, rfl⟩
      have HZ : Hid (Z = Sto.layX r s.segs c) := hZ
      rw [← hZ] at HLY HKS2
      rw [← hn] at c4 HLY
      clear hn hZ HKS HNL HRE HXX hx0 hY6
      have TD : w6.drew.cell? ⟨R, 4, none⟩ = some (.int .i64 (n : Int)) ∧ w6.drew.cell? ⟨R, 0, none⟩ = some (.int .i64 (c.d : Int)) ∧ w6.drew.cell? ⟨R, 1, none⟩ = some (.int .i64 (c.s : Int)) ∧ Below w6.heap.size w6 w6.drew := ⟨c4, c0, c1, (Below.refl _ _).drew⟩
      go_wp2_with fail
      go_region_held3 (fun w' => w'.cell? ⟨R, 4, none⟩ = some (.int .i64 (n : Int)) ∧ w'.cell? ⟨R, 0, none⟩ = some (.int .i64 (c.d : Int)) ∧ w'.cell? ⟨R, 1, none⟩ = some (.int .i64 (c.s : Int)) ∧ Below w6.heap.size w6 w')
        (first | with_reducible exact TD | with_reducible assumption)
        (first | (go_at_call 79; refine HLY.mono ?_; rintro e7 w7 ⟨⟨v7, rfl, hO7⟩, b7⟩; have S7 := keepL b7 TD))
      have b67 := S7.2.2.2
      clear S7 TD HLY b7
      obtain ⟨z, LL⟩ := Z
      have hO7 : (z = 0 ∧ ∃ Y, LayB w7 w6.heap.size v7 LL Y) ∨ (z ≠ 0 ∧ v7 = .slice none 0 0) := hO7
      by_cases hz0 : z = 0
      case neg =>
        have HR : Hid (KeepO (.returned (.int .i64 (z : Nat))) w w7 N R F E c vs va (keepS X c s b)) := by
          show KeepO _ _ _ _ _ _ _ _ _ _ _
          rw [HKS2.out, if_pos hz0]
          exact ⟨rfl, _, _, _, _, _, _, _, HP6.out.below b67, HF6.out.trans (Frame.of_below F E b67)⟩
        obtain rfl : v7 = .slice none 0 0 := by
          rcases hO7 with ⟨q, _⟩ | ⟨_, q⟩
          · exact absurd q hz0
          · exact q
        have hzn : ((z : Int) != 0) = true := by rw [bne_iff_ne]; omega
        clear hz0 hO7
        go_wp2_with fail
        go_ret
        exact HR.out
      case pos =>
        subst hz0
        obtain ⟨Y, hY⟩ : ∃ Y, LayB w7 w6.heap.size v7 LL Y := by
          rcases hO7 with ⟨_, q⟩ | ⟨q, _⟩
          · exact q
          · exact absurd rfl q
        obtain ⟨⟨_, _, _, q39, _⟩, qL, _⟩ := Sto.layX_inv HZ.out.symm
        have hml : LL.length = s.disks.length := by rw [qL, HP6.out.wf.len]
        have hn39 : n ≤ 39 := by rw [HNS.out]; exact q39
        have HH := heldS_any HP6.out b67 hY hml n (by omega) HN6.out
        have HKS3 : Hid (keepS X c s b = (0, { s with disks := Sto.write n LL 0 s.disks, segs := s.segs + 1, tail := [] })) := by
          show keepS X c s b = _
          rw [HKS2.out, if_neg (fun z => z rfl), HNS.out]
        obtain ⟨b9, c9, hv9, _⟩ := hY.at (by rw [hml, HP6.out.wf.len]; have := HP6.out.wf.d1; omega)
        rw [hv9] at HH ⊢
        have c47 := (HP6.out.below b67).var.cell (i := 4) rfl
        rw [← HNS.out] at c47
        clear hO7 hY hv9 HKS2 qL q39 HZ hml
        go_wp2_with fail
        refine HH.mono ?_
        rintro e8 w8 ⟨rfl, F8, V8, U8, hP8, hF8⟩
        have c48 : w8.cell? ⟨R, 4, none⟩ = some (.int .i64 (s.segs : Int)) := hP8.var.cell (i := 4) rfl
        rw [← HNS.out] at c48
        have z4 := hP8.var.frozen 4
        have z5 := hP8.var.frozen 5
        have c58 := hP8.var.cell (i := 5) rfl
        have HR : Hid (KeepO (.returned (.int .i64 0)) w ((w8.setCell ⟨R, 4, none⟩ (.int .i64 ((n : Int) + 1))).setCell ⟨R, 5, none⟩ (.slice none 0 0)) N R F E c vs va (keepS X c s b)) := by
          show KeepO _ _ _ _ _ _ _ _ _ _ _
          rw [HKS3.out]
          obtain ⟨q1, q2⟩ := hP8.laidS (by show s.segs ≤ 39; rw [← HNS.out]; exact hn39) (.int .i64 ((n : Int) + 1)) (by rw [HNS.out]; rfl)
          exact ⟨rfl, _, _, _, _, _, _, _, q1, (HF6.out.trans hF8).trans ⟨q2.wider fun k e => by rw [show k = R from e]; exact hP8.fR, fun _ q => Or.inl q, fun _ q => Or.inl q⟩⟩
        clear hP8 hF8 HH
        go_wp2_with fail
        go_ret
        exact HR.out
end

end Go.Proofs.YtmcaejooaaahdaaGreat

namespace Go.Proofs.YtmcaejooaaahdaaGreat
open Go.RowKit

set_option maxHeartbeats 400000 in
theorem isNaNS_any (a : Int) (w : World) : Calls Tryz.prog 71 #[.int .i64 a] w fun e w' => e = .returned (.bool false) ∧ w' = w := by
  go_enter Tryz.func71, Tryz.ntmps71
  go_wp2_with fail
  go_ret
  exact ⟨rfl, rfl⟩
set_option maxHeartbeats 400000 in
theorem isNaNC_any (a : Int) (w : World) : Calls Tryz.prog 102 #[.int .i64 a] w fun e w' => e = .returned (.bool false) ∧ w' = w := by
  go_enter Tryz.func102, Tryz.ntmps102
  go_wp2_with fail
  go_ret
  exact ⟨rfl, rfl⟩
set_option maxHeartbeats 400000 in
theorem lessI_any (a b : Int) (w : World) : Calls Tryz.prog 70 #[.int .i64 a, .int .i64 b] w fun e w' => e = .returned (.bool (decide (a < b))) ∧ w' = w := by
  have H := isNaNC_any a w
  go_enter Tryz.func70, Tryz.ntmps70
  go_wp2_with fail
  refine H.mono ?_
  rintro e w1 ⟨rfl, rfl⟩
  clear H
  go_wp2_with fail
  go_ret
  exact ⟨rfl, rfl⟩

/-- Ints that came in or were made. -/
def InsIn (w : World) (v : Value) (l : List Int) : Prop := ∃ A C, v = .slice A l.length C ∧ l.length ≤ C ∧ C ≤ maxLen ∧ ∀ i x, l[i]? = some x → ∃ b o, A = some ⟨b, o, none⟩ ∧ w.cell? ⟨b, o + i, none⟩ = some (.int .i64 x)
theorem insIn_of {w : World} {N : Nat} {v : Value} {l : List Int} (h : w.ownsRow N 3 1 v l.length (l.flatMap inCells)) : InsIn w v l := by
  rcases h.2 with ⟨rfl, h0⟩ | ⟨g, cap, cur, rfl, _, _, h1, h2, _⟩
  · obtain rfl : l = [] := List.eq_nil_of_length_eq_zero h0
    exact ⟨none, 0, rfl, Nat.le_refl _, Nat.zero_le _, fun i x hx => (by cases hx)⟩
  · refine ⟨_, cap, rfl, h1, h2, fun i x hx => ⟨g, 0, rfl, ?_⟩⟩
    have hf := flat_get inCells 1 l (fun _ _ => rfl) i 0 (by omega) x hx
    have := h.cells (g := g) rfl (i * 1 + 0) _ hf
    rw [WideShapes.add_plain] at this
    rw [show 0 + i = 0 + (i * 1 + 0) by omega]
    exact this
set_option maxHeartbeats 1000000 in
set_option maxRecDepth 100000 in
theorem seek_any (t : Int) (vs : Value) (l : List Int) (w : World) (h : InsIn w vs l) (hup : UpI l) (hn : l.length ≤ 100000) :
    Calls Tryz.prog 42 #[vs, .int .i64 t] w fun e w' => FoundI e l t ∧ w' = w := by
  have HSO : Hid (UpI l) := hup
  obtain ⟨A, C, rfl, _, hC, ha⟩ := h
  have hC' : C ≤ 9223372036854775807 := by unfold maxLen at hC; exact hC
  clear hup hC
  go_enter Tryz.func42, Tryz.ntmps42
  go_wp2_with fail
  go_loopw [7, 8] (fun x y wr => ∃ i j : Nat, i ≤ j ∧ j ≤ l.length ∧ x = .int .i64 i ∧ y = .int .i64 j ∧ Hid (∀ k a, k < i → l[k]? = some a → a < t) ∧ Hid (∀ k a, j ≤ k → l[k]? = some a → t ≤ a) ∧ wr = w) (fun x y _ => (intOf y).toNat - (intOf x).toNat)
  case atStart => exact ⟨0, l.length, Nat.zero_le _, Nat.le_refl _, rfl, rfl, fun k a hk => absurd hk (Nat.not_lt_zero k), fun k a hk ha => absurd (List.getElem?_eq_some_iff.1 ha).1 (by omega), rfl⟩
  case round =>
    obtain ⟨i, j, hij, hjl, rfl, rfl, HLO, HHI, rfl⟩ := hrel
    by_cases hlt : i < j
    · have hlt' : (i : Int) < (j : Int) := by omega
      obtain ⟨q, hq⟩ : ∃ q, q = (i + j) / 2 := ⟨_, rfl⟩
      have hq1 : i ≤ q := by omega
      have hq2 : q < j := by omega
      obtain ⟨a, hak⟩ : ∃ a, l[q]? = some a := ⟨l[q], List.getElem?_eq_getElem (by omega)⟩
      obtain ⟨b, o, rfl, d0⟩ := ha q a hak
      have HAK : Hid (l[q]? = some a) := hak
      have HC := lessI_any a t wr
      have HQ : Hid (q = (i + j) / 2) := hq
      rw [hq] at d0
      clear ha hak hq
      by_cases hc : a < t
      · have HLT : Hid (a < t) := hc
        have hcb : decide (a < t) = true := decide_eq_true hc
        rw [hcb] at HC
        go_wp2_with fail
        refine HC.mono ?_
        rintro e w1 ⟨rfl, rfl⟩
        clear HC
        go_wp2_with fail
        refine ⟨⟨q + 1, j, by omega, hjl, val_int (by have := HQ.out; omega), rfl, fun k x hk hx => ?_, HHI.out, trivial⟩, ?_⟩
        · exact Int.lt_of_le_of_lt (upI_le HSO.out hx HAK.out (by omega)) HLT.out
        · have := HQ.out
          simp [intOf]
          omega
      · have HLT : Hid (t ≤ a) := Int.not_lt.1 hc
        have hcb : decide (a < t) = false := decide_eq_false hc
        rw [hcb] at HC
        go_wp2_with fail
        refine HC.mono ?_
        rintro e w1 ⟨rfl, rfl⟩
        clear HC
        go_wp2_with fail
        refine ⟨⟨i, q, hq1, by omega, rfl, val_int (by have := HQ.out; omega), HLO.out, fun k x hk hx => ?_, trivial⟩, ?_⟩
        · exact Int.le_trans HLT.out (upI_le HSO.out HAK.out hx hk)
        · have := HQ.out
          simp [intOf]
          omega
    · obtain rfl : i = j := by omega
      by_cases hin : i < l.length
      · have hin' : (i : Int) < (l.length : Int) := by omega
        obtain ⟨a, hak⟩ : ∃ a, l[i]? = some a := ⟨l[i], List.getElem?_eq_getElem hin⟩
        obtain ⟨b, o, rfl, d0⟩ := ha i a hak
        have HF3 : Hid (FoundI (.returned (.tuple #[.int .i64 (i : Nat), .bool (a == t)])) l t) := ⟨i, a == t, rfl, ⟨hjl, HLO.out, HHI.out⟩, by
          rw [beq_iff_eq, hak, Option.some.injEq]⟩
        have HC := isNaNS_any a wr
        clear ha hak
        by_cases hat : a = t
        · have hab : (a == t) = true := beq_iff_eq.2 hat
          rw [hab] at HF3
          clear HC hat
          go_wp2_with fail
          go_ret2
          exact ⟨HF3.out, rfl⟩
        · have hab : (a == t) = false := by rw [beq_eq_false_iff_ne]; exact hat
          rw [hab] at HF3
          clear hat
          go_wp2_with fail
          refine HC.mono ?_
          rintro e w1 ⟨rfl, rfl⟩
          clear HC
          go_wp2_with fail
          go_ret2
          exact ⟨HF3.out, rfl⟩
      · have hin' : ¬ (i : Int) < (l.length : Int) := by omega
        have HF : Hid (FoundI (.returned (.tuple #[.int .i64 (i : Nat), .bool false])) l t) := ⟨i, false, rfl, ⟨hjl, HLO.out, HHI.out⟩, ⟨fun e => absurd e (by decide), fun hx => absurd (List.getElem?_eq_some_iff.1 hx).1 (by omega)⟩⟩
        clear ha
        go_wp2_with fail
        go_ret2
        exact ⟨HF.out, rfl⟩

end Go.Proofs.YtmcaejooaaahdaaGreat
