/-
  Texts of the proof, joined: HDo.
-/
import Derived.Test.YtmcaejooaaahdaaGreatZ45
namespace Go.Proofs.YtmcaejooaaahdaaGreat
open Go.RowKit

/-! ### Plainly -/
theorem step_read {X : Sto.Six} {c : Sto.Cfg} {s : Sto.St} {d : Sto.Do} (h : d.kind = 2) : Sto.step X c s d = (s, askA (Sto.all X c s) (ofA (Sto.all X c s).2 d.name)) := by
  unfold Sto.step
  rw [if_neg (by omega), if_pos (Or.inl h)]
  unfold Sto.looks askA ofA
  rw [if_neg (show ¬ d.kind = 4 by omega), if_neg (show ¬ d.kind = 3 by omega)]
theorem step_all {X : Sto.Six} {c : Sto.Cfg} {s : Sto.St} {d : Sto.Do} (h : d.kind = 3) : Sto.step X c s d = (s, askA (Sto.all X c s) (fromA (Sto.all X c s).2 d.n)) := by
  unfold Sto.step
  rw [if_neg (by omega), if_pos (Or.inr (Or.inl h))]
  unfold Sto.looks askA fromA
  rw [if_neg (show ¬ d.kind = 4 by omega), if_pos h]
theorem step_view {X : Sto.Six} {c : Sto.Cfg} {s : Sto.St} {d : Sto.Do} (h : d.kind = 4) : Sto.step X c s d = (s, askA (Sto.all X c s) (viewA (Sto.all X c s).2)) := by
  unfold Sto.step
  rw [if_neg (by omega), if_pos (Or.inr (Or.inr h))]
  unfold Sto.looks askA viewA
  rw [if_pos h]
theorem step_harm {X : Sto.Six} {c : Sto.Cfg} {s : Sto.St} {d : Sto.Do} (h : d.kind = 5 ∨ d.kind = 6 ∨ d.kind = 7) : Sto.step X c s d = Sto.harm s d := by
  unfold Sto.step
  rw [if_neg (by omega), if_neg (by omega), if_pos h]
theorem harm_none {s : Sto.St} {d : Sto.Do} (h : d.n < 0 ∨ (s.disks.length : Int) ≤ d.n) : Sto.harm s d = (s, Sto.no 6) := by
  unfold Sto.harm
  cases hx : s.disks[d.n.toNat]? with
  | none => rfl
  | some x =>
    dsimp only
    by_cases q : d.n < 0
    · rw [if_pos q]
    · have := (List.getElem?_eq_some_iff.1 hx).1
      omega
theorem harm_lose {s : Sto.St} {d : Sto.Do} {q : Nat} {x : Sto.Disk} (hk : d.kind = 5) (hn : d.n = (q : Int)) (hx : s.disks[q]? = some x) : Sto.harm s d = ({ s with disks := if x.gone then s.disks else s.disks.set q ⟨true, []⟩ }, ⟨if x.gone then 8 else 0, 0, [], 0, []⟩) := by
  unfold Sto.harm
  rw [hn, Int.toNat_natCast, hx]
  dsimp only
  rw [if_neg (show ¬ (q : Int) < 0 by omega)]
  by_cases g : x.gone = true
  · rw [if_pos ⟨hk, g⟩, if_pos g, if_pos g]
    rfl
  · rw [if_neg (fun z => g z.2), if_pos (Or.inl hk), if_neg g, if_neg g, decide_eq_true hk]
    rfl
theorem harm_swap {s : Sto.St} {d : Sto.Do} {q : Nat} {x : Sto.Disk} (hk : d.kind = 6) (hn : d.n = (q : Int)) (hx : s.disks[q]? = some x) : Sto.harm s d = ({ s with disks := s.disks.set q ⟨false, []⟩ }, ⟨0, 0, [], 0, []⟩) := by
  unfold Sto.harm
  rw [hn, Int.toNat_natCast, hx]
  dsimp only
  rw [if_neg (show ¬ (q : Int) < 0 by omega), if_neg (fun z => by omega), if_pos (Or.inr hk), decide_eq_false (by omega)]
  rfl
theorem harm_spoil {s : Sto.St} {d : Sto.Do} {q : Nat} {x : Sto.Disk} (hk : d.kind = 7) (hn : d.n = (q : Int)) (hx : s.disks[q]? = some x) : Sto.harm s d = ({ s with disks := (spoilR s.disks q x d.seg d.pos d.turn).2 }, ⟨(spoilR s.disks q x d.seg d.pos d.turn).1, 0, [], 0, []⟩) := by
  unfold Sto.harm spoilR
  rw [hn, Int.toNat_natCast, hx]
  dsimp only
  rw [if_neg (show ¬ (q : Int) < 0 by omega), if_neg (fun z => by omega), if_neg (fun z => by omega)]
  cases x.bl.find? (fun h => decide (h.1 = d.seg)) with
  | none => rfl
  | some h =>
    dsimp only
    by_cases g : d.pos < 0 ∨ (h.2.length : Int) ≤ d.pos
    · rw [if_pos g, if_pos g]
      rfl
    · rw [if_neg g, if_neg g]
      rfl
theorem step_scrub {X : Sto.Six} {c : Sto.Cfg} {s : Sto.St} {d : Sto.Do} (h : d.kind = 8) : Sto.step X c s d = ({ s with disks := (Sto.scrub X c s.segs 0 s.disks 0 0).1 }, ⟨(Sto.scrub X c s.segs 0 s.disks 0 0).2.1, (Sto.scrub X c s.segs 0 s.disks 0 0).2.2, [], 0, []⟩) := by
  unfold Sto.step
  rw [if_neg (by omega), if_neg (by omega), if_neg (by omega), if_pos h]
theorem step_health {X : Sto.Six} {c : Sto.Cfg} {s : Sto.St} {d : Sto.Do} (h : d.kind = 9) : Sto.step X c s d = (s, ⟨0, (Sto.health X s.disks s.segs 0 0 : Nat), [], 0, []⟩) := by
  unfold Sto.step
  rw [if_neg (by omega), if_neg (by omega), if_neg (by omega), if_neg (by omega), if_pos h]
  rfl
theorem step_none {X : Sto.Six} {c : Sto.Cfg} {s : Sto.St} {d : Sto.Do} (h : ∀ k : Int, 1 ≤ k → k ≤ 9 → d.kind ≠ k) : Sto.step X c s d = (s, ⟨1, 0, [], 0, []⟩) := by
  have h1 := h 1 (by omega) (by omega)
  have h2 := h 2 (by omega) (by omega)
  have h3 := h 3 (by omega) (by omega)
  have h4 := h 4 (by omega) (by omega)
  have h5 := h 5 (by omega) (by omega)
  have h6 := h 6 (by omega) (by omega)
  have h7 := h 7 (by omega) (by omega)
  have h8 := h 8 (by omega) (by omega)
  have h9 := h 9 (by omega) (by omega)
  unfold Sto.step
  rw [if_neg h1, if_neg (by omega), if_neg (by omega), if_neg h8, if_neg h9]
  rfl

/-! ### The answer is written -/
section
variable {w w2 w3 : World} {N R D : Nat} {F E : Nat → Prop} {c : Sto.Cfg} {s : Sto.St} {V : Nat → Value} {U : Nat → List HeC} {vt vs va : Value} {tc : List (Int × Sl)} {d : Sto.Do} {ve : Value} {t : ByteArray} {r : Sto.St × Sto.Ans} {v : Value}
theorem PW.fin (hp : PW w w2 N R F E c s D V U vt vs va tc d ve t) (h : DoO (.returned v) w2 w3 N R F E c r) :
    ∃ Ae Ce Aa Ca, v = .agg #[.int .i64 (r.2.err : Nat), .int .i64 r.2.n, .slice Ae r.2.evs.length Ce, .int .i64 r.2.vu, .slice Aa r.2.vl.length Ca] ∧ VarN w3 (w.heap.size + 1) 42 (ansC 0 0).toList ∧ ∀ w', Off (fun k => k = w.heap.size + 1) w3 w' → DoO (.returned v) w w' N R F E c r := by
  obtain ⟨v', F', E', hv, hS, hF, ve', va', hag, h1, h2⟩ := h
  cases hv
  have hB2 : w.heap.size + 1 < w2.heap.size := World.block_lt_of_cell? _ _ (hp.va.cell (i := 0) rfl)
  have hno : ∀ k, k = w.heap.size + 1 → ¬ F k ∧ ¬ F' k ∧ ¬ E' k := fun k e => by
    refine ⟨fun z => ?_, fun z => ?_, fun z => ?_⟩
    · have := hp.lt k (Or.inl z)
      omega
    · rcases hF.growF k z with q | q
      · have := hp.lt k (Or.inl q)
        omega
      · omega
    · rcases hF.growE k z with q | q
      · have := hp.lt k (Or.inr q)
        omega
      · omega
  obtain ⟨Ae, Ce, he⟩ := h1.1.shape
  obtain ⟨Aa, Ca, ha⟩ := h2.1.shape
  refine ⟨Ae, Ce, Aa, Ca, by rw [hag, he, ha], hp.va.off hF.off (hno _ rfl).1, fun w' ho => ?_⟩
  have hk : ∀ k, k < w3.heap.size → E' k → w'.heap[k]? = w3.heap[k]? := fun k hk q => ho.block k hk fun z => (hno k z).2.2 q
  have hf := (Frame.of_below F E hp.bel).trans hF
  exact ⟨_, F', E', rfl, hS.out ho fun k e => (hno k e).2, ⟨hf.off.past ho fun k e hl => by
    have e : k = w.heap.size + 1 := e
    omega, hf.growF, hf.growE⟩, ve', va', hag, h1.move hk fun _ _ q => q, h2.move hk fun _ _ q => q⟩
end

section
variable {N R D : Nat} {F E : Nat → Prop} {c : Sto.Cfg} {s : Sto.St} {V : Nat → Value} {U : Nat → List HeC} {vt vs va : Value} {tc : List (Int × Sl)} {X : Sto.Six}
set_option maxHeartbeats 8000000 in
set_option maxRecDepth 100000 in
theorem do_any (hX : Sto.SixOk X) (w : World) (h : StP w N R F E c s D V U vt vs va tc) (d : Sto.Do) (ve : Value) (t : ByteArray) (hd : DoIn w d ve t) (hNw : N ≤ w.heap.size) :
    Calls Tryz.prog 10 #[.pointer (some ⟨R, 0, none⟩), .agg (doCells d ve t).toArray] w fun e w' => DoO e w w' N R F E c (Sto.step X c s d) := by
  obtain ⟨A, C, rfl⟩ := hd.evs.shape
  show Calls Tryz.prog 10 #[.pointer (some ⟨R, 0, none⟩), .agg #[.int .i64 d.kind, .int .i64 d.n, .int .i64 d.seg, .int .i64 d.pos, .int .u8 (d.turn : Int), .int .i64 d.bat.cmd, .slice A d.bat.evs.length C, .string t, .int .i64 d.ver]] w fun e w' => DoO e w w' N R F E c (Sto.step X c s d)
  have HPW : Hid (PW w ((w.alloc (.cells #[.int .i64 d.kind, .int .i64 d.n, .int .i64 d.seg, .int .i64 d.pos, .int .u8 (d.turn : Int), .int .i64 d.bat.cmd, .slice A d.bat.evs.length C, .string t, .int .i64 d.ver] 49)).alloc (.cells (ansC 0 0) 42)) N R F E c s D V U vt vs va tc d (.slice A d.bat.evs.length C) t) := pw_start h hd
  obtain ⟨r, hr⟩ : ∃ r, r = Sto.step X c s d := ⟨_, rfl⟩
  have HRR : Hid (Sto.step X c s d = r) := hr.symm
  rw [← hr]
  have eg1 := Tryz.enters_do1
  have eg2 := Tryz.enters_do2
  have eg3 := Tryz.enters_do3
  have eg4 := Tryz.enters_viewOf
  have eg5 := Tryz.enters_lose
  have eg6 := Tryz.enters_swap
  have HX : Hid (Sto.SixOk X) := hX
  have HNW : Hid (N ≤ w.heap.size) := hNw
  clear h hd hX hNw hr
  go_enter Tryz.func10, Tryz.ntmps10
  go_upto_region 1 with fail
  generalize (w.alloc (.cells #[.int .i64 d.kind, .int .i64 d.n, .int .i64 d.seg, .int .i64 d.pos, .int .u8 (d.turn : Int), .int .i64 d.bat.cmd, .slice A d.bat.evs.length C, .string t, .int .i64 d.ver] 49)).alloc (.cells (ansC 0 0) 42) = w2 at HPW ⊢
  have HN2 : Hid (N ≤ w2.heap.size) := Nat.le_trans HNW.out HPW.out.bel.size
  have e0 : w2.cell? ⟨w.heap.size, 0, none⟩ = some (.int .i64 d.kind) := HPW.out.vd.cell (i := 0) rfl
  have e1 : w2.cell? ⟨w.heap.size, 1, none⟩ = some (.int .i64 d.n) := HPW.out.vd.cell (i := 1) rfl
  have e2 : w2.cell? ⟨w.heap.size, 2, none⟩ = some (.int .i64 d.seg) := HPW.out.vd.cell (i := 2) rfl
  have e3 : w2.cell? ⟨w.heap.size, 3, none⟩ = some (.int .i64 d.pos) := HPW.out.vd.cell (i := 3) rfl
  have e4 : w2.cell? ⟨w.heap.size, 4, none⟩ = some (.int .u8 (d.turn : Int)) := HPW.out.vd.cell (i := 4) rfl
  have e5 : w2.cell? ⟨w.heap.size, 5, none⟩ = some (.int .i64 d.bat.cmd) := HPW.out.vd.cell (i := 5) rfl
  have e6 : w2.cell? ⟨w.heap.size, 6, none⟩ = some (.slice A d.bat.evs.length C) := HPW.out.vd.cell (i := 6) rfl
  have e7 : w2.cell? ⟨w.heap.size, 7, none⟩ = some (.string t) := HPW.out.vd.cell (i := 7) rfl
  have e8 : w2.cell? ⟨w.heap.size, 8, none⟩ = some (.int .i64 d.ver) := HPW.out.vd.cell (i := 8) rfl
  by_cases k1 : d.kind = 1
  · have HC : Calls Tryz.prog 17 #[.pointer (some ⟨R, 0, none⟩), .agg #[.int .i64 d.kind, .int .i64 d.n, .int .i64 d.seg, .int .i64 d.pos, .int .u8 (d.turn : Int), .int .i64 d.bat.cmd, .slice A d.bat.evs.length C, .string t, .int .i64 d.ver]] w2 fun e w' => DoO e w2 w' N R F E c r := by
      rw [← HRR.out, Sto.step_put k1]
      exact put_any HX.out w2 HPW.out.st d (.slice A d.bat.evs.length C) t HPW.out.din HN2.out
    have kb1 : (d.kind == 1) = true := beq_iff_eq.2 k1
    clear k1
    go_wp2_with fail
    refine HC.mono ?_
    rintro e w3 hD
    obtain ⟨v3, rfl⟩ : ∃ v3, e = .returned v3 := by
      obtain ⟨v, _, _, rfl, _⟩ := hD
      exact ⟨v, rfl⟩
    obtain ⟨Ae, Ce, Aa, Ca, rfl, hV3, HF⟩ := HPW.out.fin hD
    have HFI : Hid (∀ w', Off (fun k => k = w.heap.size + 1) w3 w' → DoO (.returned (.agg #[.int .i64 (r.2.err : Nat), .int .i64 r.2.n, .slice Ae r.2.evs.length Ce, .int .i64 r.2.vu, .slice Aa r.2.vl.length Ca])) w w' N R F E c r) := HF
    have b0 := hV3.cell (i := 0) rfl
    have b1 := hV3.cell (i := 1) rfl
    have b2 := hV3.cell (i := 2) rfl
    have b3 := hV3.cell (i := 3) rfl
    have b4 := hV3.cell (i := 4) rfl
    have f0 := hV3.frozen 0
    have f1 := hV3.frozen 1
    have f2 := hV3.frozen 2
    have f3 := hV3.frozen 3
    have f4 := hV3.frozen 4
    obtain ⟨ae, hae⟩ : ∃ x, x = r.2.evs.length := ⟨_, rfl⟩
    obtain ⟨aa, haa⟩ : ∃ x, x = r.2.vl.length := ⟨_, rfl⟩
    rw [← hae, ← haa] at HFI
    rw [← hae, ← haa]
    clear HC hD hV3 HF hae haa
    go_wp2_with fail
    refine bodyPost_ret (v := .agg #[.int .i64 (r.2.err : Nat), .int .i64 r.2.n, .slice Ae ae Ce, .int .i64 r.2.vu, .slice Aa aa Ca]) (by simp [results, Tryz.results10, go_sem, b0, b1, b2, b3, b4]) rfl ?_
    exact HFI.out _ (off_five _ _ _ _ _ _ _)
  have kb1 : (d.kind == 1) = false := by rw [beq_eq_false_iff_ne]; exact k1
  have K1 : Hid (d.kind ≠ 1) := k1
  clear k1
  by_cases k2 : d.kind = 2
  · have HC : Calls Tryz.prog 18 #[.pointer (some ⟨R, 0, none⟩), .func (.func 19) #[] #[.pointer (some ⟨w.heap.size, 0, none⟩)]] w2 fun e w' => DoO e w2 w' N R F E c r := by
      rw [← HRR.out, step_read k2]
      refine (tell1_any HX.out 19 (.pointer (some ⟨w.heap.size, 0, none⟩)) eg1 (ofA (Sto.all X c s).2 d.name) w2 HPW.out.st ?_).mono fun e w' q => tell_do HPW.out.st q.1 q.2
      intro v es w' hE hm _ hb hN
      have q := do1_any w.heap.size (w2.heap.size + 1) v es t w' hE hN HPW.out.din.sz ((hb.cell (p := ⟨w.heap.size, 7, none⟩) (World.block_lt_of_cell? _ _ e7)).trans e7)
      rw [hm, HPW.out.din.name] at q
      exact q
    have kb2 : (d.kind == 2) = true := beq_iff_eq.2 k2
    clear k2
    go_wp2_with fail
    refine HC.mono ?_
    rintro e w3 hD
    obtain ⟨v3, rfl⟩ : ∃ v3, e = .returned v3 := by
      obtain ⟨v, _, _, rfl, _⟩ := hD
      exact ⟨v, rfl⟩
    obtain ⟨Ae, Ce, Aa, Ca, rfl, hV3, HF⟩ := HPW.out.fin hD
    have HFI : Hid (∀ w', Off (fun k => k = w.heap.size + 1) w3 w' → DoO (.returned (.agg #[.int .i64 (r.2.err : Nat), .int .i64 r.2.n, .slice Ae r.2.evs.length Ce, .int .i64 r.2.vu, .slice Aa r.2.vl.length Ca])) w w' N R F E c r) := HF
    have b0 := hV3.cell (i := 0) rfl
    have b1 := hV3.cell (i := 1) rfl
    have b2 := hV3.cell (i := 2) rfl
    have b3 := hV3.cell (i := 3) rfl
    have b4 := hV3.cell (i := 4) rfl
    have f0 := hV3.frozen 0
    have f1 := hV3.frozen 1
    have f2 := hV3.frozen 2
    have f3 := hV3.frozen 3
    have f4 := hV3.frozen 4
    obtain ⟨ae, hae⟩ : ∃ x, x = r.2.evs.length := ⟨_, rfl⟩
    obtain ⟨aa, haa⟩ : ∃ x, x = r.2.vl.length := ⟨_, rfl⟩
    rw [← hae, ← haa] at HFI
    rw [← hae, ← haa]
    clear HC hD hV3 HF hae haa
    go_wp2_with fail
    refine bodyPost_ret (v := .agg #[.int .i64 (r.2.err : Nat), .int .i64 r.2.n, .slice Ae ae Ce, .int .i64 r.2.vu, .slice Aa aa Ca]) (by simp [results, Tryz.results10, go_sem, b0, b1, b2, b3, b4]) rfl ?_
    exact HFI.out _ (off_five _ _ _ _ _ _ _)
  have kb2 : (d.kind == 2) = false := by rw [beq_eq_false_iff_ne]; exact k2
  have K2 : Hid (d.kind ≠ 2) := k2
  clear k2
  by_cases k3 : d.kind = 3
  · have HC : Calls Tryz.prog 18 #[.pointer (some ⟨R, 0, none⟩), .func (.func 21) #[] #[.pointer (some ⟨w.heap.size, 0, none⟩)]] w2 fun e w' => DoO e w2 w' N R F E c r := by
      rw [← HRR.out, step_all k3]
      refine (tell1_any HX.out 21 (.pointer (some ⟨w.heap.size, 0, none⟩)) eg2 (fromA (Sto.all X c s).2 d.n) w2 HPW.out.st ?_).mono fun e w' q => tell_do HPW.out.st q.1 q.2
      intro v es w' hE hm hl hb hN
      have q := do2_any w.heap.size (w2.heap.size + 1) v es d.n w' hE hN hl ((hb.cell (p := ⟨w.heap.size, 1, none⟩) (World.block_lt_of_cell? _ _ e1)).trans e1)
      rw [hm] at q
      exact q
    have kb3 : (d.kind == 3) = true := beq_iff_eq.2 k3
    clear k3
    go_wp2_with fail
    refine HC.mono ?_
    rintro e w3 hD
    obtain ⟨v3, rfl⟩ : ∃ v3, e = .returned v3 := by
      obtain ⟨v, _, _, rfl, _⟩ := hD
      exact ⟨v, rfl⟩
    obtain ⟨Ae, Ce, Aa, Ca, rfl, hV3, HF⟩ := HPW.out.fin hD
    have HFI : Hid (∀ w', Off (fun k => k = w.heap.size + 1) w3 w' → DoO (.returned (.agg #[.int .i64 (r.2.err : Nat), .int .i64 r.2.n, .slice Ae r.2.evs.length Ce, .int .i64 r.2.vu, .slice Aa r.2.vl.length Ca])) w w' N R F E c r) := HF
    have b0 := hV3.cell (i := 0) rfl
    have b1 := hV3.cell (i := 1) rfl
    have b2 := hV3.cell (i := 2) rfl
    have b3 := hV3.cell (i := 3) rfl
    have b4 := hV3.cell (i := 4) rfl
    have f0 := hV3.frozen 0
    have f1 := hV3.frozen 1
    have f2 := hV3.frozen 2
    have f3 := hV3.frozen 3
    have f4 := hV3.frozen 4
    obtain ⟨ae, hae⟩ : ∃ x, x = r.2.evs.length := ⟨_, rfl⟩
    obtain ⟨aa, haa⟩ : ∃ x, x = r.2.vl.length := ⟨_, rfl⟩
    rw [← hae, ← haa] at HFI
    rw [← hae, ← haa]
    clear HC hD hV3 HF hae haa
    go_wp2_with fail
    refine bodyPost_ret (v := .agg #[.int .i64 (r.2.err : Nat), .int .i64 r.2.n, .slice Ae ae Ce, .int .i64 r.2.vu, .slice Aa aa Ca]) (by simp [results, Tryz.results10, go_sem, b0, b1, b2, b3, b4]) rfl ?_
    exact HFI.out _ (off_five _ _ _ _ _ _ _)
  have kb3 : (d.kind == 3) = false := by rw [beq_eq_false_iff_ne]; exact k3
  have K3 : Hid (d.kind ≠ 3) := k3
  clear k3
  by_cases k4 : d.kind = 4
  · have HC : Calls Tryz.prog 18 #[.pointer (some ⟨R, 0, none⟩), .func (.func 23) #[] #[]] w2 fun e w' => DoO e w2 w' N R F E c r := by
      rw [← HRR.out, step_view k4]
      refine (tell0_any HX.out 23 eg4 (viewA (Sto.all X c s).2) w2 HPW.out.st ?_).mono fun e w' q => tell_do HPW.out.st q.1 q.2
      intro v es w' hE hm _ _ hN
      have q := viewOf_any (w2.heap.size + 1) v es w' hE hN
      rw [hm] at q
      exact q
    have kb4 : (d.kind == 4) = true := beq_iff_eq.2 k4
    clear k4
    go_wp2_with fail
    refine HC.mono ?_
    rintro e w3 hD
    obtain ⟨v3, rfl⟩ : ∃ v3, e = .returned v3 := by
      obtain ⟨v, _, _, rfl, _⟩ := hD
      exact ⟨v, rfl⟩
    obtain ⟨Ae, Ce, Aa, Ca, rfl, hV3, HF⟩ := HPW.out.fin hD
    have HFI : Hid (∀ w', Off (fun k => k = w.heap.size + 1) w3 w' → DoO (.returned (.agg #[.int .i64 (r.2.err : Nat), .int .i64 r.2.n, .slice Ae r.2.evs.length Ce, .int .i64 r.2.vu, .slice Aa r.2.vl.length Ca])) w w' N R F E c r) := HF
    have b0 := hV3.cell (i := 0) rfl
    have b1 := hV3.cell (i := 1) rfl
    have b2 := hV3.cell (i := 2) rfl
    have b3 := hV3.cell (i := 3) rfl
    have b4 := hV3.cell (i := 4) rfl
    have f0 := hV3.frozen 0
    have f1 := hV3.frozen 1
    have f2 := hV3.frozen 2
    have f3 := hV3.frozen 3
    have f4 := hV3.frozen 4
    obtain ⟨ae, hae⟩ : ∃ x, x = r.2.evs.length := ⟨_, rfl⟩
    obtain ⟨aa, haa⟩ : ∃ x, x = r.2.vl.length := ⟨_, rfl⟩
    rw [← hae, ← haa] at HFI
    rw [← hae, ← haa]
    clear HC hD hV3 HF hae haa
    go_wp2_with fail
    refine bodyPost_ret (v := .agg #[.int .i64 (r.2.err : Nat), .int .i64 r.2.n, .slice Ae ae Ce, .int .i64 r.2.vu, .slice Aa aa Ca]) (by simp [results, Tryz.results10, go_sem, b0, b1, b2, b3, b4]) rfl ?_
    exact HFI.out _ (off_five _ _ _ _ _ _ _)
  have kb4 : (d.kind == 4) = false := by rw [beq_eq_false_iff_ne]; exact k4
  have K4 : Hid (d.kind ≠ 4) := k4
  clear k4
  by_cases k5 : d.kind = 5
  · have HC : Calls Tryz.prog 24 #[.pointer (some ⟨R, 0, none⟩), .int .i64 d.n, .func (.func 25) #[] #[]] w2 fun e w' => DoO e w2 w' N R F E c r := by
      rw [← HRR.out, step_harm (Or.inl k5)]
      by_cases hn : d.n < 0 ∨ (s.disks.length : Int) ≤ d.n
      · rw [harm_none hn]
        exact (change0_none 25 d.n w2 HPW.out.st hn).mono fun e w' q => change_do q
      · obtain ⟨q, hq⟩ : ∃ q : Nat, d.n = (q : Int) := ⟨d.n.toNat, by omega⟩
        have hql : q < s.disks.length := by omega
        obtain ⟨x, hx⟩ : ∃ x, s.disks[q]? = some x := ⟨s.disks[q], List.getElem?_eq_getElem hql⟩
        rw [harm_lose k5 hq hx, hq]
        exact (change0_some 25 eg5 q _ _ w2 HPW.out.st hql fun w' V' U' hb hS => lose_any q x w' hS hx (Nat.le_trans HN2.out hb.size)).mono fun e w' z => change_do z
    have kb5 : (d.kind == 5) = true := beq_iff_eq.2 k5
    clear k5
    go_wp2_with fail
    refine HC.mono ?_
    rintro e w3 hD
    obtain ⟨v3, rfl⟩ : ∃ v3, e = .returned v3 := by
      obtain ⟨v, _, _, rfl, _⟩ := hD
      exact ⟨v, rfl⟩
    obtain ⟨Ae, Ce, Aa, Ca, rfl, hV3, HF⟩ := HPW.out.fin hD
    have HFI : Hid (∀ w', Off (fun k => k = w.heap.size + 1) w3 w' → DoO (.returned (.agg #[.int .i64 (r.2.err : Nat), .int .i64 r.2.n, .slice Ae r.2.evs.length Ce, .int .i64 r.2.vu, .slice Aa r.2.vl.length Ca])) w w' N R F E c r) := HF
    have b0 := hV3.cell (i := 0) rfl
    have b1 := hV3.cell (i := 1) rfl
    have b2 := hV3.cell (i := 2) rfl
    have b3 := hV3.cell (i := 3) rfl
    have b4 := hV3.cell (i := 4) rfl
    have f0 := hV3.frozen 0
    have f1 := hV3.frozen 1
    have f2 := hV3.frozen 2
    have f3 := hV3.frozen 3
    have f4 := hV3.frozen 4
    obtain ⟨ae, hae⟩ : ∃ x, x = r.2.evs.length := ⟨_, rfl⟩
    obtain ⟨aa, haa⟩ : ∃ x, x = r.2.vl.length := ⟨_, rfl⟩
    rw [← hae, ← haa] at HFI
    rw [← hae, ← haa]
    clear HC hD hV3 HF hae haa
    go_wp2_with fail
    refine bodyPost_ret (v := .agg #[.int .i64 (r.2.err : Nat), .int .i64 r.2.n, .slice Ae ae Ce, .int .i64 r.2.vu, .slice Aa aa Ca]) (by simp [results, Tryz.results10, go_sem, b0, b1, b2, b3, b4]) rfl ?_
    exact HFI.out _ (off_five _ _ _ _ _ _ _)
  have kb5 : (d.kind == 5) = false := by rw [beq_eq_false_iff_ne]; exact k5
  have K5 : Hid (d.kind ≠ 5) := k5
  clear k5
  by_cases k6 : d.kind = 6
  · have HC : Calls Tryz.prog 24 #[.pointer (some ⟨R, 0, none⟩), .int .i64 d.n, .func (.func 26) #[] #[]] w2 fun e w' => DoO e w2 w' N R F E c r := by
      rw [← HRR.out, step_harm (Or.inr (Or.inl k6))]
      by_cases hn : d.n < 0 ∨ (s.disks.length : Int) ≤ d.n
      · rw [harm_none hn]
        exact (change0_none 26 d.n w2 HPW.out.st hn).mono fun e w' q => change_do q
      · obtain ⟨q, hq⟩ : ∃ q : Nat, d.n = (q : Int) := ⟨d.n.toNat, by omega⟩
        have hql : q < s.disks.length := by omega
        obtain ⟨x, hx⟩ : ∃ x, s.disks[q]? = some x := ⟨s.disks[q], List.getElem?_eq_getElem hql⟩
        rw [harm_swap k6 hq hx, hq]
        exact (change0_some 26 eg6 q _ _ w2 HPW.out.st hql fun w' V' U' hb hS => swap_any q x w' hS hx (Nat.le_trans HN2.out hb.size)).mono fun e w' z => change_do z
    have kb6 : (d.kind == 6) = true := beq_iff_eq.2 k6
    clear k6
    go_wp2_with fail
    refine HC.mono ?_
    rintro e w3 hD
    obtain ⟨v3, rfl⟩ : ∃ v3, e = .returned v3 := by
      obtain ⟨v, _, _, rfl, _⟩ := hD
      exact ⟨v, rfl⟩
    obtain ⟨Ae, Ce, Aa, Ca, rfl, hV3, HF⟩ := HPW.out.fin hD
    have HFI : Hid (∀ w', Off (fun k => k = w.heap.size + 1) w3 w' → DoO (.returned (.agg #[.int .i64 (r.2.err : Nat), .int .i64 r.2.n, .slice Ae r.2.evs.length Ce, .int .i64 r.2.vu, .slice Aa r.2.vl.length Ca])) w w' N R F E c r) := HF
    have b0 := hV3.cell (i := 0) rfl
    have b1 := hV3.cell (i := 1) rfl
    have b2 := hV3.cell (i := 2) rfl
    have b3 := hV3.cell (i := 3) rfl
    have b4 := hV3.cell (i := 4) rfl
    have f0 := hV3.frozen 0
    have f1 := hV3.frozen 1
    have f2 := hV3.frozen 2
    have f3 := hV3.frozen 3
    have f4 := hV3.frozen 4
    obtain ⟨ae, hae⟩ : ∃ x, x = r.2.evs.length := ⟨_, rfl⟩
    obtain ⟨aa, haa⟩ : ∃ x, x = r.2.vl.length := ⟨_, rfl⟩
    rw [← hae, ← haa] at HFI
    rw [← hae, ← haa]
    clear HC hD hV3 HF hae haa
    go_wp2_with fail
    refine bodyPost_ret (v := .agg #[.int .i64 (r.2.err : Nat), .int .i64 r.2.n, .slice Ae ae Ce, .int .i64 r.2.vu, .slice Aa aa Ca]) (by simp [results, Tryz.results10, go_sem, b0, b1, b2, b3, b4]) rfl ?_
    exact HFI.out _ (off_five _ _ _ _ _ _ _)
  have kb6 : (d.kind == 6) = false := by rw [beq_eq_false_iff_ne]; exact k6
  have K6 : Hid (d.kind ≠ 6) := k6
  clear k6
  by_cases k7 : d.kind = 7
  · have HC : Calls Tryz.prog 24 #[.pointer (some ⟨R, 0, none⟩), .int .i64 d.n, .func (.func 27) #[] #[.pointer (some ⟨w.heap.size, 0, none⟩)]] w2 fun e w' => DoO e w2 w' N R F E c r := by
      rw [← HRR.out, step_harm (Or.inr (Or.inr k7))]
      by_cases hn : d.n < 0 ∨ (s.disks.length : Int) ≤ d.n
      · rw [harm_none hn]
        exact (change1_none 27 (.pointer (some ⟨w.heap.size, 0, none⟩)) d.n w2 HPW.out.st hn).mono fun e w' q => change_do q
      · obtain ⟨q, hq⟩ : ∃ q : Nat, d.n = (q : Int) := ⟨d.n.toNat, by omega⟩
        have hql : q < s.disks.length := by omega
        obtain ⟨x, hx⟩ : ∃ x, s.disks[q]? = some x := ⟨s.disks[q], List.getElem?_eq_getElem hql⟩
        rw [harm_spoil k7 hq hx, hq]
        exact (change1_some 27 (.pointer (some ⟨w.heap.size, 0, none⟩)) eg3 q _ _ w2 HPW.out.st hql fun w' V' U' hb hS => do3_any w.heap.size q x d.seg d.pos d.turn w' hS hx (Nat.le_trans HN2.out hb.size) HPW.out.din.byte ((hb.cell (p := ⟨w.heap.size, 2, none⟩) (World.block_lt_of_cell? _ _ e2)).trans e2) ((hb.cell (p := ⟨w.heap.size, 3, none⟩) (World.block_lt_of_cell? _ _ e3)).trans e3) ((hb.cell (p := ⟨w.heap.size, 4, none⟩) (World.block_lt_of_cell? _ _ e4)).trans e4)).mono fun e w' z => change_do z
    have kb7 : (d.kind == 7) = true := beq_iff_eq.2 k7
    clear k7
    go_wp2_with fail
    refine HC.mono ?_
    rintro e w3 hD
    obtain ⟨v3, rfl⟩ : ∃ v3, e = .returned v3 := by
      obtain ⟨v, _, _, rfl, _⟩ := hD
      exact ⟨v, rfl⟩
    obtain ⟨Ae, Ce, Aa, Ca, rfl, hV3, HF⟩ := HPW.out.fin hD
    have HFI : Hid (∀ w', Off (fun k => k = w.heap.size + 1) w3 w' → DoO (.returned (.agg #[.int .i64 (r.2.err : Nat), .int .i64 r.2.n, .slice Ae r.2.evs.length Ce, .int .i64 r.2.vu, .slice Aa r.2.vl.length Ca])) w w' N R F E c r) := HF
    have b0 := hV3.cell (i := 0) rfl
    have b1 := hV3.cell (i := 1) rfl
    have b2 := hV3.cell (i := 2) rfl
    have b3 := hV3.cell (i := 3) rfl
    have b4 := hV3.cell (i := 4) rfl
    have f0 := hV3.frozen 0
    have f1 := hV3.frozen 1
    have f2 := hV3.frozen 2
    have f3 := hV3.frozen 3
    have f4 := hV3.frozen 4
    obtain ⟨ae, hae⟩ : ∃ x, x = r.2.evs.length := ⟨_, rfl⟩
    obtain ⟨aa, haa⟩ : ∃ x, x = r.2.vl.length := ⟨_, rfl⟩
    rw [← hae, ← haa] at HFI
    rw [← hae, ← haa]
    clear HC hD hV3 HF hae haa
    go_wp2_with fail
    refine bodyPost_ret (v := .agg #[.int .i64 (r.2.err : Nat), .int .i64 r.2.n, .slice Ae ae Ce, .int .i64 r.2.vu, .slice Aa aa Ca]) (by simp [results, Tryz.results10, go_sem, b0, b1, b2, b3, b4]) rfl ?_
    exact HFI.out _ (off_five _ _ _ _ _ _ _)
  have kb7 : (d.kind == 7) = false := by rw [beq_eq_false_iff_ne]; exact k7
  have K7 : Hid (d.kind ≠ 7) := k7
  clear k7
  by_cases k8 : d.kind = 8
  · have HC : Calls Tryz.prog 29 #[.pointer (some ⟨R, 0, none⟩)] w2 fun e w' => DoO e w2 w' N R F E c r := by
      rw [← HRR.out, step_scrub k8]
      refine (scrub_any HX.out w2 HPW.out.st HN2.out).mono ?_
      rintro e w' ⟨rfl, F', V', U', q1, q2⟩
      exact ⟨_, F', E, rfl, ⟨_, _, _, _, _, _, _, q1⟩, q2, ansV_plain _ _ _ _⟩
    have kb8 : (d.kind == 8) = true := beq_iff_eq.2 k8
    clear k8
    go_wp2_with fail
    refine HC.mono ?_
    rintro e w3 hD
    obtain ⟨v3, rfl⟩ : ∃ v3, e = .returned v3 := by
      obtain ⟨v, _, _, rfl, _⟩ := hD
      exact ⟨v, rfl⟩
    obtain ⟨Ae, Ce, Aa, Ca, rfl, hV3, HF⟩ := HPW.out.fin hD
    have HFI : Hid (∀ w', Off (fun k => k = w.heap.size + 1) w3 w' → DoO (.returned (.agg #[.int .i64 (r.2.err : Nat), .int .i64 r.2.n, .slice Ae r.2.evs.length Ce, .int .i64 r.2.vu, .slice Aa r.2.vl.length Ca])) w w' N R F E c r) := HF
    have b0 := hV3.cell (i := 0) rfl
    have b1 := hV3.cell (i := 1) rfl
    have b2 := hV3.cell (i := 2) rfl
    have b3 := hV3.cell (i := 3) rfl
    have b4 := hV3.cell (i := 4) rfl
    have f0 := hV3.frozen 0
    have f1 := hV3.frozen 1
    have f2 := hV3.frozen 2
    have f3 := hV3.frozen 3
    have f4 := hV3.frozen 4
    obtain ⟨ae, hae⟩ : ∃ x, x = r.2.evs.length := ⟨_, rfl⟩
    obtain ⟨aa, haa⟩ : ∃ x, x = r.2.vl.length := ⟨_, rfl⟩
    rw [← hae, ← haa] at HFI
    rw [← hae, ← haa]
    clear HC hD hV3 HF hae haa
    go_wp2_with fail
    refine bodyPost_ret (v := .agg #[.int .i64 (r.2.err : Nat), .int .i64 r.2.n, .slice Ae ae Ce, .int .i64 r.2.vu, .slice Aa aa Ca]) (by simp [results, Tryz.results10, go_sem, b0, b1, b2, b3, b4]) rfl ?_
    exact HFI.out _ (off_five _ _ _ _ _ _ _)
  have kb8 : (d.kind == 8) = false := by rw [beq_eq_false_iff_ne]; exact k8
  have K8 : Hid (d.kind ≠ 8) := k8
  clear k8
  by_cases k9 : d.kind = 9
  · have HC := health_any HX.out w2 HPW.out.st
    obtain ⟨n, hn⟩ : ∃ n, n = Sto.health X s.disks s.segs 0 0 := ⟨_, rfl⟩
    rw [← hn] at HC
    have HR9 : Hid (r = (s, ⟨0, (n : Nat), [], 0, []⟩)) := by
      show r = _
      rw [← HRR.out, step_health k9, hn]
    have kb9 : (d.kind == 9) = true := beq_iff_eq.2 k9
    clear k9 hn
    go_wp2_with fail
    refine HC.mono ?_
    rintro e w3 ⟨rfl, hb3⟩
    have HP3 := HPW.out.below hb3
    have hV3 := HP3.va
    have HFI : Hid (∀ w', Off (fun k => k = w.heap.size + 1) w3 w' → DoO (.returned (ansVal 0 (n : Nat))) w w' N R F E c r) := fun w' ho => by
      rw [HR9.out]
      exact HP3.same ho 0 (n : Nat)
    have b0 := hV3.cell (i := 0) rfl
    have b1 := hV3.cell (i := 1) rfl
    have b2 := hV3.cell (i := 2) rfl
    have b3 := hV3.cell (i := 3) rfl
    have b4 := hV3.cell (i := 4) rfl
    have f0 := hV3.frozen 0
    have f1 := hV3.frozen 1
    have f2 := hV3.frozen 2
    have f3 := hV3.frozen 3
    have f4 := hV3.frozen 4
    clear HC hb3 HP3 hV3
    go_wp2_with fail
    refine bodyPost_ret (v := ansVal 0 (n : Nat)) (by simp [results, Tryz.results10, go_sem, b0, b1, b2, b3, b4]) rfl ?_
    exact HFI.out _ (off_five _ _ _ _ _ _ _)
  have kb9 : (d.kind == 9) = false := by rw [beq_eq_false_iff_ne]; exact k9
  have HR0 : Hid (r = (s, ⟨1, 0, [], 0, []⟩)) := by
    show r = _
    rw [← HRR.out]
    refine step_none fun k h1 h2 e => ?_
    have z1 := K1.out
    have z2 := K2.out
    have z3 := K3.out
    have z4 := K4.out
    have z5 := K5.out
    have z6 := K6.out
    have z7 := K7.out
    have z8 := K8.out
    omega
  have hV3 := HPW.out.va
  have HFI : Hid (∀ w', Off (fun k => k = w.heap.size + 1) w2 w' → DoO (.returned (ansVal 1 0)) w w' N R F E c r) := fun w' ho => by
    rw [HR0.out]
    exact HPW.out.same ho 1 0
  have b0 := hV3.cell (i := 0) rfl
  have b1 := hV3.cell (i := 1) rfl
  have b2 := hV3.cell (i := 2) rfl
  have b3 := hV3.cell (i := 3) rfl
  have b4 := hV3.cell (i := 4) rfl
  have f0 := hV3.frozen 0
  have f1 := hV3.frozen 1
  have f2 := hV3.frozen 2
  have f3 := hV3.frozen 3
  have f4 := hV3.frozen 4
  clear k9 hV3
  go_wp2_with fail
  refine bodyPost_ret (v := ansVal 1 0) (by simp [results, Tryz.results10, go_sem, b0, b1, b2, b3, b4]) rfl ?_
  exact HFI.out _ (off_five _ _ _ _ _ _ _)
end

end Go.Proofs.YtmcaejooaaahdaaGreat
