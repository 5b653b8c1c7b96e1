/-
  Texts of the proof, joined: HPlayA, HPlay.
-/
import Derived.Test.YtmcaejooaaahdaaGreatZ46
namespace Go.Proofs.YtmcaejooaaahdaaGreat
open Go.RowKit

/-! ### A setup -/
def wrongS (d s b : Int) : Nat := if wrongC d s ≠ 0 then wrongC d s else if b < 1 ∨ 10 < b then 3 else 0
theorem wrongS_ok {d s b : Int} (h : wrongS d s b = 0) : 1 ≤ d ∧ d ≤ 8 ∧ 0 ≤ s ∧ s ≤ 4 ∧ 1 ≤ b ∧ b ≤ 10 := by
  unfold wrongS at h
  by_cases h1 : wrongC d s ≠ 0
  · rw [if_pos h1] at h
    exact absurd h h1
  · rw [if_neg h1] at h
    have h2 : ¬ (d < 1 ∨ 8 < d ∨ s < 0 ∨ 4 < s) := fun z => h1 (by rw [wrongC_bad z]; decide)
    by_cases h3 : b < 1 ∨ 10 < b
    · rw [if_pos h3] at h
      cases h
    · omega
set_option maxHeartbeats 400000 in
theorem storeWrong_any (d s b : Int) (w : World) :
    Calls Tryz.prog 6 #[.agg #[.int .i64 d, .int .i64 s, .int .i64 b]] w fun e w' => e = .returned (.int .i64 (wrongS d s b : Nat)) ∧ Below w.heap.size w w' := by
  have bA : Below w.heap.size w (w.alloc (.cells #[.int .i64 d, .int .i64 s, .int .i64 b] 23)) := (Below.refl _ _).alloc (Nat.le_refl _) _
  have VB := varN_new w #[.int .i64 d, .int .i64 s, .int .i64 b] 23
  have c0 := VB.cell (i := 0) rfl
  have c1 := VB.cell (i := 1) rfl
  have HC := codeWrong_any d s (w.alloc (.cells #[.int .i64 d, .int .i64 s, .int .i64 b] 23))
  have HWS : Hid (wrongS d s b = if wrongC d s ≠ 0 then wrongC d s else if b < 1 ∨ 10 < b then 3 else 0) := rfl
  generalize wrongC d s = x at HC HWS
  have HVB : Hid (VarN (w.alloc (.cells #[.int .i64 d, .int .i64 s, .int .i64 b] 23)) w.heap.size 23 #[.int .i64 d, .int .i64 s, .int .i64 b].toList) := VB
  clear VB
  go_enter Tryz.func6, Tryz.ntmps6
  go_wp2_with fail
  refine HC.mono ?_
  rintro e w2 ⟨rfl, b2⟩
  have c22 := (HVB.out.below b2).cell (i := 2) rfl
  have b02 := bt bA b2
  clear HC
  by_cases hx : x = 0
  · have hxe : ((x : Int) != 0) = false := by rw [bne_eq_false_iff_eq]; omega
    by_cases h1 : b < 1
    · have HR : Hid (wrongS d s b = 3) := by
        show wrongS d s b = 3
        rw [HWS.out, if_neg (fun z => z hx), if_pos (Or.inl h1)]
      clear hx
      go_wp2_with fail
      go_ret
      exact ⟨by rw [HR.out]; rfl, b02⟩
    · by_cases h2 : 10 < b
      · have HR : Hid (wrongS d s b = 3) := by
          show wrongS d s b = 3
          rw [HWS.out, if_neg (fun z => z hx), if_pos (Or.inr h2)]
        clear hx
        go_wp2_with fail
        go_ret
        exact ⟨by rw [HR.out]; rfl, b02⟩
      · have HR : Hid (wrongS d s b = 0) := by
          show wrongS d s b = 0
          rw [HWS.out, if_neg (fun z => z hx), if_neg (by omega)]
        clear hx
        go_wp2_with fail
        go_ret
        exact ⟨by rw [HR.out]; rfl, b02⟩
  · have hxe : ((x : Int) != 0) = true := by rw [bne_iff_ne]; omega
    have HR : Hid (wrongS d s b = x) := by
      show wrongS d s b = x
      rw [HWS.out, if_pos hx]
    clear hx
    go_wp2_with fail
    go_ret
    exact ⟨by rw [HR.out]; rfl, b02⟩

/-! ### A new store -/
theorem Tryz.infoDisk : (Tryz.prog.info? 58).map (fun i => (i.zero, i.size, i.bytes)) = some (some (.agg #[.bool false, .slice none 0 0]), 2, 32) := by kernel_rfl
theorem Tryz.infoAns : (Tryz.prog.info? 42).map (fun i => (i.zero, i.size, i.bytes)) = some (some (.agg #[.int .i64 0, .int .i64 0, .slice none 0 0, .int .i64 0, .slice none 0 0]), 5, 72) := by kernel_rfl
theorem made_disks (n : Nat) (hn : n ≤ 12) (w : World) : (Instr.makeSlice 25 (.int .i64 (n : Int)) (.int .i64 (n : Int))).run Tryz.prog w = .ok (.slice (some ⟨w.heap.size, 0, none⟩) n n) (w.alloc (.cells (madeCells #[.bool false, .slice none 0 0] (n * 2)) 58)) := by
  obtain ⟨i3, hi3, hh3⟩ := Option.map_eq_some_iff.1 Tryz.infoDisk
  simp only [Prod.mk.injEq] at hh3
  obtain ⟨hy0, hy1, hy2⟩ := hh3
  have hr := run_make (P := Tryz.prog) w 25 58 i3 _ Tryz.underlying25 hi3 hy0 .i64 .i64 n n (by omega) (Int.le_refl _) (by rw [hy2]; omega) (by omega)
  simp only [Int.toNat_natCast, hy1] at hr
  exact hr
theorem disks_row (n : Nat) (w : World) : RowC (w.alloc (.cells (madeCells #[.bool false, .slice none 0 0] (n * 2)) 58)) w.heap.size 58 (n * 2) (dkF (fun _ => .slice none 0 0) (List.replicate n ⟨false, []⟩)) := by
  have hr := World.rowIs_alloc w (madeCells #[.bool false, .slice none 0 0] (n * 2)) 58 (dkF (fun _ => .slice none 0 0) (List.replicate n ⟨false, []⟩)) (fun i hi => ?_)
  · have := rowC_of hr
    rw [size_madeCells] at this
    exact this
  · rw [size_madeCells] at hi
    have h1 : i / 2 < n := by omega
    have hd : (List.replicate n (⟨false, []⟩ : Sto.Disk)).getD (i / 2) ⟨false, []⟩ = ⟨false, []⟩ := by
      rw [List.getD_eq_getElem?_getD, List.getElem?_replicate]
      split <;> rfl
    unfold dkF
    rw [hd]
    by_cases q : i % 2 = 0
    · rw [if_pos q]
      have := made_at #[.bool false, .slice none 0 0] (n * 2) i hi (.bool false) (by rw [show (#[Value.bool false, .slice none 0 0]).size = 2 from rfl, q]; rfl)
      rw [Array.getElem?_toList] at this
      exact this
    · rw [if_neg q]
      have := made_at #[.bool false, .slice none 0 0] (n * 2) i hi (.slice none 0 0) (by rw [show (#[Value.bool false, .slice none 0 0]).size = 2 from rfl, show i % 2 = 1 by omega]; rfl)
      rw [Array.getElem?_toList] at this
      exact this
theorem start_st {w : World} {N R D : Nat} {c : Sto.Cfg} (h1 : 1 ≤ c.d) (h2 : c.d ≤ 8) (h3 : c.s ≤ 4) (h4 : 1 ≤ c.b) (h5 : c.b ≤ 10) (hN : N ≤ R) (hD : N ≤ D)
    (hv : VarN w R 45 (stCells c D (c.d + c.s) 0 (.slice none 0 0) (.slice none 0 0) 0 (.slice none 0 0))) (hr : RowC w D 58 ((c.d + c.s) * 2) (dkF (fun _ => .slice none 0 0) (List.replicate (c.d + c.s) ⟨false, []⟩))) :
    StP w N R (fun k => k = R ∨ k = D) (fun _ => False) c (Sto.start c) D (fun _ => .slice none 0 0) (fun _ => []) (.slice none 0 0) (.slice none 0 0) (.slice none 0 0) [] := by
  have hl : (Sto.start c).disks.length = c.d + c.s := List.length_replicate ..
  refine ⟨?_, hN, ⟨?_, hD, fun i _ => World.ownsRow_nil _ _ _ _, fun i d hd => ?_, fun i x _ hx => (by cases hx), fun i j g _ _ hg => (by cases hg), fun i j a b x x' g _ _ hx => (by cases hx)⟩, ⟨World.ownsRow_nil _ _ _ _, rfl, fun i x b hx => (by cases hx)⟩, World.ownsRow_nil _ _ _ _, accE_nil _ _, Or.inl rfl, Or.inr rfl, fun i g _ hg => (by cases hg), fun i x g _ hx => (by cases hx), fun g hg => (by cases hg), fun g hg => (by cases hg), fun k hk => ?_, fun k hk => hk.elim, ⟨hl, h1, h2, h3, h4, h5, fun i d hd => ?_, Nat.zero_le _, h4, fun b hb => (by cases hb), List.Pairwise.nil, Int.le_refl _, ⟨Int.le_refl _, (show (0 : Int) ≤ 150 by decide), fun a ha => (by cases ha), List.Pairwise.nil, rfl⟩⟩⟩
  · rw [hl]
    exact hv
  · show RowC w D _ ((Sto.start c).disks.length * 2) _
    rw [hl]
    exact hr
  · have : d = ⟨false, []⟩ := by
      have hd : (List.replicate (c.d + c.s) (⟨false, []⟩ : Sto.Disk))[i]? = some d := hd
      exact List.eq_of_mem_replicate (List.mem_of_getElem? hd)
    rw [this]
    rfl
  · rcases hk with rfl | rfl
    · exact ⟨hN, RowC.lt hv⟩
    · exact ⟨hD, hr.lt⟩
  · have : d = ⟨false, []⟩ := by
      have hd : (List.replicate (c.d + c.s) (⟨false, []⟩ : Sto.Disk))[i]? = some d := hd
      exact List.eq_of_mem_replicate (List.mem_of_getElem? hd)
    rw [this]
    exact ⟨List.Pairwise.nil, fun h hh => (by cases hh), fun hh => rfl⟩

end Go.Proofs.YtmcaejooaaahdaaGreat

namespace Go.Proofs.YtmcaejooaaahdaaGreat
open Go.RowKit

/-! ### Things to do, as they came -/
def DoAt (w : World) (b o : Nat) (d : Sto.Do) : Prop := ∃ ve t, DoIn w d ve t ∧ ∀ j u, (doCells d ve t)[j]? = some u → w.cell? ⟨b, o + j, none⟩ = some u
def Dos (w : World) (v : Value) (l : List Sto.Do) : Prop := ∃ A cap, v = .slice A l.length cap ∧ l.length ≤ cap ∧ cap ≤ maxLen ∧ ∀ i d, l[i]? = some d → ∃ b o, A = some ⟨b, o, none⟩ ∧ DoAt w b (o + i * 9) d
theorem DoAt.below {w w' : World} {b o : Nat} {d : Sto.Do} (h : DoAt w b o d) {N : Nat} (hN : N = w.heap.size) (hb : Below N w w') : DoAt w' b o d := by
  subst hN
  obtain ⟨ve, t, h1, h2⟩ := h
  exact ⟨ve, t, h1.below hb, fun j u hj => (hb.cell (p := ⟨b, o + j, none⟩) (World.block_lt_of_cell? _ _ (h2 j u hj))).trans (h2 j u hj)⟩

/-! ### Answers in a row -/
abbrev AnC := Nat × Int × Sl × Int × Sl
def anCells (q : AnC) : List Value := [.int .i64 (q.1 : Nat), .int .i64 q.2.1, slV q.2.2.1, .int .i64 q.2.2.2.1, slV q.2.2.2.2]
/-- Answers that lie outside of F. -/
structure AnsRow (w : World) (N : Nat) (F : Nat → Prop) (v : Value) (qs : List AnC) (al : List Sto.Ans) : Prop where
  own : w.ownsRow N 42 5 v qs.length (qs.flatMap anCells)
  len : qs.length = al.length
  ans : ∀ (i : Nat) (q : AnC) (a : Sto.Ans), qs[i]? = some q → al[i]? = some a → AnsV w (fun k => ¬ F k ∧ k < w.heap.size ∧ v.ownBlock ≠ some k ∧ N ≤ k) (.agg (anCells q).toArray) a
theorem AnsRow.step {w w' : World} {N : Nat} {F F' E E' : Nat → Prop} {v : Value} {qs : List AnC} {al : List Sto.Ans} (h : AnsRow w N F v qs al) (hf : Frame w w' F F' E E') (hv : ∀ g, v.ownBlock = some g → ¬ F g) : AnsRow w' N F' v qs al :=
  ⟨owns_off h.own hf.off hv, h.len, fun i q a hq ha => (h.ans i q a hq ha).move (fun k hk z => hf.off.block k hk z.1) fun k hk z => ⟨fun y => by
    rcases hf.growF k y with y | y
    · exact z.1 y
    · omega, Nat.lt_of_lt_of_le hk hf.off.size, z.2.2⟩⟩
theorem AnsRow.below {w w' : World} {N : Nat} {F : Nat → Prop} {v : Value} {qs : List AnC} {al : List Sto.Ans} (h : AnsRow w N F v qs al) (hb : Below w.heap.size w w') : AnsRow w' N F v qs al :=
  ⟨owns_below h.own hb, h.len, fun i q a hq ha => (h.ans i q a hq ha).move (fun k hk _ => hb.block k hk) fun _ hk z => ⟨z.1, Nat.lt_of_lt_of_le hk hb.size, z.2.2⟩⟩
theorem StAt.dis {w : World} {N R : Nat} {F E : Nat → Prop} {c : Sto.Cfg} {s : Sto.St} (h : StAt w N R F E c s) {k : Nat} (hk : E k) : ¬ F k ∧ k < w.heap.size := by
  obtain ⟨D, V, U, vt, vs, va, tc, h⟩ := h
  exact h.dis k hk
/-- The answer comes behind the others. -/
theorem app_ans (w : World) (N : Nat) (F : Nat → Prop) (v : Value) (qs : List AnC) (al : List Sto.Ans) (h : AnsRow w N F v qs al) (hN : N ≤ w.heap.size) (q : AnC) (a : Sto.Ans) (ha : AnsV w (fun k => ¬ F k ∧ k < w.heap.size ∧ v.ownBlock ≠ some k ∧ N ≤ k) (.agg (anCells q).toArray) a) (hsz : qs.length ≤ 1000) :
    ∃ v' w', (Builtin.append_ #[33, 33] 33 #[v, .slice (some ⟨w.heap.size, 0, none⟩) 1 1]).run Tryz.prog (w.alloc (.cells (anCells q).toArray 42)) = .ok v' w' ∧ AnsRow w' N F v' (qs ++ [q]) (al ++ [a]) ∧ Off (fun k => v.ownBlock = some k) w w' ∧ (v'.ownBlock = v.ownBlock ∨ ∀ g, v'.ownBlock = some g → w.heap.size ≤ g) := by
  obtain ⟨i4, hi4, hh4⟩ := Option.map_eq_some_iff.1 Tryz.infoAns
  simp only [Prod.mk.injEq] at hh4
  obtain ⟨hy0, hy1, hy2⟩ := hh4
  have bA : Below w.heap.size w (w.alloc (.cells (anCells q).toArray 42)) := (Below.refl _ _).alloc (Nat.le_refl _) _
  have hc := varN_new w (anCells q).toArray 42
  obtain ⟨v', w', hrun, ho, hg, _, hat⟩ := run_append_own_at (P := Tryz.prog) (w.alloc (.cells (anCells q).toArray 42)) N 33 33 42 i4 _ 5 72 Tryz.underlying33 hi4 hy0 hy1 hy2 rfl (by decide) v qs.length _ (owns_below h.own bA) ⟨w.heap.size, 0, none⟩ 1 1 (anCells q) rfl (fun j u hj => by
    rw [WideShapes.add_plain, Nat.zero_add]
    exact hc.cell hj) (fun u hu => by
    simp only [anCells, List.mem_cons, List.not_mem_nil, or_false] at hu
    rcases hu with rfl | rfl | rfl | rfl | rfl <;> rfl) (by unfold maxLen; omega) (by omega) (Nat.le_trans hN bA.size)
  have hof : Off (fun k => v.ownBlock = some k) w w' := (Off.of_below bA).trans (off_of_grown hg)
  have hmv : ∀ {q : AnC} {a : Sto.Ans}, AnsV w (fun k => ¬ F k ∧ k < w.heap.size ∧ v.ownBlock ≠ some k ∧ N ≤ k) (.agg (anCells q).toArray) a → AnsV w' (fun k => ¬ F k ∧ k < w'.heap.size ∧ v'.ownBlock ≠ some k ∧ N ≤ k) (.agg (anCells q).toArray) a := fun {q a} z => z.move (fun k hk y => hof.block k hk y.2.2.1) fun k hk y => ⟨y.1, Nat.lt_of_lt_of_le hk hof.size, fun e => by
    rcases hat with x | x
    · rw [x] at e
      exact y.2.2.1 e
    · rw [x] at e
      cases e
      exact absurd bA.size (Nat.not_le.2 hk), y.2.2.2⟩
  refine ⟨v', w', hrun, ⟨?_, by rw [List.length_append, List.length_append, h.len]; rfl, fun i x b hx hb => ?_⟩, hof, hat.imp id fun z g hg => ?_⟩
  · rw [List.length_append, List.flatMap_append]
    exact ho
  · have hql := h.len
    by_cases hi : i < qs.length
    · rw [List.getElem?_append_left hi] at hx
      rw [List.getElem?_append_left (by omega)] at hb
      exact hmv (h.ans i x b hx hb)
    · have hil := (List.getElem?_eq_some_iff.1 hx).1
      rw [List.length_append] at hil
      have hil : i < qs.length + 1 := hil
      obtain rfl : i = qs.length := by omega
      rw [List.getElem?_append_right (Nat.le_refl _), Nat.sub_self] at hx
      rw [List.getElem?_append_right (by omega), show qs.length - al.length = 0 by omega] at hb
      cases hx
      cases hb
      exact hmv ha
  · rw [z] at hg
    cases hg
    exact bA.size

end Go.Proofs.YtmcaejooaaahdaaGreat
