/-
  Texts of the proof, joined: HPlayB.
-/
import Derived.Test.YtmcaejooaaahdaaGreatZ47
namespace Go.Proofs.YtmcaejooaaahdaaGreat
open Go.RowKit

/-- A new store. -/
structure StNew (w3 wx : World) (c : Sto.Cfg) (R D : Nat) : Prop where
  var : VarN wx R 45 (stCells c D (c.d + c.s) 0 (.slice none 0 0) (.slice none 0 0) 0 (.slice none 0 0))
  row : RowC wx D 58 ((c.d + c.s) * 2) (dkF (fun _ => .slice none 0 0) (List.replicate (c.d + c.s) ⟨false, []⟩))
  geR : w3.heap.size ≤ R
  geD : w3.heap.size ≤ D
  bel : Below w3.heap.size w3 wx
theorem stNew_1 (w3 : World) (c : Sto.Cfg) : StNew w3 ((w3.alloc (.cells (madeCells #[.bool false, .slice none 0 0] ((c.d + c.s) * 2)) 58)).alloc (.cells #[.int .i64 (c.d : Int), .int .i64 (c.s : Int), .int .i64 (c.b : Int), .slice (some ⟨w3.heap.size, 0, none⟩) (c.d + c.s) (c.d + c.s), .int .i64 0, .slice none 0 0, .slice none 0 0, .int .i64 0, .slice none 0 0] 45)).drew c (w3.heap.size + 1) w3.heap.size := by
  have b1 : Below w3.heap.size w3 (w3.alloc (.cells (madeCells #[.bool false, .slice none 0 0] ((c.d + c.s) * 2)) 58)) := (Below.refl _ _).alloc (Nat.le_refl _) _
  have b2 : Below (w3.alloc (.cells (madeCells #[.bool false, .slice none 0 0] ((c.d + c.s) * 2)) 58)).heap.size (w3.alloc (.cells (madeCells #[.bool false, .slice none 0 0] ((c.d + c.s) * 2)) 58)) ((w3.alloc (.cells (madeCells #[.bool false, .slice none 0 0] ((c.d + c.s) * 2)) 58)).alloc (.cells #[.int .i64 (c.d : Int), .int .i64 (c.s : Int), .int .i64 (c.b : Int), .slice (some ⟨w3.heap.size, 0, none⟩) (c.d + c.s) (c.d + c.s), .int .i64 0, .slice none 0 0, .slice none 0 0, .int .i64 0, .slice none 0 0] 45)).drew := ((Below.refl _ _).alloc (Nat.le_refl _) _).drew
  have V := varN_new (w3.alloc (.cells (madeCells #[.bool false, .slice none 0 0] ((c.d + c.s) * 2)) 58)) #[.int .i64 (c.d : Int), .int .i64 (c.s : Int), .int .i64 (c.b : Int), .slice (some ⟨w3.heap.size, 0, none⟩) (c.d + c.s) (c.d + c.s), .int .i64 0, .slice none 0 0, .slice none 0 0, .int .i64 0, .slice none 0 0] 45
  rw [show (w3.alloc (.cells (madeCells #[.bool false, .slice none 0 0] ((c.d + c.s) * 2)) 58)).heap.size = w3.heap.size + 1 by simp] at V
  exact ⟨V, (disks_row (c.d + c.s) w3).below b2, Nat.le_succ _, Nat.le_refl _, bt b1 b2⟩
theorem stNew_2 (w3 : World) (c : Sto.Cfg) : StNew w3 ((w3.alloc (.cells #[.int .i64 (c.d : Int), .int .i64 (c.s : Int), .int .i64 (c.b : Int), .slice (some ⟨w3.heap.size + 1, 0, none⟩) (c.d + c.s) (c.d + c.s), .int .i64 0, .slice none 0 0, .slice none 0 0, .int .i64 0, .slice none 0 0] 45)).alloc (.cells (madeCells #[.bool false, .slice none 0 0] ((c.d + c.s) * 2)) 58)).drew c w3.heap.size (w3.heap.size + 1) := by
  have b1 : Below w3.heap.size w3 (w3.alloc (.cells #[.int .i64 (c.d : Int), .int .i64 (c.s : Int), .int .i64 (c.b : Int), .slice (some ⟨w3.heap.size + 1, 0, none⟩) (c.d + c.s) (c.d + c.s), .int .i64 0, .slice none 0 0, .slice none 0 0, .int .i64 0, .slice none 0 0] 45)) := (Below.refl _ _).alloc (Nat.le_refl _) _
  have b2 : Below (w3.alloc (.cells #[.int .i64 (c.d : Int), .int .i64 (c.s : Int), .int .i64 (c.b : Int), .slice (some ⟨w3.heap.size + 1, 0, none⟩) (c.d + c.s) (c.d + c.s), .int .i64 0, .slice none 0 0, .slice none 0 0, .int .i64 0, .slice none 0 0] 45)).heap.size (w3.alloc (.cells #[.int .i64 (c.d : Int), .int .i64 (c.s : Int), .int .i64 (c.b : Int), .slice (some ⟨w3.heap.size + 1, 0, none⟩) (c.d + c.s) (c.d + c.s), .int .i64 0, .slice none 0 0, .slice none 0 0, .int .i64 0, .slice none 0 0] 45)) ((w3.alloc (.cells #[.int .i64 (c.d : Int), .int .i64 (c.s : Int), .int .i64 (c.b : Int), .slice (some ⟨w3.heap.size + 1, 0, none⟩) (c.d + c.s) (c.d + c.s), .int .i64 0, .slice none 0 0, .slice none 0 0, .int .i64 0, .slice none 0 0] 45)).alloc (.cells (madeCells #[.bool false, .slice none 0 0] ((c.d + c.s) * 2)) 58)).drew := ((Below.refl _ _).alloc (Nat.le_refl _) _).drew
  have V := (varN_new w3 #[.int .i64 (c.d : Int), .int .i64 (c.s : Int), .int .i64 (c.b : Int), .slice (some ⟨w3.heap.size + 1, 0, none⟩) (c.d + c.s) (c.d + c.s), .int .i64 0, .slice none 0 0, .slice none 0 0, .int .i64 0, .slice none 0 0] 45).below b2
  have r := disks_row (c.d + c.s) (w3.alloc (.cells #[.int .i64 (c.d : Int), .int .i64 (c.s : Int), .int .i64 (c.b : Int), .slice (some ⟨w3.heap.size + 1, 0, none⟩) (c.d + c.s) (c.d + c.s), .int .i64 0, .slice none 0 0, .slice none 0 0, .int .i64 0, .slice none 0 0] 45))
  rw [show (w3.alloc (.cells #[.int .i64 (c.d : Int), .int .i64 (c.s : Int), .int .i64 (c.b : Int), .slice (some ⟨w3.heap.size + 1, 0, none⟩) (c.d + c.s) (c.d + c.s), .int .i64 0, .slice none 0 0, .slice none 0 0, .int .i64 0, .slice none 0 0] 45)).heap.size = w3.heap.size + 1 by simp] at r
  exact ⟨V, r, Nat.le_refl _, Nat.le_succ _, bt b1 b2⟩
def PlayO (e : Ending) (w w' : World) (X : Sto.Six) (c : Sto.Cfg) (l : List Sto.Do) : Prop := ∃ N R F E D V U vt vs va tc vr qs, e = .returned (.tuple #[.agg (stCells c D (Sto.steps X c (Sto.start c) l).1.disks.length (Sto.steps X c (Sto.start c) l).1.segs vt vs (Sto.steps X c (Sto.start c) l).1.u va).toArray, vr, .int .i64 0]) ∧ StP w' N R F E c (Sto.steps X c (Sto.start c) l).1 D V U vt vs va tc ∧ AnsRow w' N F vr qs (Sto.steps X c (Sto.start c) l).2 ∧ Below w.heap.size w w' ∧ N = w.heap.size ∧ ∀ k, E k → w.heap.size ≤ k
/-- Under way: the first k are done. -/
structure PlayP (w wr : World) (X : Sto.Six) (c : Sto.Cfg) (l : List Sto.Do) (R : Nat) (vr : Value) (k : Nat) (F E : Nat → Prop) (D : Nat) (V : Nat → Value) (U : Nat → List HeC) (vt vs va : Value) (tc : List (Int × Sl)) (qs : List AnC) : Prop where
  st : StP wr w.heap.size R F E c (Sto.steps X c (Sto.start c) (l.take k)).1 D V U vt vs va tc
  ans : AnsRow wr w.heap.size (fun k => F k ∨ k = w.heap.size + 1) vr qs (Sto.steps X c (Sto.start c) (l.take k)).2
  bel : Below w.heap.size w wr
  sep : ∀ g, vr.ownBlock = some g → ¬ F g ∧ ¬ E g
  res : VarN wr (w.heap.size + 1) 32 #[.int .i64 0, .int .i64 0, .int .i64 0, .slice none 0 0, .int .i64 0, .slice none 0 0, .slice none 0 0, .int .i64 0, .slice none 0 0].toList
  noF : ¬ F (w.heap.size + 1)
  noE : ¬ E (w.heap.size + 1)
  geE : ∀ k, E k → w.heap.size ≤ k
def PlayS (w wr : World) (X : Sto.Six) (c : Sto.Cfg) (l : List Sto.Do) (R : Nat) (vr : Value) (k : Nat) : Prop := ∃ F E D V U vt vs va tc qs, PlayP w wr X c l R vr k F E D V U vt vs va tc qs
theorem steps_snd {X : Sto.Six} {c : Sto.Cfg} {l : List Sto.Do} {s : Sto.St} {k : Nat} {d : Sto.Do} (h : l[k]? = some d) : (Sto.steps X c s (l.take (k + 1))).2 = (Sto.steps X c s (l.take k)).2 ++ [(Sto.step X c (Sto.steps X c s (l.take k)).1 d).2] := by
  rw [List.take_add_one, h, Sto.steps_append]
  rfl
section
variable {w wr w5 w6 w7 : World} {X : Sto.Six} {c : Sto.Cfg} {l : List Sto.Do} {R k D : Nat} {vr v7 : Value} {F E F' E' : Nat → Prop} {V : Nat → Value} {U : Nat → List HeC} {vt vs va : Value} {tc : List (Int × Sl)} {qs : List AnC} {d : Sto.Do} {q : AnC}
theorem PlayP.next (h : PlayP w wr X c l R vr k F E D V U vt vs va tc qs) (hd : l[k]? = some d) (b5 : Below wr.heap.size wr w5) (hS6 : StAt w6 w.heap.size R F' E' c (Sto.step X c (Sto.steps X c (Sto.start c) (l.take k)).1 d).1) (hF6 : Frame w5 w6 F F' E E')
    (ho : Off (fun g => vr.ownBlock = some g) w6 w7) (hat : v7.ownBlock = vr.ownBlock ∨ ∀ g, v7.ownBlock = some g → w6.heap.size ≤ g) (hA7 : AnsRow w7 w.heap.size (fun k => F' k ∨ k = w.heap.size + 1) v7 (qs ++ [q]) ((Sto.steps X c (Sto.start c) (l.take k)).2 ++ [(Sto.step X c (Sto.steps X c (Sto.start c) (l.take k)).1 d).2])) : PlayS w w7 X c l R v7 (k + 1) := by
  have hvl : ∀ g, vr.ownBlock = some g → w.heap.size ≤ g ∧ g < w5.heap.size := fun g hg => ⟨(h.ans.own.lt g hg).1, Nat.lt_of_lt_of_le (h.ans.own.lt g hg).2 b5.size⟩
  have hno : ∀ g, vr.ownBlock = some g → ¬ F' g ∧ ¬ E' g := fun g hg => by
    have h1 := hvl g hg
    refine ⟨fun z => ?_, fun z => ?_⟩
    · rcases hF6.growF g z with y | y
      · exact (h.sep g hg).1 y
      · omega
    · rcases hF6.growE g z with y | y
      · exact (h.sep g hg).2 y
      · omega
  obtain ⟨D', V', U', vt', vs', va', tc', hS7⟩ := hS6.out ho hno
  have e1 := Sto.steps_next (X := X) (c := c) (s := Sto.start c) hd
  have e2 := steps_snd (X := X) (c := c) (s := Sto.start c) hd
  have hT5 := h.res.below b5
  have hTl : w.heap.size + 1 < w5.heap.size := RowC.lt hT5
  have hT6 := hT5.off hF6.off h.noF
  refine ⟨F', E', D', V', U', vt', vs', va', tc', qs ++ [q], by rw [e1]; exact hS7, by rw [e2]; exact hA7, ?_, fun g hg => ?_, hT6.off ho fun z => ?_, fun z => ?_, fun z => ?_, fun k z => ?_⟩
  · have b6 : Below w.heap.size w w6 := (bt h.bel b5).trans (hF6.off.below (Nat.le_trans h.bel.size b5.size) fun k z => (h.st.lt k z).1)
    exact b6.trans (ho.below b6.size fun k z => (hvl k z).1)
  · rcases hat with z | z
    · rw [z] at hg
      exact hno g hg
    · have h1 := z g hg
      exact ⟨fun y => absurd (hS6.lt (Or.inl y)) (Nat.not_lt.2 h1), fun y => absurd (hS6.lt (Or.inr y)) (Nat.not_lt.2 h1)⟩
  · have hO : TyB w5 (w.heap.size + 1) 42 := owns_ty (owns_below h.ans.own b5) z
    exact hO.ne hT5.ty (by decide) rfl
  · rcases hF6.growF _ z with y | y
    · exact h.noF y
    · omega
  · rcases hF6.growE _ z with y | y
    · exact h.noE y
    · omega
  · rcases hF6.growE _ z with y | y
    · exact h.geE k y
    · exact Nat.le_trans (Nat.le_trans h.bel.size b5.size) y
theorem Frame.plus (h : Frame wr w6 F F' E E') (B : Nat) : Frame wr w6 (fun k => F k ∨ k = B) (fun k => F' k ∨ k = B) E E' :=
  ⟨h.off.wider fun _ z => Or.inl z, fun k z => by
    rcases z with z | z
    · exact (h.growF k z).imp Or.inl id
    · exact Or.inl (Or.inr z), h.growE⟩
theorem PlayP.sepB (h : PlayP w wr X c l R vr k F E D V U vt vs va tc qs) {g : Nat} (hg : vr.ownBlock = some g) : g ≠ w.heap.size + 1 := (owns_ty h.ans.own hg).ne h.res.ty (by decide)
theorem off_nine (w : World) (B : Nat) (a b c d e f g h i : Value) : Off (fun k => k = B) w (((((((((w.setCell ⟨B, 0, none⟩ a).setCell ⟨B, 1, none⟩ b).setCell ⟨B, 2, none⟩ c).setCell ⟨B, 3, none⟩ d).setCell ⟨B, 4, none⟩ e).setCell ⟨B, 5, none⟩ f).setCell ⟨B, 6, none⟩ g).setCell ⟨B, 7, none⟩ h).setCell ⟨B, 8, none⟩ i) :=
  ((((off_five w B a b c d e).set (p := ⟨B, 5, none⟩) rfl f).set (p := ⟨B, 6, none⟩) rfl g).set (p := ⟨B, 7, none⟩) rfl h).set (p := ⟨B, 8, none⟩) rfl i
end
set_option maxHeartbeats 4000000 in
set_option maxRecDepth 100000 in
theorem play_ok {X : Sto.Six} (hX : Sto.SixOk X) (c : Sto.Cfg) (h1 : 1 ≤ c.d) (h2 : c.d ≤ 8) (h3 : c.s ≤ 4) (h4 : 1 ≤ c.b) (h5 : c.b ≤ 10) (v : Value) (l : List Sto.Do) (w : World) (hD : Dos w v l) (hl : l.length ≤ 80) :
    Calls Tryz.prog 4 #[.agg #[.int .i64 (c.d : Int), .int .i64 (c.s : Int), .int .i64 (c.b : Int)], v] w fun e w' => PlayO e w w' X c l := by
  obtain ⟨A, C, rfl, hc1, hc2, hdo⟩ := hD
  have hW0 : wrongS (c.d : Int) (c.s : Int) (c.b : Int) = 0 := by
    unfold wrongS
    rw [wrongC_ok (by omega), if_neg (fun z => z rfl), if_neg (by omega)]
  have b2 : Below w.heap.size w ((w.alloc (.cells #[.int .i64 (c.d : Int), .int .i64 (c.s : Int), .int .i64 (c.b : Int)] 23)).alloc (.cells #[.int .i64 0, .int .i64 0, .int .i64 0, .slice none 0 0, .int .i64 0, .slice none 0 0, .slice none 0 0, .int .i64 0, .slice none 0 0] 32)) := ((Below.refl _ _).alloc (Nat.le_refl _) _).alloc ((Below.refl _ _).alloc (Nat.le_refl _) _).size _
  have bB : Below (w.alloc (.cells #[.int .i64 (c.d : Int), .int .i64 (c.s : Int), .int .i64 (c.b : Int)] 23)).heap.size (w.alloc (.cells #[.int .i64 (c.d : Int), .int .i64 (c.s : Int), .int .i64 (c.b : Int)] 23)) ((w.alloc (.cells #[.int .i64 (c.d : Int), .int .i64 (c.s : Int), .int .i64 (c.b : Int)] 23)).alloc (.cells #[.int .i64 0, .int .i64 0, .int .i64 0, .slice none 0 0, .int .i64 0, .slice none 0 0, .slice none 0 0, .int .i64 0, .slice none 0 0] 32)) := (Below.refl _ _).alloc (Nat.le_refl _) _
  have VS := (varN_new w #[.int .i64 (c.d : Int), .int .i64 (c.s : Int), .int .i64 (c.b : Int)] 23).below bB
  have VT := varN_new (w.alloc (.cells #[.int .i64 (c.d : Int), .int .i64 (c.s : Int), .int .i64 (c.b : Int)] 23)) #[.int .i64 0, .int .i64 0, .int .i64 0, .slice none 0 0, .int .i64 0, .slice none 0 0, .slice none 0 0, .int .i64 0, .slice none 0 0] 32
  rw [show (w.alloc (.cells #[.int .i64 (c.d : Int), .int .i64 (c.s : Int), .int .i64 (c.b : Int)] 23)).heap.size = w.heap.size + 1 by simp] at VT
  have HW := storeWrong_any (c.d : Int) (c.s : Int) (c.b : Int) ((w.alloc (.cells #[.int .i64 (c.d : Int), .int .i64 (c.s : Int), .int .i64 (c.b : Int)] 23)).alloc (.cells #[.int .i64 0, .int .i64 0, .int .i64 0, .slice none 0 0, .int .i64 0, .slice none 0 0, .slice none 0 0, .int .i64 0, .slice none 0 0] 32))
  rw [hW0] at HW
  have HDO : Hid (∀ i d, l[i]? = some d → ∃ b o, A = some ⟨b, o, none⟩ ∧ DoAt w b (o + i * 9) d) := hdo
  have HX : Hid (Sto.SixOk X) := hX
  clear hW0 hdo hX bB
  go_enter Tryz.func4, Tryz.ntmps4
  go_upto_region 1 with fail
  generalize (w.alloc (.cells #[.int .i64 (c.d : Int), .int .i64 (c.s : Int), .int .i64 (c.b : Int)] 23)).alloc (.cells #[.int .i64 0, .int .i64 0, .int .i64 0, .slice none 0 0, .int .i64 0, .slice none 0 0, .slice none 0 0, .int .i64 0, .slice none 0 0] 32) = w2 at *
  have s0 := VS.cell (i := 0) rfl
  have s1 := VS.cell (i := 1) rfl
  have s2 := VS.cell (i := 2) rfl
  have hl' : ¬ (80 : Int) < (l.length : Int) := by omega
  go_wp2_with fail
  refine HW.mono ?_
  rintro e w3 ⟨rfl, b3⟩
  have VS3 := VS.below b3
  have VT3 := VT.below b3
  have b03 := bt b2 b3
  clear HW s0 s1 s2
  have s0 : w3.cell? ⟨w.heap.size, 0, none⟩ = some (.int .i64 (c.d : Int)) := VS3.cell (i := 0) rfl
  have s1 : w3.cell? ⟨w.heap.size, 1, none⟩ = some (.int .i64 (c.s : Int)) := VS3.cell (i := 1) rfl
  have s2 : w3.cell? ⟨w.heap.size, 2, none⟩ = some (.int .i64 (c.b : Int)) := VS3.cell (i := 2) rfl
  have hmk : ∀ w', (Instr.makeSlice 25 (.int .i64 ((c.d : Int) + (c.s : Int))) (.int .i64 ((c.d : Int) + (c.s : Int)))).run Tryz.prog w' = .ok (.slice (some ⟨w'.heap.size, 0, none⟩) (c.d + c.s) (c.d + c.s)) (w'.alloc (.cells (madeCells #[.bool false, .slice none 0 0] ((c.d + c.s) * 2)) 58)) := fun w' => made_disks (c.d + c.s) (by omega) w'
  have hwr : IntKind.i64.wrap ((c.d : Int) + (c.s : Int)) = (c.d : Int) + (c.s : Int) := by rw [IntKind.wrap_i64]; omega
  have hw64 : wrap64 ((c.d : Int) + (c.s : Int)) = (c.d : Int) + (c.s : Int) := by unfold wrap64; omega
  have bR : Below w3.heap.size w3 (w3.alloc (.cells #[.int .i64 0, .int .i64 0, .int .i64 0, .slice none 0 0, .int .i64 0, .slice none 0 0, .slice none 0 0, .int .i64 0, .slice none 0 0] 45)).drew := ((Below.refl _ _).alloc (Nat.le_refl _) _).drew
  have r0 : (w3.alloc (.cells #[.int .i64 0, .int .i64 0, .int .i64 0, .slice none 0 0, .int .i64 0, .slice none 0 0, .slice none 0 0, .int .i64 0, .slice none 0 0] 45)).drew.cell? ⟨w.heap.size, 0, none⟩ = some (.int .i64 (c.d : Int)) := (VS3.below bR).cell (i := 0) rfl
  have r1 : (w3.alloc (.cells #[.int .i64 0, .int .i64 0, .int .i64 0, .slice none 0 0, .int .i64 0, .slice none 0 0, .slice none 0 0, .int .i64 0, .slice none 0 0] 45)).drew.cell? ⟨w.heap.size, 1, none⟩ = some (.int .i64 (c.s : Int)) := (VS3.below bR).cell (i := 1) rfl
  have r2 : (w3.alloc (.cells #[.int .i64 0, .int .i64 0, .int .i64 0, .slice none 0 0, .int .i64 0, .slice none 0 0, .slice none 0 0, .int .i64 0, .slice none 0 0] 45)).drew.cell? ⟨w.heap.size, 2, none⟩ = some (.int .i64 (c.b : Int)) := (VS3.below bR).cell (i := 2) rfl
  have bq0 : Below w3.heap.size w3 (w3.alloc (.cells (madeCells #[.bool false, .slice none 0 0] ((c.d + c.s) * 2)) 58)).drew := ((Below.refl _ _).alloc (Nat.le_refl _) _).drew
  have q00 : (w3.alloc (.cells (madeCells #[.bool false, .slice none 0 0] ((c.d + c.s) * 2)) 58)).drew.cell? ⟨w.heap.size, 0, none⟩ = some (.int .i64 (c.d : Int)) := (VS3.below bq0).cell (i := 0) rfl
  have q01 : (w3.alloc (.cells (madeCells #[.bool false, .slice none 0 0] ((c.d + c.s) * 2)) 58)).drew.cell? ⟨w.heap.size, 1, none⟩ = some (.int .i64 (c.s : Int)) := (VS3.below bq0).cell (i := 1) rfl
  have q02 : (w3.alloc (.cells (madeCells #[.bool false, .slice none 0 0] ((c.d + c.s) * 2)) 58)).drew.cell? ⟨w.heap.size, 2, none⟩ = some (.int .i64 (c.b : Int)) := (VS3.below bq0).cell (i := 2) rfl
  have bq1 : Below w3.heap.size w3 ((w3.alloc (.cells #[.int .i64 0, .int .i64 0, .int .i64 0, .slice none 0 0, .int .i64 0, .slice none 0 0, .slice none 0 0, .int .i64 0, .slice none 0 0] 45)).alloc (.cells (madeCells #[.bool false, .slice none 0 0] ((c.d + c.s) * 2)) 58)).drew := (((Below.refl _ _).alloc (Nat.le_refl _) _).alloc ((Below.refl w3.heap.size w3).alloc (Nat.le_refl _) _).size _).drew
  have q10 : ((w3.alloc (.cells #[.int .i64 0, .int .i64 0, .int .i64 0, .slice none 0 0, .int .i64 0, .slice none 0 0, .slice none 0 0, .int .i64 0, .slice none 0 0] 45)).alloc (.cells (madeCells #[.bool false, .slice none 0 0] ((c.d + c.s) * 2)) 58)).drew.cell? ⟨w.heap.size, 0, none⟩ = some (.int .i64 (c.d : Int)) := (VS3.below bq1).cell (i := 0) rfl
  have q11 : ((w3.alloc (.cells #[.int .i64 0, .int .i64 0, .int .i64 0, .slice none 0 0, .int .i64 0, .slice none 0 0, .slice none 0 0, .int .i64 0, .slice none 0 0] 45)).alloc (.cells (madeCells #[.bool false, .slice none 0 0] ((c.d + c.s) * 2)) 58)).drew.cell? ⟨w.heap.size, 1, none⟩ = some (.int .i64 (c.s : Int)) := (VS3.below bq1).cell (i := 1) rfl
  have q12 : ((w3.alloc (.cells #[.int .i64 0, .int .i64 0, .int .i64 0, .slice none 0 0, .int .i64 0, .slice none 0 0, .slice none 0 0, .int .i64 0, .slice none 0 0] 45)).alloc (.cells (madeCells #[.bool false, .slice none 0 0] ((c.d + c.s) * 2)) 58)).drew.cell? ⟨w.heap.size, 2, none⟩ = some (.int .i64 (c.b : Int)) := (VS3.below bq1).cell (i := 2) rfl
  have bq2 : Below w3.heap.size w3 ((w3.alloc (.cells (madeCells #[.bool false, .slice none 0 0] ((c.d + c.s) * 2)) 58)).alloc (.cells #[.int .i64 0, .int .i64 0, .int .i64 0, .slice none 0 0, .int .i64 0, .slice none 0 0, .slice none 0 0, .int .i64 0, .slice none 0 0] 45)).drew := (((Below.refl _ _).alloc (Nat.le_refl _) _).alloc ((Below.refl w3.heap.size w3).alloc (Nat.le_refl _) _).size _).drew
  have q20 : ((w3.alloc (.cells (madeCells #[.bool false, .slice none 0 0] ((c.d + c.s) * 2)) 58)).alloc (.cells #[.int .i64 0, .int .i64 0, .int .i64 0, .slice none 0 0, .int .i64 0, .slice none 0 0, .slice none 0 0, .int .i64 0, .slice none 0 0] 45)).drew.cell? ⟨w.heap.size, 0, none⟩ = some (.int .i64 (c.d : Int)) := (VS3.below bq2).cell (i := 0) rfl
  have q21 : ((w3.alloc (.cells (madeCells #[.bool false, .slice none 0 0] ((c.d + c.s) * 2)) 58)).alloc (.cells #[.int .i64 0, .int .i64 0, .int .i64 0, .slice none 0 0, .int .i64 0, .slice none 0 0, .slice none 0 0, .int .i64 0, .slice none 0 0] 45)).drew.cell? ⟨w.heap.size, 1, none⟩ = some (.int .i64 (c.s : Int)) := (VS3.below bq2).cell (i := 1) rfl
  have q22 : ((w3.alloc (.cells (madeCells #[.bool false, .slice none 0 0] ((c.d + c.s) * 2)) 58)).alloc (.cells #[.int .i64 0, .int .i64 0, .int .i64 0, .slice none 0 0, .int .i64 0, .slice none 0 0, .slice none 0 0, .int .i64 0, .slice none 0 0] 45)).drew.cell? ⟨w.heap.size, 2, none⟩ = some (.int .i64 (c.b : Int)) := (VS3.below bq2).cell (i := 2) rfl
  go_upto_region 6 with fail
  go_cut [8] from 22 to 31 (fun p8 wx => ∃ R D, p8 = .pointer (some ⟨R, 0, none⟩) ∧ StNew w3 wx c R D)
  case first =>
    go_region
    all_goals go_wp2_with fail
    all_goals go_meet
    · exact ⟨_, _, rfl, stNew_1 w3 c⟩
    · exact ⟨_, _, rfl, stNew_2 w3 c⟩
  case rest =>
    obtain ⟨R, D, rfl, hN⟩ := hcut
    obtain ⟨w4, hw4⟩ : ∃ y, y = wc := ⟨wc, rfl⟩
    rw [← hw4] at hN ⊢
    have h03 := b03.size
    have hT3 : w.heap.size + 1 < w3.heap.size := RowC.lt VT3
    have hP0 := start_st h1 h2 h3 h4 h5 (Nat.le_trans h03 hN.geR) (Nat.le_trans h03 hN.geD) hN.var hN.row
    have H0 : PlayS w w4 X c l R (.slice none 0 0) 0 := ⟨_, _, _, _, _, _, _, _, _, [], hP0, ⟨World.ownsRow_nil _ _ _ _, rfl, fun i q a hq => (by cases hq)⟩, bt b03 hN.bel, fun g hg => (by cases hg), VT3.below hN.bel, fun z => by
      have h1 := hN.geR
      have h2 := hN.geD
      omega, fun z => z, fun k z => z.elim⟩
    have hC' : C ≤ 9223372036854775807 := by unfold maxLen at hc2; exact hc2
    clear hw4 hN hP0 VS3 VT3 b03 s0 s1 s2 hmk hwr hw64 VS VT b2 b3 h03 hT3 r0 r1 r2 bR bq0 bq1 bq2 q00 q01 q02 q10 q11 q12 q20 q21 q22 h1 h2 h3 h4 h5 hc2
    obtain ⟨n, hn⟩ : ∃ n, n = l.length := ⟨_, rfl⟩
    have HN : Hid (n = l.length) := hn
    go_wp2_with fail
    go_loopw [9, 33] (fun y x wr => ∃ k : Nat, k ≤ l.length ∧ x = .int .i64 k ∧ PlayS w wr X c l R y k) (fun _ x _ => l.length - (intOf x).toNat)
    case atStart => exact ⟨0, Nat.zero_le _, rfl, H0⟩
    case round =>
      obtain ⟨k, hk, rfl, F, E, D', V, U, vt, vs, va, tc, qs, hP⟩ := hrel
      by_cases hlt : k < l.length
      · have hlt' : (k : Int) < (l.length : Int) := by omega
        obtain ⟨d, hd⟩ : ∃ d, l[k]? = some d := ⟨l[k], List.getElem?_eq_getElem hlt⟩
        obtain ⟨b, o, rfl, ve, t, hdin, hcs⟩ := HDO.out k d hd
        obtain ⟨Ad, Cd, rfl⟩ := hdin.evs.shape
        have hb := hP.bel
        have g0 : wr.cell? ⟨b, o + k * 9, none⟩ = some (.int .i64 d.kind) := (hb.cell (p := ⟨b, o + k * 9, none⟩) (World.block_lt_of_cell? _ _ (hcs 0 _ rfl))).trans (hcs 0 _ rfl)
        have g1 : wr.cell? ⟨b, o + k * 9 + 1, none⟩ = some (.int .i64 d.n) := (hb.cell (p := ⟨b, o + k * 9 + 1, none⟩) (World.block_lt_of_cell? _ _ (hcs 1 _ rfl))).trans (hcs 1 _ rfl)
        have g2 : wr.cell? ⟨b, o + k * 9 + 2, none⟩ = some (.int .i64 d.seg) := (hb.cell (p := ⟨b, o + k * 9 + 2, none⟩) (World.block_lt_of_cell? _ _ (hcs 2 _ rfl))).trans (hcs 2 _ rfl)
        have g3 : wr.cell? ⟨b, o + k * 9 + 3, none⟩ = some (.int .i64 d.pos) := (hb.cell (p := ⟨b, o + k * 9 + 3, none⟩) (World.block_lt_of_cell? _ _ (hcs 3 _ rfl))).trans (hcs 3 _ rfl)
        have g4 : wr.cell? ⟨b, o + k * 9 + 4, none⟩ = some (.int .u8 (d.turn : Int)) := (hb.cell (p := ⟨b, o + k * 9 + 4, none⟩) (World.block_lt_of_cell? _ _ (hcs 4 _ rfl))).trans (hcs 4 _ rfl)
        have g5 : wr.cell? ⟨b, o + k * 9 + 5, none⟩ = some (.int .i64 d.bat.cmd) := (hb.cell (p := ⟨b, o + k * 9 + 5, none⟩) (World.block_lt_of_cell? _ _ (hcs 5 _ rfl))).trans (hcs 5 _ rfl)
        have g6 : wr.cell? ⟨b, o + k * 9 + 6, none⟩ = some (.slice Ad d.bat.evs.length Cd) := (hb.cell (p := ⟨b, o + k * 9 + 6, none⟩) (World.block_lt_of_cell? _ _ (hcs 6 _ rfl))).trans (hcs 6 _ rfl)
        have g7 : wr.cell? ⟨b, o + k * 9 + 7, none⟩ = some (.string t) := (hb.cell (p := ⟨b, o + k * 9 + 7, none⟩) (World.block_lt_of_cell? _ _ (hcs 7 _ rfl))).trans (hcs 7 _ rfl)
        have g8 : wr.cell? ⟨b, o + k * 9 + 8, none⟩ = some (.int .i64 d.ver) := (hb.cell (p := ⟨b, o + k * 9 + 8, none⟩) (World.block_lt_of_cell? _ _ (hcs 8 _ rfl))).trans (hcs 8 _ rfl)
        have b5 : Below wr.heap.size wr (wr.alloc (.cells #[.int .i64 d.kind, .int .i64 d.n, .int .i64 d.seg, .int .i64 d.pos, .int .u8 (d.turn : Int), .int .i64 d.bat.cmd, .slice Ad d.bat.evs.length Cd, .string t, .int .i64 d.ver] 49)) := (Below.refl _ _).alloc (Nat.le_refl _) _
        have HC := do_any HX.out (wr.alloc (.cells #[.int .i64 d.kind, .int .i64 d.n, .int .i64 d.seg, .int .i64 d.pos, .int .u8 (d.turn : Int), .int .i64 d.bat.cmd, .slice Ad d.bat.evs.length Cd, .string t, .int .i64 d.ver] 49)) (hP.st.below b5) d (.slice Ad d.bat.evs.length Cd) t (hdin.below (bt hb b5)) (Nat.le_trans hb.size b5.size)
        have HC : Calls Tryz.prog 10 #[.pointer (some ⟨R, 0, none⟩), .agg #[.int .i64 d.kind, .int .i64 d.n, .int .i64 d.seg, .int .i64 d.pos, .int .u8 (d.turn : Int), .int .i64 d.bat.cmd, .slice Ad d.bat.evs.length Cd, .string t, .int .i64 d.ver]] (wr.alloc (.cells #[.int .i64 d.kind, .int .i64 d.n, .int .i64 d.seg, .int .i64 d.pos, .int .u8 (d.turn : Int), .int .i64 d.bat.cmd, .slice Ad d.bat.evs.length Cd, .string t, .int .i64 d.ver] 49)) fun e w' => DoO e (wr.alloc (.cells #[.int .i64 d.kind, .int .i64 d.n, .int .i64 d.seg, .int .i64 d.pos, .int .u8 (d.turn : Int), .int .i64 d.bat.cmd, .slice Ad d.bat.evs.length Cd, .string t, .int .i64 d.ver] 49)) w' w.heap.size R F E c (Sto.step X c (Sto.steps X c (Sto.start c) (l.take k)).1 d) := HC
        have HPP : Hid (PlayP w wr X c l R u9 k F E D' V U vt vs va tc qs) := hP
        have HD : Hid (l[k]? = some d) := hd
        clear hP hd hdin hcs hb
        go_wp2_with fail
        refine HC.mono ?_
        rintro e6 w6 ⟨v6, F', E', rfl, hS6, hF6, ve6, va6, rfl, he6, ha6⟩
        have hP := HPP.out
        have hA6 := (hP.ans.below b5).step (hF6.plus (w.heap.size + 1)) (fun g hg z => z.elim (hP.sep g hg).1 (hP.sepB hg))
        have hvl : ∀ g, u9.ownBlock = some g → g < (wr.alloc (.cells #[.int .i64 d.kind, .int .i64 d.n, .int .i64 d.seg, .int .i64 d.pos, .int .u8 (d.turn : Int), .int .i64 d.bat.cmd, .slice Ad d.bat.evs.length Cd, .string t, .int .i64 d.ver] 49)).heap.size := fun g hg => Nat.lt_of_lt_of_le (hP.ans.own.lt g hg).2 b5.size
        obtain ⟨Ae, Ce, hve⟩ := he6.1.shape
        obtain ⟨Aa, Ca, hva⟩ := ha6.1.shape
        subst hve
        subst hva
        obtain ⟨a, hae⟩ : ∃ a, a = (Sto.step X c (Sto.steps X c (Sto.start c) (l.take k)).1 d).2 := ⟨_, rfl⟩
        have hB5 : w.heap.size + 1 < (wr.alloc (.cells #[.int .i64 d.kind, .int .i64 d.n, .int .i64 d.seg, .int .i64 d.pos, .int .u8 (d.turn : Int), .int .i64 d.bat.cmd, .slice Ad d.bat.evs.length Cd, .string t, .int .i64 d.ver] 49)).heap.size := RowC.lt (hP.res.below b5)
        have hmv : ∀ g, E' g → ¬ (F' g ∨ g = w.heap.size + 1) ∧ g < w6.heap.size ∧ u9.ownBlock ≠ some g ∧ w.heap.size ≤ g := fun g hg => ⟨fun z => z.elim (hS6.dis hg).1 fun z => by
          rcases hF6.growE g hg with y | y
          · exact hP.noE (z ▸ y)
          · omega, (hS6.dis hg).2, fun z => by
          rcases hF6.growE g hg with y | y
          · exact (hP.sep g z).2 y
          · have := hvl g z
            omega, by
          rcases hF6.growE g hg with y | y
          · exact hP.geE g y
          · exact Nat.le_trans (Nat.le_trans hP.bel.size b5.size) y⟩
        have hql : qs.length ≤ 1000 := by
          have h1 := hP.ans.len
          rw [Sto.steps_length, List.length_take] at h1
          omega
        have hN6 : w.heap.size ≤ w6.heap.size := Nat.le_trans (Nat.le_trans hP.bel.size b5.size) hF6.off.size
        rw [← hae] at he6 ha6 ⊢
        have hav : AnsV w6 (fun k => ¬ (F' k ∨ k = w.heap.size + 1) ∧ k < w6.heap.size ∧ u9.ownBlock ≠ some k ∧ w.heap.size ≤ k) (.agg (anCells (a.err, a.n, (Ae, a.evs.length, Ce), a.vu, (Aa, a.vl.length, Ca))).toArray) a := ⟨.slice Ae a.evs.length Ce, .slice Aa a.vl.length Ca, rfl, ⟨he6.1, fun g hg hl => hmv g (he6.2 g hg hl)⟩, ⟨ha6.1, fun g hg hl => hmv g (ha6.2 g hg hl)⟩⟩
        obtain ⟨v7, w7, hrun, hA7, ho7, hat7⟩ := app_ans w6 w.heap.size (fun k => F' k ∨ k = w.heap.size + 1) u9 qs _ hA6 hN6 (a.err, a.n, (Ae, a.evs.length, Ce), a.vu, (Aa, a.vl.length, Ca)) a hav hql
        have HNX : PlayS w w7 X c l R v7 (k + 1) := hP.next HD.out b5 hS6 hF6 ho7 hat7 (by rw [← hae]; exact hA7)
        obtain ⟨ae, hal⟩ : ∃ x, x = a.evs.length := ⟨_, rfl⟩
        obtain ⟨aa, haa⟩ : ∃ x, x = a.vl.length := ⟨_, rfl⟩
        have hrun : (Builtin.append_ #[33, 33] 33 #[u9, .slice (some ⟨w6.heap.size, 0, none⟩) 1 1]).run Tryz.prog (w6.alloc (.cells #[.int .i64 (a.err : Nat), .int .i64 a.n, .slice Ae a.evs.length Ce, .int .i64 a.vu, .slice Aa a.vl.length Ca] 42)) = .ok v7 w7 := hrun
        rw [← hal, ← haa] at hrun
        rw [← hal, ← haa]
        clear HC hP hA6 hvl hae hmv hql hN6 he6 ha6 hav hA7 ho7 hat7 hS6 hF6 hal haa hB5 b5
        go_wp2_with (at_builtin; refine Lib.wpList_append_run _ rfl _ _ _ _ rfl _ _ rfl rfl _ _ hrun ?_)
        exact ⟨⟨k + 1, by omega, by go_num, HNX⟩, by simp [intOf]; omega⟩
      · obtain rfl : k = l.length := by omega
        have hT := hP.res
        have hRl : R ≠ w.heap.size + 1 := fun e => hP.noF (e ▸ hP.st.fR)
        have hRl2 : w.heap.size + 1 ≠ R := fun e => hRl e.symm
        have hS := hP.st
        have hA := hP.ans
        rw [List.take_length] at hS hA
        obtain ⟨s, hs⟩ : ∃ s, s = (Sto.steps X c (Sto.start c) l).1 := ⟨_, rfl⟩
        rw [← hs] at hS
        obtain ⟨At, n5, Ct, rfl⟩ : ∃ At n Ct, vt = .slice At n Ct := by
          rcases hS.tail.own.2 with ⟨rfl, _⟩ | ⟨g, cap, cur, rfl, _⟩
          · exact ⟨_, _, _, rfl⟩
          · exact ⟨_, _, _, rfl⟩
        obtain ⟨As, n6, Cs, rfl⟩ : ∃ At n Ct, vs = .slice At n Ct := by
          rcases hS.seen.2 with ⟨rfl, _⟩ | ⟨g, cap, cur, rfl, _⟩
          · exact ⟨_, _, _, rfl⟩
          · exact ⟨_, _, _, rfl⟩
        obtain ⟨Aa, n8, Ca, rfl⟩ : ∃ At n Ct, va = .slice At n Ct := by
          obtain ⟨A, C, h⟩ := hS.acc.1.shape
          exact ⟨_, _, _, h⟩
        have b0 := hT.cell (i := 0) rfl
        have b1 := hT.cell (i := 1) rfl
        have b2 := hT.cell (i := 2) rfl
        have b3 := hT.cell (i := 3) rfl
        have b4 := hT.cell (i := 4) rfl
        have b5 := hT.cell (i := 5) rfl
        have b6 := hT.cell (i := 6) rfl
        have b7 := hT.cell (i := 7) rfl
        have b8 := hT.cell (i := 8) rfl
        have f0 := hT.frozen 0
        have f1 := hT.frozen 1
        have f2 := hT.frozen 2
        have f3 := hT.frozen 3
        have f4 := hT.frozen 4
        have f5 := hT.frozen 5
        have f6 := hT.frozen 6
        have f7 := hT.frozen 7
        have f8 := hT.frozen 8
        have c0 := hS.var.cell (i := 0) rfl
        have c1 := hS.var.cell (i := 1) rfl
        have c2 := hS.var.cell (i := 2) rfl
        have c3 := hS.var.cell (i := 3) rfl
        have c4 := hS.var.cell (i := 4) rfl
        have c5 := hS.var.cell (i := 5) rfl
        have c6 := hS.var.cell (i := 6) rfl
        have c7 := hS.var.cell (i := 7) rfl
        have c8 := hS.var.cell (i := 8) rfl
        obtain ⟨n3, hn3⟩ : ∃ n3, n3 = s.disks.length := ⟨_, rfl⟩
        have HFI : Hid (∀ w', Off (fun k => k = w.heap.size + 1) wr w' → PlayO (.returned (.tuple #[.agg #[.int .i64 (c.d : Int), .int .i64 (c.s : Int), .int .i64 (c.b : Int), .slice (some ⟨D', 0, none⟩) n3 n3, .int .i64 (s.segs : Int), .slice At n5 Ct, .slice As n6 Cs, .int .i64 s.u, .slice Aa n8 Ca], u9, .int .i64 0])) w w' X c l) := fun w' ho => by
          have hk : ∀ k, k < wr.heap.size → ¬ (F k ∨ k = w.heap.size + 1) → w'.heap[k]? = wr.heap[k]? := fun k hk z => ho.block k hk fun y => z (Or.inr y)
          refine ⟨w.heap.size, R, F, E, D', V, U, .slice At n5 Ct, .slice As n6 Cs, .slice Aa n8 Ca, tc, u9, qs, ?_, ?_, ⟨owns_off hA.own ho fun g hg e => hP.sepB hg e, hA.len, fun i q a hq ha => (hA.ans i q a hq ha).move (fun k hk1 z => hk k hk1 z.1) fun k hk1 z => ⟨fun y => z.1 (Or.inl y), Nat.lt_of_lt_of_le hk1 ho.size, z.2.2⟩⟩, hP.bel.trans (ho.below hP.bel.size fun k e => by omega), rfl, hP.geE⟩
          · rw [← hs, hn3]
            rfl
          · rw [← hs]
            exact hS.out ho fun k e => by
              rw [show k = w.heap.size + 1 from e]
              exact ⟨hP.noF, hP.noE⟩
        rw [← hn3] at c3
        clear hT hP hS hA hs hn3
        go_wp2_with fail
        refine bodyPost_ret (v := .tuple #[.agg #[.int .i64 (c.d : Int), .int .i64 (c.s : Int), .int .i64 (c.b : Int), .slice (some ⟨D', 0, none⟩) n3 n3, .int .i64 (s.segs : Int), .slice At n5 Ct, .slice As n6 Cs, .int .i64 s.u, .slice Aa n8 Ca], u9, .int .i64 0]) (by simp [results, Tryz.results4, go_sem, b0, b1, b2, b3, b4, b5, b6, b7, b8]) rfl ?_
        exact HFI.out _ (off_nine _ _ _ _ _ _ _ _ _ _ _)

end Go.Proofs.YtmcaejooaaahdaaGreat
