/-
  What grid.filled does with whatever function it is handed, and grid.One.
-/
import Derived.Test.YtmlboaejkmffjadWrong
namespace Go.Proofs.Ytmlboaejkmffjad
open Go.RowKit

theorem Try.infoRow : (Try.prog.info? 25).map (fun i => (i.zero, i.size, i.bytes)) = some (some (.slice none 0 0), 1, 24) := by kernel_rfl

/-- The rows of a matrix, the first r of them made. -/
def topTo (r cols : Nat) (G : Nat → Nat) (i : Nat) : Value := if i < r then .slice (some ⟨G i, 0, none⟩) cols cols else .slice none 0 0
def updG (G : Nat → Nat) (r g i : Nat) : Nat := if i = r then g else G i

structure Part (w : World) (b rows cols r : Nat) (G : Nat → Nat) (f : Nat → Nat → Nat) : Prop where
  top : w.rowIs b 25 rows (topTo r cols G)
  row : ∀ i, i < r → w.rowIs (G i) 5 cols (fun k => .int .u8 (f i k : Nat))
  low : ∀ i, i < r → b < G i
  inj : ∀ i j, i < r → j < r → i ≠ j → G i ≠ G j

structure Fill (w : World) (b rows cols r j : Nat) (G : Nat → Nat) (f : Nat → Nat → Nat) : Prop where
  top : w.rowIs b 25 rows (topTo (r + 1) cols G)
  row : ∀ i, i < r → w.rowIs (G i) 5 cols (fun k => .int .u8 (f i k : Nat))
  cur : w.rowIs (G r) 5 cols (fun k => .int .u8 (upto j (f r) (fun _ => 0) k : Nat))
  low : ∀ i, i < r + 1 → b < G i
  inj : ∀ i j, i < r + 1 → j < r + 1 → i ≠ j → G i ≠ G j

theorem part_start (w : World) (rows cols : Nat) (G : Nat → Nat) (f : Nat → Nat → Nat) : Part (w.alloc (.cells (madeCells #[.slice none 0 0] rows) 25)) w.heap.size rows cols 0 G f :=
  ⟨(World.rowIs_made w _ rows 25).congr (fun j _ => by unfold topTo; rw [if_neg (Nat.not_lt_zero _)]), fun i hi => absurd hi (Nat.not_lt_zero _), fun i hi => absurd hi (Nat.not_lt_zero _), fun i _ hi => absurd hi (Nat.not_lt_zero _)⟩

theorem fill_start {w : World} {b rows cols r : Nat} {G : Nat → Nat} {f : Nat → Nat → Nat} (h : Part w b rows cols r G f) :
    Fill ((w.setCell ⟨b, r, none⟩ (.slice (some ⟨w.heap.size, 0, none⟩) cols cols)).alloc (.cells (madeCells #[.int .u8 0] cols) 5)) b rows cols r 0 (updG G r w.heap.size) f := by
  have hnew := World.rowIs_made (w.setCell ⟨b, r, none⟩ (.slice (some ⟨w.heap.size, 0, none⟩) cols cols)) (.int .u8 0) cols 5
  rw [Deep.nblk_setCell] at hnew
  have hbs := h.top.lt
  have e1 : ∀ i, i < r → updG G r w.heap.size i = G i := fun i hi => if_neg (by omega)
  have e2 : updG G r w.heap.size r = w.heap.size := if_pos rfl
  refine ⟨((h.top.set r _).alloc _).congr (fun j _ => ?_), fun i hi => ?_, ?_, fun i hi => ?_, fun i j hi hj hne => ?_⟩
  · unfold topTo
    by_cases e : j = r
    · subst e
      rw [if_pos rfl, if_pos (by omega), e2]
    · rw [if_neg e]
      by_cases hlt : j < r
      · rw [if_pos hlt, if_pos (by omega), e1 j hlt]
      · rw [if_neg hlt, if_neg (by omega)]
  · rw [e1 i hi]
    exact ((h.row i hi).setOther (by have := h.low i hi; show G i ≠ b; omega) _).alloc _
  · rw [e2]
    exact hnew.congr (fun k _ => by show _ = Value.int .u8 ((upto 0 (f r) (fun _ => 0) k : Nat) : Int); unfold upto; rw [if_neg (Nat.not_lt_zero _)]; rfl)
  · by_cases e : i = r
    · rw [e, e2]
      exact hbs
    · rw [e1 i (by omega)]
      exact h.low i (by omega)
  · by_cases ei : i = r
    · rw [ei, e2, e1 j (by omega)]
      have := (h.row j (by omega)).lt
      omega
    · by_cases ej : j = r
      · rw [ej, e2, e1 i (by omega)]
        have := (h.row i (by omega)).lt
        omega
      · rw [e1 i (by omega), e1 j (by omega)]
        exact h.inj i j (by omega) (by omega) hne

theorem Fill.below {w w' : World} {b rows cols r j : Nat} {G : Nat → Nat} {f : Nat → Nat → Nat} (h : Fill w b rows cols r j G f) (hb : Below w.heap.size w w') : Fill w' b rows cols r j G f :=
  ⟨rowIs_below h.top hb, fun i hi => rowIs_below (h.row i hi) hb, rowIs_below h.cur hb, h.low, h.inj⟩
theorem Fill.drew {w : World} {b rows cols r j : Nat} {G : Nat → Nat} {f : Nat → Nat → Nat} (h : Fill w b rows cols r j G f) : Fill w.drew b rows cols r j G f := ⟨h.top, h.row, h.cur, h.low, h.inj⟩
theorem fill_step {w : World} {b rows cols r j : Nat} {G : Nat → Nat} {f : Nat → Nat → Nat} (h : Fill w b rows cols r j G f) : Fill (w.setCell ⟨G r, j, none⟩ (.int .u8 (f r j : Nat))) b rows cols r (j + 1) G f :=
  ⟨h.top.setOther (by have := h.low r (by omega); show b ≠ G r; omega) _, fun i hi => (h.row i hi).setOther (h.inj i r (by omega) (by omega) (by omega)) _, row_step h.cur, h.low, h.inj⟩
theorem fill_done {w : World} {b rows cols r : Nat} {G : Nat → Nat} {f : Nat → Nat → Nat} (h : Fill w b rows cols r cols G f) : Part w b rows cols (r + 1) G f :=
  ⟨h.top, fun i hi => by
    by_cases e : i = r
    · rw [e]
      exact h.cur.congr (fun k hk => by rw [show upto cols (f r) (fun _ => 0) k = f r k from if_pos hk])
    · exact h.row i (by omega), h.low, h.inj⟩
theorem part_own {w : World} {b rows cols : Nat} {G : Nat → Nat} {f : Nat → Nat → Nat} (h : Part w b rows cols rows G f) : Own w b b rows cols G f :=
  ⟨h.top.congr (fun i hi => if_pos hi), h.row, Nat.le_refl _, fun r hr => Nat.le_of_lt (h.low r hr), fun r hr => by have := h.low r hr; omega, h.inj⟩

/-- A function of two numbers that tells the bytes of a matrix. -/
def CellOn (g : Nat) (lb : Array Value) (rows cols : Nat) (f : Nat → Nat → Nat) (w : World) : Prop :=
  ∀ i, i < rows → ∀ j, j < cols → ∀ W, Below w.heap.size w W → Calls Try.prog g (#[.int .i64 (i : Int), .int .i64 (j : Int)] ++ lb) W fun e w' => e = .returned (.int .u8 (f i j : Nat)) ∧ Below W.heap.size W w'

set_option maxHeartbeats 4000000 in
theorem filled_any (g rows cols : Nat) (lb : Array Value) (f : Nat → Nat → Nat) (w : World) (eg : ∀ args w, (callFunc g args).run Try.prog w = .ok (.enter g args) w)
    (hcell : CellOn g lb rows cols f w) (hr : rows ≤ 1000) (hc : cols ≤ 1000) :
    Calls Try.prog 81 #[.int .i64 (rows : Int), .int .i64 (cols : Int), .func (.func g) #[] lb] w fun e w' =>
      e = .returned (.slice (some ⟨w.heap.size, 0, none⟩) rows rows) ∧ (∃ G, Own w' w.heap.size w.heap.size rows cols G f) ∧ Below w.heap.size w w' := by
  have hmk1 := run_make_row' (P := Try.prog) 91 25 (.slice none 0 0) 24 Try.underlying91 Try.infoRow rfl .i64 .i64 rows (by omega) (by omega)
  have hmk2 := run_make_row' (P := Try.prog) 25 5 (.int .u8 0) 1 Try.underlying25 Try.infoByte rfl .i64 .i64 cols (by omega) (by omega)
  go_enter Try.func81, Try.ntmps81
  go_wp2_with fail
  clear hmk1
  go_loopw [14] (fun i wr => ∃ r : Nat, r ≤ rows ∧ i = .int .i64 r ∧ (∃ G, Part wr w.heap.size rows cols r G f) ∧ Below w.heap.size w wr) (fun i _ => rows - (intOf i).toNat)
  case atStart => exact ⟨0, Nat.zero_le _, rfl, ⟨fun _ => 0, part_start w rows cols _ f⟩, (Below.refl _ _).alloc (Nat.le_refl _) _⟩
  case round =>
    obtain ⟨r, hrr, rfl, ⟨G, hp⟩, hb⟩ := hrel
    by_cases hlt : r < rows
    · have hlt' : (r : Int) < (rows : Int) := by omega
      have hfz := hp.top.frozen r
      have hct := hp.top.cell hlt
      have hbl := hp.top.lt
      obtain ⟨wo, rfl⟩ : ∃ x, x = wr := ⟨wr, rfl⟩
      have HF := fill_start hp
      obtain ⟨G', hG'⟩ : ∃ G', G' = updG G r wo.heap.size := ⟨_, rfl⟩
      rw [← hG'] at HF
      clear hp hG'
      go_wp2_with fail
      clear hfz hct hmk2
      go_loopw [27] (fun i wi => ∃ j : Nat, j ≤ cols ∧ i = .int .i64 j ∧ Fill wi w.heap.size rows cols r j G' f ∧ Below w.heap.size w wi) (fun i _ => cols - (intOf i).toNat)
      case atStart => exact ⟨0, Nat.zero_le _, rfl, HF, (hb.setCell (p := ⟨w.heap.size, r, none⟩) (Nat.le_refl _) _).alloc (by rw [Deep.nblk_setCell]; exact hb.size) _⟩
      case round =>
        obtain ⟨j, hjj, rfl, hF, hbi⟩ := hrel
        clear HF
        by_cases hj : j < cols
        · have hj' : (j : Int) < (cols : Int) := by omega
          have hct := hF.top.cell hlt
          rw [show topTo (r + 1) cols G' r = .slice (some ⟨G' r, 0, none⟩) cols cols from if_pos (by omega)] at hct
          have hcl := hcell r hlt j hj _ hbi.drew
          go_wp2_with fail
          go_region_with (go_at_fn g; refine hcl.mono ?_; rintro e w1 ⟨rfl, hb1⟩; have hF1 := hF.drew.below hb1; have hct1 := hF1.top.cell hlt; rw [show topTo (r + 1) cols G' r = .slice (some ⟨G' r, 0, none⟩) cols cols from if_pos (by omega)] at hct1; have hcc := hF1.cur.cell hj; have hcf := hF1.cur.frozen j)
          all_goals go_wp2_with fail
          all_goals exact ⟨⟨j + 1, by omega, by go_num, fill_step hF1, (hbi.drew.trans (hb1.mono hbi.size)).setCell (Nat.le_of_lt (hF1.low r (by omega))) _⟩, by simp [intOf]; omega⟩
        · have e9 : j = cols := by omega
          subst e9
          go_wp2_with fail
          exact ⟨⟨r + 1, by omega, by go_num, ⟨_, fill_done hF⟩, hbi⟩, by simp [intOf]; omega⟩
    · have e8 : r = rows := by omega
      subst e8
      clear hmk2
      go_wp2_with fail
      go_ret
      exact ⟨rfl, ⟨G, part_own hp⟩, hb⟩

end Go.Proofs.Ytmlboaejkmffjad
