/-
  Texts of the proof, joined: HHold, HWrite.
-/
import Derived.Test.YtldjieplbeflfaaGreatX17
import Derived.Test.YtldjieplbeflfaaGreatX20
namespace Go.Proofs.YtldjieplbeflfaaGreat
open Go.RowKit

theorem ins_get {α : Type} (l : List α) (x : α) {i : Nat} (hi : i ≤ l.length) (a : Nat) : (l.take i ++ x :: l.drop i)[a]? = if a < i then l[a]? else if a = i then some x else l[a - 1]? := by
  by_cases h : a < i
  · rw [if_pos h, List.getElem?_append_left (by rw [List.length_take]; omega), List.getElem?_take, if_pos h]
  · rw [if_neg h, List.getElem?_append_right (by rw [List.length_take]; omega), List.length_take, show min i l.length = i by omega]
    by_cases e : a = i
    · subst e
      rw [if_pos rfl, Nat.sub_self]
      rfl
    · rw [if_neg e, show a - i = (a - i - 1) + 1 by omega, List.getElem?_cons_succ, List.getElem?_drop, show i + (a - i - 1) = a - 1 by omega]
theorem upd_self {α : Type} (Q : Nat → α) (k : Nat) : upd Q k (Q k) = Q := funext fun i => by
  unfold upd
  split
  · rename_i h
    rw [h]
  · rfl
theorem dkF_set {V : Nat → Value} {ds : List Sto.Disk} {q : Nat} {d d' : Sto.Disk} (hq : ds[q]? = some d) (v' : Value) (j : Nat) : dkF (upd V q v') (ds.set q d') j = if j = q * 2 then .bool d'.gone else if j = q * 2 + 1 then v' else dkF V ds j := by
  have hl := (List.getElem?_eq_some_iff.1 hq).1
  unfold dkF
  by_cases e : j % 2 = 0
  · rw [if_pos e, if_pos e, if_neg (show ¬ j = q * 2 + 1 by omega), List.getD_eq_getElem?_getD, List.getD_eq_getElem?_getD]
    by_cases g : j = q * 2
    · rw [if_pos g, show j / 2 = q by omega, List.getElem?_set_self hl]
      rfl
    · rw [if_neg g, List.getElem?_set_ne (show q ≠ j / 2 by omega)]
  · rw [if_neg e, if_neg e, if_neg (show ¬ j = q * 2 by omega)]
    by_cases g : j = q * 2 + 1
    · rw [if_pos g, show j / 2 = q by omega, upd_at]
    · rw [if_neg g, upd_ne _ _ (show j / 2 ≠ q by omega)]

theorem flat_setH : ∀ (l : List HeC) (i t : Nat) (a a' : HeC) (u : Value), t < 2 → l[i]? = some a → heCells a' = (heCells a).set t u → (l.flatMap heCells).set (i * 2 + t) u = (l.set i a').flatMap heCells :=
  fun l i t a a' u ht h hf => flat_set heCells 2 l i t a a' u (fun _ _ => rfl) ht h hf

section
variable {w : World} {N D : Nat} {V : Nat → Value} {U : Nat → List HeC} {ds : List Sto.Disk}
theorem DkAt.Vlt (h : DkAt w N D V U ds) {i g : Nat} (hi : i < ds.length) (hg : (V i).ownBlock = some g) : g < w.heap.size := ((h.own i hi).lt g hg).2
/-- In the place of one that is there. -/
theorem DkAt.there (h : DkAt w N D V U ds) {q i g n cap : Nat} {d : Sto.Disk} {x : HeC} (hq : ds[q]? = some d) (hV : V q = .slice (some ⟨g, 0, none⟩) n cap) (hx : (U q)[i]? = some x) (y : Sl) (r : List Nat) (hY : OwnB w N (slV y) r)
    (hsep : ∀ (j : Nat) (z : HeC) (b : Nat), j < ds.length → z ∈ U j → (slV y).ownBlock = some b → (slV z.2.1).ownBlock ≠ some b) :
    DkAt (w.setCell ⟨g, i * 2 + 1, none⟩ (slV y)) N D V (upd U q ((U q).set i (x.1, y, r))) (ds.set q ⟨d.gone, d.bl.set i (x.1, r)⟩) := by
  have hl := (List.getElem?_eq_some_iff.1 hq).1
  have ho := off_set w ⟨g, i * 2 + 1, none⟩ (slV y)
  have hown := h.own q hl
  have hgV : (V q).ownBlock = some g := by rw [hV]; rfl
  have hty := owns_ty hown hgV
  have hn : n = (U q).length := by
    rcases hown.2 with ⟨e, _⟩ | ⟨_, _, _, e, _⟩
    · rw [hV] at e
      cases e
    · rw [hV] at e
      cases e
      rfl
  have hY' : OwnB (w.setCell ⟨g, i * 2 + 1, none⟩ (slV y)) N (slV y) r := hY.off ho fun b hb s => (hY.ty hb).ne hty (by decide) s
  have H := h.put (w' := w.setCell ⟨g, i * 2 + 1, none⟩ (slV y)) hl ⟨d.gone, d.bl.set i (x.1, r)⟩ (V q) ((U q).set i (x.1, y, r)) ?_ (ho.wider fun k s => Or.inr (Or.inl (by rw [hgV, s]))) ?_ ?_ (fun z hz => ?_) (fun b hb => Or.inl hb) (fun a z b ha hb => ?_) (fun a b z z' c ha hb h1 h2 => ?_)
  · rw [upd_self] at H
    exact H
  · refine (h.row.of_block (ho.block D h.row.lt fun s => h.row.ty.ne hty (by decide) s)).congr fun j hj => ?_
    rw [dkF_set hq (V q) j]
    by_cases e : j = q * 2
    · rw [if_pos e, e]
      unfold dkF
      rw [if_pos (by omega), show q * 2 / 2 = q by omega, List.getD_eq_getElem?_getD, hq]
      rfl
    · rw [if_neg e]
      by_cases e2 : j = q * 2 + 1
      · rw [if_pos e2, e2]
        unfold dkF
        rw [if_neg (by omega), show (q * 2 + 1) / 2 = q by omega]
      · rw [if_neg e2]
  · rw [hV] at hown ⊢
    subst hn
    rw [List.length_set, ← flat_setH (U q) i 1 x (x.1, y, r) (slV y) (by decide) hx rfl]
    exact (hown.stored (i * 2 + 1) (slV y)).1
  · show d.bl.set i (x.1, r) = ((U q).set i (x.1, y, r)).map heOf
    rw [List.map_set, h.bl q d hq]
    rfl
  · rcases List.mem_or_eq_of_mem_set hz with k | rfl
    · exact (h.byt q z hl k).off ho fun b hb s => ((h.byt q z hl k).ty hb).ne hty (by decide) s
    · exact hY'
  · by_cases e : a = i
    · subst e
      rw [List.getElem?_set_self (List.getElem?_eq_some_iff.1 hx).1] at ha
      cases ha
      exact Or.inr fun j z1 hj hz1 => hsep j z1 b hj hz1 hb
    · rw [List.getElem?_set_ne (fun z => e z.symm)] at ha
      exact Or.inl ⟨z, List.mem_of_getElem? ha, hb⟩
  · have hil := (List.getElem?_eq_some_iff.1 hx).1
    by_cases e : a = i
    · by_cases e2 : b = i
      · rw [e, e2]
      · subst e
        rw [List.getElem?_set_self hil] at ha
        rw [List.getElem?_set_ne (fun z => e2 z.symm)] at hb
        cases ha
        exact absurd h2 (hsep q z' c hl (List.mem_of_getElem? hb) h1)
    · rw [List.getElem?_set_ne (fun z => e z.symm)] at ha
      by_cases e2 : b = i
      · subst e2
        rw [List.getElem?_set_self hil] at hb
        cases hb
        exact absurd h1 (hsep q z c hl (List.mem_of_getElem? ha) h2)
      · rw [List.getElem?_set_ne (fun z => e2 z.symm)] at hb
        exact (h.sepU q q a b z z' c hl hl ha hb h1 h2).2
/-- In a new place. -/
theorem DkAt.fresh (h : DkAt w N D V U ds) {w1 : World} {q i g n cap : Nat} {d : Sto.Disk} (hq : ds[q]? = some d) (k : Int) (hi : i ≤ (U q).length) (y : Sl) (r : List Nat) (hY : OwnB w N (slV y) r)
    (hown : w1.ownsRow N 78 2 (.slice (some ⟨g, 0, none⟩) n cap) ((U q).length + 1) (((U q).take i ++ (k, ((none, 0, 0) : Sl), ([] : List Nat)) :: (U q).drop i).flatMap heCells)) (ho : Off (fun k => (V q).ownBlock = some k) w w1) (hat : (V q).ownBlock = some g ∨ w.heap.size ≤ g)
    (hsep : ∀ (j : Nat) (z : HeC) (b : Nat), j < ds.length → z ∈ U j → (slV y).ownBlock = some b → (slV z.2.1).ownBlock ≠ some b) :
    DkAt ((w1.setCell ⟨D, q * 2 + 1, none⟩ (.slice (some ⟨g, 0, none⟩) n cap)).setCell ⟨g, i * 2 + 1, none⟩ (slV y)) N D (upd V q (.slice (some ⟨g, 0, none⟩) n cap)) (upd U q ((U q).take i ++ (k, y, r) :: (U q).drop i)) (ds.set q ⟨d.gone, d.bl.take i ++ (k, r) :: d.bl.drop i⟩) := by
  have hl := (List.getElem?_eq_some_iff.1 hq).1
  have hownV := h.own q hl
  have hn : n = (U q).length + 1 := by
    rcases hown.2 with ⟨e, _⟩ | ⟨_, _, _, e, _⟩
    · cases e
    · cases e
      rfl
  subst hn
  have hgty : TyB w1 g 78 := owns_ty hown rfl
  have hDty : TyB w1 D 52 := h.row.ty.of_block (ho.block D h.row.lt fun s => h.row.ty.ne (owns_ty hownV s) (by decide) rfl)
  have hDg : D ≠ g := hDty.ne hgty (by decide)
  have hrow1 : RowC w1 D 52 (ds.length * 2) (dkF V ds) := h.row.of_block (ho.block D h.row.lt fun s => h.row.ty.ne (owns_ty hownV s) (by decide) rfl)
  have oA := off_set w1 ⟨D, q * 2 + 1, none⟩ (.slice (some ⟨g, 0, none⟩) ((U q).length + 1) cap)
  have oB := off_set (w1.setCell ⟨D, q * 2 + 1, none⟩ (.slice (some ⟨g, 0, none⟩) ((U q).length + 1) cap)) ⟨g, i * 2 + 1, none⟩ (slV y)
  have hoW : Off (fun k => k = D ∨ (V q).ownBlock = some k ∨ ∃ x, x ∈ U q ∧ (slV x.2.1).ownBlock = some k) w ((w1.setCell ⟨D, q * 2 + 1, none⟩ (.slice (some ⟨g, 0, none⟩) ((U q).length + 1) cap)).setCell ⟨g, i * 2 + 1, none⟩ (slV y)) := by
    refine ((ho.wider fun k s => Or.inr (Or.inl s)).past oA fun k s _ => Or.inl s).past oB fun k s hk => ?_
    have s : k = g := s
    rcases hat with z | z
    · exact Or.inr (Or.inl (by rw [s]; exact z))
    · omega
  have hYo : ∀ {u : Value} {t : List Nat}, OwnB w N u t → OwnB ((w1.setCell ⟨D, q * 2 + 1, none⟩ (.slice (some ⟨g, 0, none⟩) ((U q).length + 1) cap)).setCell ⟨g, i * 2 + 1, none⟩ (slV y)) N u t := fun {u t} hu => by
    refine hu.of_block fun b hb => ?_
    have hlt := (hu.ty hb).lt
    have h1 : w1.heap[b]? = w.heap[b]? := ho.block b hlt fun s => (hu.ty hb).ne (owns_ty hownV s) (by decide) rfl
    have hb1 : TyB w1 b 5 := (hu.ty hb).of_block h1
    rw [oB.block b (by simpa using hb1.lt) (fun s => hb1.ne hgty (by decide) s), oA.block b hb1.lt (fun s => hb1.ne hDty (by decide) s)]
    exact h1
  refine h.put hl ⟨d.gone, d.bl.take i ++ (k, r) :: d.bl.drop i⟩ _ ((U q).take i ++ (k, y, r) :: (U q).drop i) ?_ hoW ?_ ?_ (fun z hz => ?_) (fun b hb => ?_) (fun a z b ha hb => ?_) (fun a b z z' c ha hb h1 h2 => ?_)
  · refine ((hrow1.set (q * 2 + 1) (.slice (some ⟨g, 0, none⟩) ((U q).length + 1) cap)).setOther hDg (slV y)).congr fun j hj => ?_
    rw [dkF_set hq _ j]
    by_cases e : j = q * 2
    · rw [if_pos e, if_neg (by omega), e]
      unfold dkF
      rw [if_pos (by omega), show q * 2 / 2 = q by omega, List.getD_eq_getElem?_getD, hq]
      rfl
    · rw [if_neg e]
  · have hx : ((U q).take i ++ (k, ((none, 0, 0) : Sl), ([] : List Nat)) :: (U q).drop i)[i]? = some (k, (none, 0, 0), []) := by
      rw [ins_get _ _ hi, if_neg (Nat.lt_irrefl i), if_pos rfl]
    have hown2 : (w1.setCell ⟨D, q * 2 + 1, none⟩ (.slice (some ⟨g, 0, none⟩) ((U q).length + 1) cap)).ownsRow N 78 2 (.slice (some ⟨g, 0, none⟩) ((U q).length + 1) cap) ((U q).length + 1) (((U q).take i ++ (k, ((none, 0, 0) : Sl), ([] : List Nat)) :: (U q).drop i).flatMap heCells) := owns_off hown oA fun b hb s => by
      cases hb
      exact hDg s.symm
    have := (hown2.stored (i * 2 + 1) (slV y)).1
    rw [flat_setH _ i 1 _ (k, y, r) (slV y) (by decide) hx rfl] at this
    have e : ((U q).take i ++ (k, ((none, 0, 0) : Sl), ([] : List Nat)) :: (U q).drop i).set i (k, y, r) = (U q).take i ++ (k, y, r) :: (U q).drop i := by
      rw [List.set_append_right _ _ (by rw [List.length_take]; omega), List.length_take, show i - min i (U q).length = 0 by omega, List.set_cons_zero]
    rw [e] at this
    have hlen : ((U q).take i ++ (k, y, r) :: (U q).drop i).length = (U q).length + 1 := by
      simp
      omega
    rw [hlen]
    exact this
  · show d.bl.take i ++ (k, r) :: d.bl.drop i = ((U q).take i ++ (k, y, r) :: (U q).drop i).map heOf
    rw [List.map_append, List.map_cons, List.map_take, List.map_drop, h.bl q d hq]
    rfl
  · rcases List.mem_append.1 hz with z1 | z1
    · exact hYo (h.byt q z hl (List.mem_of_mem_take z1))
    · rcases List.mem_cons.1 z1 with rfl | z1
      · exact hYo hY
      · exact hYo (h.byt q z hl (List.mem_of_mem_drop z1))
  · cases hb
    rcases hat with z | z
    · exact Or.inl z
    · exact Or.inr fun j hj e => by
        have : g < w.heap.size := h.Vlt hj e
        omega
  · rw [ins_get _ _ hi] at ha
    by_cases e : a < i
    · rw [if_pos e] at ha
      exact Or.inl ⟨z, List.mem_of_getElem? ha, hb⟩
    · rw [if_neg e] at ha
      by_cases e2 : a = i
      · rw [if_pos e2] at ha
        cases ha
        exact Or.inr fun j z1 hj hz1 => hsep j z1 b hj hz1 hb
      · rw [if_neg e2] at ha
        exact Or.inl ⟨z, List.mem_of_getElem? ha, hb⟩
  · rw [ins_get _ _ hi] at ha hb
    have old : ∀ (a : Nat) (z : HeC), a ≠ i → (if a < i then (U q)[a]? else if a = i then some (k, y, r) else (U q)[a - 1]?) = some z → (U q)[if a < i then a else a - 1]? = some z := fun a z hne h => by
      by_cases e : a < i
      · rw [if_pos e] at h ⊢
        exact h
      · rw [if_neg e, if_neg hne] at h
        rw [if_neg e]
        exact h
    by_cases e : a = i
    · by_cases e2 : b = i
      · rw [e, e2]
      · rw [if_neg (by omega), if_pos e] at ha
        cases ha
        exact absurd h2 (hsep q z' c hl (List.mem_of_getElem? (old b z' e2 hb)) h1)
    · by_cases e2 : b = i
      · rw [if_neg (by omega), if_pos e2] at hb
        cases hb
        exact absurd h1 (hsep q z c hl (List.mem_of_getElem? (old a z e ha)) h2)
      · have := (h.sepU q q _ _ z z' c hl hl (old a z e ha) (old b z' e2 hb) h1 h2).2
        split at this <;> split at this <;> omega
end

end Go.Proofs.YtldjieplbeflfaaGreat

namespace Go.Proofs.YtldjieplbeflfaaGreat
open Go.RowKit

/-- Blocks of a segment that were made: each in a place of its own. -/
structure LayB (w : World) (N : Nat) (v : Value) (L : List (List Nat)) (Y : Nat → Sl) : Prop where
  own : w.ownsRow N 76 1 v L.length ((List.range L.length).map fun i => slV (Y i))
  byt : ∀ i, i < L.length → OwnB w N (slV (Y i)) (L.getD i [])
  sep : ∀ i j g, i < L.length → j < L.length → (slV (Y i)).ownBlock = some g → (slV (Y j)).ownBlock = some g → i = j
theorem LayB.off {S : Nat → Prop} {w w' : World} {N : Nat} {v : Value} {L : List (List Nat)} {Y : Nat → Sl} (h : LayB w N v L Y) (ho : Off S w w') (hS : ∀ k, S k → ∃ t, TyB w k t ∧ t ≠ 76 ∧ t ≠ 5) : LayB w' N v L Y :=
  ⟨owns_off h.own ho fun g hg s => by
    obtain ⟨t, ht, q, _⟩ := hS g s
    exact ht.ne (owns_ty h.own hg) q rfl, fun i hi => (h.byt i hi).off ho fun g hg s => by
    obtain ⟨t, ht, _, q⟩ := hS g s
    exact ht.ne ((h.byt i hi).ty hg) q rfl, h.sep⟩
theorem LayB.below {w w' : World} {N : Nat} {v : Value} {L : List (List Nat)} {Y : Nat → Sl} (h : LayB w N v L Y) (hb : Below w.heap.size w w') : LayB w' N v L Y :=
  h.off (Off.of_below (S := fun _ => False) hb) fun _ s => s.elim
theorem LayB.at {w : World} {N : Nat} {v : Value} {L : List (List Nat)} {Y : Nat → Sl} (h : LayB w N v L Y) (hn : 1 ≤ L.length) : ∃ b cap, v = .slice (some ⟨b, 0, none⟩) L.length cap ∧ L.length ≤ cap ∧ cap ≤ maxLen ∧ TyB w b 76 ∧ ∀ i, i < L.length → w.cell? ⟨b, i, none⟩ = some (slV (Y i)) := by
  obtain ⟨g, cap, rfl, _, h1, h2, _, hc⟩ := owns_cells h.own hn
  exact ⟨g, cap, rfl, h1, h2, owns_ty h.own rfl, fun i hi => hc i _ (by rw [List.getElem?_map, List.getElem?_range hi]; rfl)⟩

theorem join_next {α : Type} {a b : List α} (hl : a.length = b.length) {q : Nat} {x : α} (hx : a[q]? = some x) : (a.take q ++ b.drop q).set q x = a.take (q + 1) ++ b.drop (q + 1) := by
  obtain ⟨hq, rfl⟩ := List.getElem?_eq_some_iff.1 hx
  have hqb : q < b.length := by omega
  rw [List.set_append_right _ _ (by rw [List.length_take]; omega), List.length_take, show q - min q a.length = 0 by omega, List.drop_eq_getElem_cons hqb, List.set_cons_zero, List.take_succ_eq_append_getElem hq, List.append_assoc]
  rfl
theorem join_at {α : Type} {a b : List α} (hl : a.length = b.length) {q : Nat} (hq : q ≤ a.length) : (a.take q ++ b.drop q)[q]? = b[q]? := by
  rw [List.getElem?_append_right (by rw [List.length_take]; omega), List.length_take, show q - min q a.length = 0 by omega, List.getElem?_drop, Nat.add_zero]
theorem join_len {α : Type} {a b : List α} (hl : a.length = b.length) (q : Nat) : (a.take q ++ b.drop q).length = b.length := by
  simp
  omega

/-- Disks under way: those below q are written. -/
structure HoldS (w wr : World) (N D : Nat) (k : Int) (n q : Nat) (V : Nat → Value) (U : Nat → List HeC) (ds : List Sto.Disk) (L : List (List Nat)) (Y : Nat → Sl) (V' : Nat → Value) (U' : Nat → List HeC) : Prop where
  dk : DkAt wr N D V' U' ((Sto.write k L 0 ds).take q ++ ds.drop q)
  off : Off (fun b => b = D ∨ ∃ i, i < n ∧ (V i).ownBlock = some b) w wr
  newV : ∀ i g, i < n → (V' i).ownBlock = some g → (V i).ownBlock = some g ∨ w.heap.size ≤ g
  newU : ∀ (i : Nat) (x : HeC) (g : Nat), i < n → x ∈ U' i → (slV x.2.1).ownBlock = some g → (∃ y, y ∈ U i ∧ (slV y.2.1).ownBlock = some g) ∨ (i < q ∧ (slV (Y i)).ownBlock = some g)
  same : ∀ i, q ≤ i → V' i = V i ∧ U' i = U i
/-- What hold leaves. -/
def HoldO (w w' : World) (N D : Nat) (k : Int) (n : Nat) (V : Nat → Value) (U : Nat → List HeC) (ds : List Sto.Disk) (L : List (List Nat)) (Y : Nat → Sl) : Prop := ∃ V' U', HoldS w w' N D k n n V U ds L Y V' U'

section
variable {w wr : World} {N D n q : Nat} {k : Int} {V : Nat → Value} {U : Nat → List HeC} {ds : List Sto.Disk} {L : List (List Nat)} {Y : Nat → Sl} {V' : Nat → Value} {U' : Nat → List HeC}
theorem HoldS.typed (h : HoldS w wr N D k n q V U ds L Y V' U') (hd : DkAt w N D V U ds) (hn : ds.length = n) : ∀ b, (b = D ∨ ∃ i, i < n ∧ (V i).ownBlock = some b) → ∃ t, TyB w b t ∧ (t = 52 ∨ t = 78) := fun b s => by
  rcases s with rfl | ⟨i, hi, hb⟩
  · exact ⟨_, hd.row.ty, Or.inl rfl⟩
  · exact ⟨_, owns_ty (hd.own i (by omega)) hb, Or.inr rfl⟩
theorem HoldS.start (hd : DkAt w N D V U ds) : HoldS w w N D k n 0 V U ds L Y V U :=
  ⟨by rw [List.take_zero, List.drop_zero]; exact hd, Off.refl _ _, fun _ _ _ h => Or.inl h, fun i x g _ hx hg => Or.inl ⟨x, hx, hg⟩, fun _ _ => ⟨rfl, rfl⟩⟩
/-- One disk more is done. -/
theorem HoldS.next (h : HoldS w wr N D k n q V U ds L Y V' U') (hq : q < n) {w' : World} {d' : Sto.Disk} (hd' : (Sto.write k L 0 ds)[q]? = some d') (v' : Value) (hs' : List HeC)
    (hk : DkAt w' N D (upd V' q v') (upd U' q hs') (((Sto.write k L 0 ds).take q ++ ds.drop q).set q d')) (ho : Off (fun b => b = D ∨ (V q).ownBlock = some b) wr w') (hv : ∀ g, v'.ownBlock = some g → (V q).ownBlock = some g ∨ w.heap.size ≤ g)
    (hu : ∀ (x : HeC) (g : Nat), x ∈ hs' → (slV x.2.1).ownBlock = some g → (∃ y, y ∈ U q ∧ (slV y.2.1).ownBlock = some g) ∨ (slV (Y q)).ownBlock = some g) : HoldS w w' N D k n (q + 1) V U ds L Y (upd V' q v') (upd U' q hs') := by
  have hlen : (Sto.write k L 0 ds).length = ds.length := Sto.write_length k L ds 0
  refine ⟨?_, h.off.past ho fun b s _ => ?_, fun i g hi hg => ?_, fun i x g hi hx hg => ?_, fun i hi => ?_⟩
  · rw [← join_next hlen hd']
    exact hk
  · rcases s with s | s
    · exact Or.inl s
    · exact Or.inr ⟨q, hq, s⟩
  · by_cases e : i = q
    · subst e
      rw [upd_at] at hg
      exact hv g hg
    · rw [upd_ne _ _ e] at hg
      exact h.newV i g hi hg
  · by_cases e : i = q
    · subst e
      rw [upd_at] at hx
      rcases hu x g hx hg with z | z
      · exact Or.inl z
      · exact Or.inr ⟨by omega, z⟩
    · rw [upd_ne _ _ e] at hx
      rcases h.newU i x g hi hx hg with z | ⟨z1, z2⟩
      · exact Or.inl z
      · exact Or.inr ⟨by omega, z2⟩
  · rw [upd_ne _ _ (by omega), upd_ne _ _ (by omega)]
    exact h.same i (by omega)
theorem HoldS.sep (h : HoldS w wr N D k n q V U ds L Y V' U') (hn : ds.length = n) (hq : q < n) (hLn : L.length = n) {v : Value} {M : Nat} (hL : LayB w M v L Y)
    (hf : ∀ (i j : Nat) (x : HeC) (g : Nat), i < n → j < n → x ∈ U i → (slV x.2.1).ownBlock = some g → (slV (Y j)).ownBlock ≠ some g) :
    ∀ (j : Nat) (z : HeC) (b : Nat), j < ((Sto.write k L 0 ds).take q ++ ds.drop q).length → z ∈ U' j → (slV (Y q)).ownBlock = some b → (slV z.2.1).ownBlock ≠ some b := fun j z b hj hz hb e => by
  rw [join_len (Sto.write_length k L ds 0)] at hj
  rcases h.newU j z b (by omega) hz e with ⟨y, hy, hyb⟩ | ⟨hjq, hyb⟩
  · exact hf j q y b (by omega) hq hy hyb hb
  · have := hL.sep j q b (by omega) (by omega) hyb hb
    omega
end

set_option maxHeartbeats 2000000 in
set_option maxRecDepth 100000 in
theorem hold_any (R D n N m : Nat) (k : Int) (V : Nat → Value) (U : Nat → List HeC) (ds : List Sto.Disk) (L : List (List Nat)) (Y : Nat → Sl) (vl : Value) (M : Nat) (w : World) (tR : TyB w R 69) (c3 : w.cell? ⟨R, 3, none⟩ = some (.slice (some ⟨D, 0, none⟩) n n)) (hd : DkAt w N D V U ds) (hn : ds.length = n) (h1 : 1 ≤ n) (h12 : n ≤ 12) (hw : WfD ds m) (hm : m ≤ 100000)
    (hL : LayB w M vl L Y) (hLn : L.length = n) (hNM : N ≤ M) (hNw : N ≤ w.heap.size) (hf : ∀ (i j : Nat) (x : HeC) (g : Nat), i < n → j < n → x ∈ U i → (slV x.2.1).ownBlock = some g → (slV (Y j)).ownBlock ≠ some g) :
    Calls Tryz.prog 62 #[.pointer (some ⟨R, 0, none⟩), .int .i64 k, vl] w fun e w' => e = .returned (.tuple #[]) ∧ HoldO w w' N D k n V U ds L Y := by
  have HD : Hid (DkAt w N D V U ds) := hd
  have HN : Hid (ds.length = n) := hn
  have HW : Hid (WfD ds m) := hw
  have HL : Hid (LayB w M vl L Y) := hL
  have HLN : Hid (L.length = n) := hLn
  have HFR : Hid (∀ (i j : Nat) (x : HeC) (g : Nat), i < n → j < n → x ∈ U i → (slV x.2.1).ownBlock = some g → (slV (Y j)).ownBlock ≠ some g) := hf
  have HTR : Hid (TyB w R 69) := tR
  obtain ⟨bL, cL, hvl, hcL1, hcL2, _, _⟩ := hL.at (by omega)
  rw [hLn] at hvl hcL1
  subst hvl
  have hcL2' : cL ≤ 9223372036854775807 := by unfold maxLen at hcL2; exact hcL2
  clear hd hn hw hL hLn hf tR hcL2
  go_enter Tryz.func62, Tryz.ntmps62
  go_wp2_with fail
  go_loopw [16] (fun x wr => ∃ q : Nat, q ≤ n ∧ x = .int .i64 q ∧ Hid (∃ V' U', HoldS w wr N D k n q V U ds L Y V' U')) (fun x _ => n - (intOf x).toNat)
  case atStart => exact ⟨0, Nat.zero_le _, rfl, V, U, HoldS.start HD.out⟩
  case round =>
    obtain ⟨q, hq, rfl, HS⟩ := hrel
    by_cases hlt : q < n
    · have hlt' : (q : Int) < (n : Int) := by omega
      obtain ⟨V', U', hS⟩ := HS.out
      have hwl : (Sto.write k L 0 ds).length = ds.length := Sto.write_length k L ds 0
      have hql : q < ds.length := by rw [HN.out]; exact hlt
      obtain ⟨d, hdq⟩ : ∃ d, ds[q]? = some d := ⟨ds[q], List.getElem?_eq_getElem hql⟩
      have hcur : ((Sto.write k L 0 ds).take q ++ ds.drop q)[q]? = some d := by
        rw [join_at hwl (by omega)]
        exact hdq
      have hqc : q < ((Sto.write k L 0 ds).take q ++ ds.drop q).length := by
        rw [join_len hwl]
        exact hql
      have DK := hS.dk
      have g0 := DK.gone hcur
      have g1 := DK.held hqc
      obtain ⟨hVq, hUq⟩ := hS.same q (Nat.le_refl q)
      rw [hVq] at g1
      have hRb : wr.heap[R]? = w.heap[R]? := hS.off.block R HTR.out.lt fun s => by
        obtain ⟨t, ht, z⟩ := hS.typed HD.out HN.out R s
        rcases z with rfl | rfl
        · exact ht.ne HTR.out (by decide) rfl
        · exact ht.ne HTR.out (by decide) rfl
      have c3r : wr.cell? ⟨R, 3, none⟩ = some (.slice (some ⟨D, 0, none⟩) n n) := (World.cell?_of_block (w := w) (a := ⟨R, 3, none⟩) hRb).trans c3
      have hwq : (Sto.write k L 0 ds)[q]? = some (if d.gone then d else ⟨false, Sto.ins k (L.getD q []) false d.bl⟩) := by
        rw [Sto.write_at, hdq, Nat.zero_add]
        rfl
      cases hg : d.gone with
      | true =>
        rw [hg] at g0 hwq
        have HNX : Hid (∃ V' U', HoldS w wr N D k n (q + 1) V U ds L Y V' U') := ⟨_, _, hS.next hlt (d' := d) hwq (V' q) (U' q) (by
          rw [upd_self, upd_self, show ((Sto.write k L 0 ds).take q ++ ds.drop q).set q d = (Sto.write k L 0 ds).take q ++ ds.drop q from by
            obtain ⟨h1, h2⟩ := List.getElem?_eq_some_iff.1 hcur
            rw [← h2]
            exact List.set_getElem_self h1]
          exact DK) (Off.refl _ _) (fun g hg => Or.inl (by rw [← hVq]; exact hg)) (fun x g hx hg => Or.inl ⟨x, by rw [← hUq]; exact hx, hg⟩)⟩
        clear hS DK hcur hqc hwq hdq hwl hVq hUq hRb
        go_wp2_with fail
        exact ⟨⟨q + 1, by omega, by go_num, HNX.out⟩, by simp [intOf]; omega⟩
      | false =>
        rw [hg] at g0 hwq
        obtain ⟨hup, hlen⟩ := HD.out.up HW.out hql
        have HE : HeIn wr (V q) (U q) := by
          have := DK.heIn hqc
          rw [hVq, hUq] at this
          exact this
        have HF := find_any k (V q) (U q) wr HE hup (by omega)
        obtain ⟨A, C, hV, hC1, hC2, _⟩ := HE
        rw [hV] at HF g1
        have hC2' : C ≤ 9223372036854775807 := by unfold maxLen at hC2; exact hC2
        have hown : wr.ownsRow N 78 2 (.slice A (U q).length C) (U q).length ((U q).flatMap heCells) := by
          have := DK.own q hqc
          rw [hVq, hUq, hV] at this
          exact this
        have LB := HL.out.off hS.off fun b s => by
          obtain ⟨t, ht, z⟩ := hS.typed HD.out HN.out b s
          rcases z with rfl | rfl
          · exact ⟨_, ht, by decide, by decide⟩
          · exact ⟨_, ht, by decide, by decide⟩
        have hbl : d.bl = (U q).map heOf := HD.out.bl q d hdq
        have HBL : Hid (d.bl = (U q).map heOf) := hbl
        have HUP : Hid (Sto.Up d.bl) := (HW.out q d hdq).1
        have HDK : Hid (DkAt wr N D V' U' ((Sto.write k L 0 ds).take q ++ ds.drop q)) := DK
        have HSS : Hid (HoldS w wr N D k n q V U ds L Y V' U') := hS
        have HVQ : Hid (V' q = V q ∧ U' q = U q ∧ V q = .slice A (U q).length C) := ⟨hVq, hUq, hV⟩
        have HCUR : Hid (((Sto.write k L 0 ds).take q ++ ds.drop q)[q]? = some d) := hcur
        have HWQ : Hid ((Sto.write k L 0 ds)[q]? = some ⟨false, Sto.ins k (L.getD q []) false d.bl⟩) := hwq
        have HG : Hid (d.gone = false) := hg
        have HLB : Hid (LayB wr M (.slice (some ⟨bL, 0, none⟩) n cL) L Y) := LB
        clear hS DK hcur hqc hwq hdq hwl hVq hUq hV hRb hbl hup hC2 hg LB
        go_wp2_with fail
        refine HF.mono ?_
        rintro e w1 ⟨⟨i, y, rfl, hcut, hy⟩, b1⟩
        have HCU : Hid (CutI (d.bl.map (·.1)) k i) := by
          show CutI (d.bl.map (·.1)) k i
          rw [HBL.out, keys_of]
          exact hcut
        have hil : i ≤ (U q).length := by
          have := hcut.1
          rw [List.length_map] at this
          exact this
        have HKE : Hid ((d.bl.map (·.1))[i]? = ((U q).map (·.1))[i]?) := by
          show (d.bl.map (·.1))[i]? = _
          rw [HBL.out, keys_of]
        have hown1 := owns_below hown b1
        have HDK1 : Hid (DkAt w1 N D V' U' ((Sto.write k L 0 ds).take q ++ ds.drop q)) := HDK.out.below b1
        have HLB1 : Hid (LayB w1 M (.slice (some ⟨bL, 0, none⟩) n cL) L Y) := HLB.out.below b1
        have hLc : w1.cell? ⟨bL, q, none⟩ = some (slV (Y q)) := by
          obtain ⟨b', c', hv', _, _, _, hc'⟩ := HLB1.out.at (by rw [HLN.out]; omega)
          rw [HLN.out] at hv'
          cases hv'
          exact hc' q (by rw [HLN.out]; exact hlt)
        have g0 := (b1.cell (p := ⟨D, q * 2, none⟩) (World.block_lt_of_cell? _ _ g0)).trans g0
        have g1 := (b1.cell (p := ⟨D, q * 2 + 1, none⟩) (World.block_lt_of_cell? _ _ g1)).trans g1
        have hlw : D < w1.heap.size := World.block_lt_of_cell? _ _ g0
        have fD := HDK1.out.row.frozen (q * 2 + 1)
        have HB1 : Hid (Below wr.heap.size wr w1) := b1
        unfold slV at hLc
        clear HF hcut hown c3r b1
        cases y with
        | true =>
          have hk := hy.1 rfl
          rw [List.getElem?_map] at hk
          obtain ⟨x, hx, hxk⟩ := Option.map_eq_some_iff.1 hk
          have hil2 : i < (U q).length := (List.getElem?_eq_some_iff.1 hx).1
          obtain ⟨g, cap, hve, _, _, _, _, hce⟩ := owns_cells hown1 (by omega)
          cases hve
          have d1 := hce (i * 2 + 1) _ (flat_get heCells 2 (U q) (fun _ _ => rfl) i 1 (by decide) x hx)
          have fg := hown1.frozenAt (i * 2 + 1)
          have bD : Below w1.heap.size w1 w1.drew := (Below.refl _ _).drew
          have HNX : Hid (∃ V' U', HoldS w (w1.drew.setCell ⟨g, i * 2 + 1, none⟩ (slV (Y q))) N D k n (q + 1) V U ds L Y V' U') := by
            obtain ⟨hVq, hUq, hV⟩ := HVQ.out
            have hx' : (U' q)[i]? = some x := by rw [hUq]; exact hx
            have hT := (HDK1.out.below bD).there (q := q) (i := i) HCUR.out (by rw [hVq]; exact hV) hx' (Y q) (L.getD q []) (((HLB1.out.below bD).byt q (by rw [HLN.out]; exact hlt)).lower hNM) (HSS.out.sep HN.out hlt HLN.out HL.out HFR.out)
            have hdx : d.bl[i]? = some (heOf x) := by
              rw [HBL.out, List.getElem?_map, hx]
              rfl
            rw [hxk, HG.out, ← Sto.ins_there HUP.out HCU.out hdx hxk (L.getD q [])] at hT
            refine ⟨_, _, HSS.out.next hlt HWQ.out (V' q) ((U' q).set i (k, Y q, L.getD q [])) (by rw [upd_self]; exact hT) ?_ (fun b hb => Or.inl (by rw [← hVq]; exact hb)) (fun z b hz hb => ?_)⟩
            · exact ((Off.of_below HB1.out).trans (Off.of_below bD)).set (p := ⟨g, i * 2 + 1, none⟩) (Or.inr (by rw [hV]; rfl)) _
            · rcases List.mem_or_eq_of_mem_set hz with z1 | rfl
              · exact Or.inl ⟨z, by rw [← hUq]; exact z1, hb⟩
              · exact Or.inr hb
          have hil3 : (i : Int) < ((U q).length : Int) := by omega
          unfold slV at d1 HNX
          clear hy hk hx hxk hown1 hce
          go_wp2_with fail
          go_region
          go_wp2_with fail
          exact ⟨⟨q + 1, by omega, by go_num, HNX.out⟩, by simp [intOf]; omega⟩
        | false =>
          have bA : Below w1.heap.size w1 (w1.alloc (.cells #[.int .i64 k, .slice none 0 0] 78)) := (Below.refl _ _).alloc (Nat.le_refl _) _
          have hlA : ∀ b, (Value.slice A (U q).length C).ownBlock = some b → b < w1.heap.size := fun b hb => (hown1.lt b hb).2
          have HI := insH_any N i w1.heap.size (.slice A (U q).length C) (U q) (k, (none, 0, 0), []) (w1.alloc (.cells #[.int .i64 k, .slice none 0 0] 78)) (owns_below hown1 bA) (Nat.le_trans (Nat.le_trans (Nat.le_trans hNw HSS.out.off.size) HB1.out.size) bA.size) hil (by omega) (heap_alloc_new w1 _) (fun e => by
            have := hlA _ e
            omega)
          have HNK : Hid ((d.bl.map (·.1))[i]? ≠ some k) := fun z => by
            rw [HKE.out] at z
            exact absurd (hy.2 z) (by decide)
          have HDA : Hid (DkAt (w1.alloc (.cells #[.int .i64 k, .slice none 0 0] 78)) N D V' U' ((Sto.write k L 0 ds).take q ++ ds.drop q)) := HDK1.out.below bA
          have HLA : Hid (LayB (w1.alloc (.cells #[.int .i64 k, .slice none 0 0] 78)) M (.slice (some ⟨bL, 0, none⟩) n cL) L Y) := HLB1.out.below bA
          have HBA : Hid (Below wr.heap.size wr (w1.alloc (.cells #[.int .i64 k, .slice none 0 0] 78))) := bt HB1.out bA
          have HLB9 : Hid (w.heap.size ≤ w1.heap.size) := Nat.le_trans HSS.out.off.size HB1.out.size
          clear hy hown1 HDK1 HLB1 hlA
          go_wp2_with fail
          generalize w1.alloc (.cells #[.int .i64 k, .slice none 0 0] 78) = wa at HI HDA HLA HBA bA
          refine HI.mono ?_
          rintro e w2 ⟨v2, rfl, hown2, hoff2, hat2⟩
          obtain ⟨g, cap, hv2, hgN, hcap1, hcap2, hgl, hce⟩ := owns_cells hown2 (by rw [List.length_append, List.length_cons]; omega)
          have hlen2 : ((U q).take i ++ (k, ((none, 0, 0) : Sl), ([] : List Nat)) :: (U q).drop i).length = (U q).length + 1 := by
            simp
            omega
          rw [hlen2] at hv2 hown2 hcap1
          subst hv2
          have hx2 : ((U q).take i ++ (k, ((none, 0, 0) : Sl), ([] : List Nat)) :: (U q).drop i)[i]? = some (k, (none, 0, 0), []) := by
            rw [ins_get _ _ hil, if_neg (Nat.lt_irrefl i), if_pos rfl]
          have d1 := hce (i * 2 + 1) _ (flat_get heCells 2 _ (fun _ _ => rfl) i 1 (by decide) _ hx2)
          have fg := hown2.frozenAt (i * 2 + 1)
          have hgT : TyB w2 g 78 := owns_ty hown2 rfl
          have hownV := HDA.out.own q (by rw [join_len (Sto.write_length k L ds 0), HN.out]; exact hlt)
          have hofV : ∀ b t, TyB wa b t → t ≠ 78 → w2.heap[b]? = wa.heap[b]? := fun b t ht hne => hoff2.block b ht.lt fun s => by
            obtain ⟨hVq, _, hV⟩ := HVQ.out
            rw [← hV, ← hVq] at s
            exact ht.ne (owns_ty hownV s) hne rfl
          have hDT := HDA.out.row.ty
          have hD2 := hofV D _ hDT (by decide)
          have hDg : D ≠ g := (hDT.of_block hD2).ne hgT (by decide)
          have hgD : g ≠ D := fun e => hDg e.symm
          obtain ⟨b9, c9, hv9, _, _, hT9, hc9⟩ := HLA.out.at (by rw [HLN.out]; omega)
          rw [HLN.out] at hv9
          cases hv9
          have hL2 := hofV bL _ hT9 (by decide)
          have hLD : bL ≠ D := hT9.ne hDT (by decide)
          have hLc2 : w2.cell? ⟨bL, q, none⟩ = some (slV (Y q)) := (World.cell?_of_block (w := wa) (a := ⟨bL, q, none⟩) hL2).trans (hc9 q (by rw [HLN.out]; exact hlt))
          have g12 : w2.cell? ⟨D, q * 2 + 1, none⟩ = some (.slice A (U q).length C) := (World.cell?_of_block (w := wa) (a := ⟨D, q * 2 + 1, none⟩) hD2).trans ((bA.cell (p := ⟨D, q * 2 + 1, none⟩) hlw).trans g1)
          have fD2 : w2.frozen? ⟨D, q * 2 + 1, none⟩ = false := (World.frozen?_of_block (w := wa) (a := ⟨D, q * 2 + 1, none⟩) hD2).trans (HDA.out.row.frozen _)
          have hcap2' : cap ≤ 9223372036854775807 := by unfold maxLen at hcap2; exact hcap2
          have HNX : Hid (∃ V' U', HoldS w ((w2.drew.setCell ⟨D, q * 2 + 1, none⟩ (.slice (some ⟨g, 0, none⟩) ((U q).length + 1) cap)).setCell ⟨g, i * 2 + 1, none⟩ (slV (Y q))) N D k n (q + 1) V U ds L Y V' U') := by
            obtain ⟨hVq, hUq, hV⟩ := HVQ.out
            have hoD : Off (fun k => (V' q).ownBlock = some k) wa w2.drew := by
              rw [hVq, hV]
              exact hoff2.drew
            have hT := HDA.out.fresh (w1 := w2.drew) (q := q) (i := i) (g := g) (cap := cap) (n := (U q).length + 1) HCUR.out k (by rw [hUq]; exact hil) (Y q) (L.getD q []) ((HLA.out.byt q (by rw [HLN.out]; exact hlt)).lower hNM) (by rw [hUq]; exact hown2) hoD (by
              rw [hVq, hV]
              rcases hat2 with z | z
              · exact Or.inl z.symm
              · exact Or.inr (z g rfl)) (HSS.out.sep HN.out hlt HLN.out HL.out HFR.out)
            rw [hUq, HG.out, ← Sto.ins_new HUP.out HCU.out HNK.out (L.getD q [])] at hT
            refine ⟨_, _, HSS.out.next hlt HWQ.out _ _ hT ?_ (fun b hb => ?_) (fun z b hz hb => ?_)⟩
            · have o1 : Off (fun b => b = D ∨ (V q).ownBlock = some b) wr w2.drew := (Off.of_below HBA.out).trans ((hoff2.wider fun b s => Or.inr (by rw [hV]; exact s)).drew)
              refine (o1.set (p := ⟨D, q * 2 + 1, none⟩) (Or.inl rfl) _).past (off_set _ ⟨g, i * 2 + 1, none⟩ (slV (Y q))) fun b s hb => ?_
              have s : b = g := s
              rcases hat2 with z | z
              · exact Or.inr (by rw [hV, s]; exact z.symm)
              · have := z g rfl
                have := HBA.out.size
                omega
            · cases hb
              rcases hat2 with z | z
              · exact Or.inl (by rw [hV]; exact z.symm)
              · refine Or.inr ?_
                show w.heap.size ≤ g
                have := z g rfl
                have := HLB9.out
                have := bA.size
                omega
            · rcases List.mem_append.1 hz with z1 | z1
              · exact Or.inl ⟨z, List.mem_of_mem_take z1, hb⟩
              · rcases List.mem_cons.1 z1 with rfl | z1
                · exact Or.inr hb
                · exact Or.inl ⟨z, List.mem_of_mem_drop z1, hb⟩
          have hil3 : (i : Int) < (((U q).length + 1 : Nat) : Int) := by omega
          unfold slV at hLc2 HNX
          have d1 : w2.cell? ⟨g, i * 2 + 1, none⟩ = some (.slice none 0 0) := d1
          clear HI hown2 hce hx2 hoff2 hat2 hofV hDT hD2 hL2 hT9 hc9 hownV hlen2
          go_wp2_with fail
          go_region
          go_wp2_with fail
          exact ⟨⟨q + 1, by omega, by go_num, HNX.out⟩, by simp [intOf]; omega⟩
    · obtain rfl : q = n := by omega
      go_wp2_with fail
      go_end0
      exact ⟨rfl, HS.out⟩

end Go.Proofs.YtldjieplbeflfaaGreat
