/-
  Texts of the proof, joined: HMem, HFind, HCut.
-/
import Derived.Test.YtmcaejooaaahdaaGreatZ15
import Derived.Test.YtmcaejooaaahdaaGreatZ18
import Derived.Test.YtmcaejooaaahdaaGreatZ11
import Derived.Test.YtmcaejooaaahdaaGreatZ13
import Derived.Laws.CopyRow
import Derived.Laws.CopyOwn
import Derived.Deep.SlicePairs
import Derived.Test.YtmcaejooaaahdaaGreatZ03
namespace Go.Proofs.YtmcaejooaaahdaaGreat
open Go.RowKit

/-! ### Blocks by their types -/
/-- Block k is one of type t, that may be written. -/
def TyB (w : World) (k : Nat) (t : TypeId) : Prop := ∃ F, RowC w k t 0 F
theorem RowC.ty {w : World} {g : Nat} {t : TypeId} {n : Nat} {F : Nat → Value} (h : RowC w g t n F) : TyB w g t := by
  obtain ⟨m, F', hr, hm, _⟩ := h
  exact ⟨F, m, F', hr, Nat.zero_le _, fun j hj => absurd hj (Nat.not_lt_zero j)⟩
theorem TyB.lt {w : World} {k : Nat} {t : TypeId} (h : TyB w k t) : k < w.heap.size := by
  obtain ⟨F, h⟩ := h
  exact h.lt
theorem TyB.ne {w : World} {k k' : Nat} {t t' : TypeId} (h : TyB w k t) (h' : TyB w k' t') (ht : t ≠ t') : k ≠ k' := by
  obtain ⟨F, h⟩ := h
  obtain ⟨F', h'⟩ := h'
  exact h.ne h' ht
theorem TyB.of_block {w w' : World} {k : Nat} {t : TypeId} (h : TyB w k t) (e : w'.heap[k]? = w.heap[k]?) : TyB w' k t := by
  obtain ⟨F, h⟩ := h
  exact ⟨F, h.of_block e⟩
theorem TyB.below {w w' : World} {k : Nat} {t : TypeId} (h : TyB w k t) (hb : Below w.heap.size w w') : TyB w' k t := h.of_block (hb.block k h.lt)
theorem owns_ty {w : World} {N : Nat} {t : TypeId} {s : Nat} {v : Value} {n g : Nat} {xs : List Value} (h : w.ownsRow N t s v n xs) (hg : v.ownBlock = some g) : TyB w g t := by
  obtain ⟨cur, e⟩ := owns_heap h hg
  exact ⟨fun j => cur.getD j (.slice none 0 0), cur.size, fun j => cur.getD j (.slice none 0 0), ⟨cur, e, rfl, fun i hi => by simp [hi]⟩, Nat.zero_le _, fun j hj => absurd hj (Nat.not_lt_zero j)⟩
theorem off_setRow (w : World) (g : Nat) (a : Array Value) : Off (fun k => (Value.slice (some ⟨g, 0, none⟩) 0 0).ownBlock = some k) w (w.drew.setRow g a) :=
  ⟨rfl, rfl, rfl, (below_setRow (w0 := w) (w := w.drew) (B := 0) ⟨rfl, rfl, rfl, Nat.le_refl _, fun _ _ => rfl⟩ (Nat.zero_le _) a).size, fun k _ hk => by
    have hne : k ≠ g := fun e => hk (by rw [e]; rfl)
    rw [setRow_other _ _ _ _ hne]
    rfl⟩

/-- A variable in memory, cell by cell. -/
def VarN (w : World) (p : Nat) (t : TypeId) (cs : List Value) : Prop := RowC w p t cs.length (fun j => cs.getD j (.slice none 0 0))
theorem VarN.cell {w : World} {p : Nat} {t : TypeId} {cs : List Value} (h : VarN w p t cs) {i : Nat} {u : Value} (hi : cs[i]? = some u) : w.cell? ⟨p, i, none⟩ = some u := by
  rw [RowC.cell h (List.getElem?_eq_some_iff.1 hi).1, List.getD_eq_getElem?_getD, hi]
  rfl
theorem VarN.frozen {w : World} {p : Nat} {t : TypeId} {cs : List Value} (h : VarN w p t cs) (i : Nat) : w.frozen? ⟨p, i, none⟩ = false := RowC.frozen h i
theorem VarN.set {w : World} {p : Nat} {t : TypeId} {cs : List Value} (h : VarN w p t cs) (i : Nat) (v : Value) (hi : i < cs.length) : VarN (w.setCell ⟨p, i, none⟩ v) p t (cs.set i v) := by
  unfold VarN
  rw [List.length_set]
  refine (RowC.set h i v).congr fun j hj => ?_
  rw [List.getD_eq_getElem?_getD, List.getD_eq_getElem?_getD]
  by_cases e : j = i
  · subst e
    rw [if_pos rfl, List.getElem?_set_self hi]
    rfl
  · rw [if_neg e, List.getElem?_set_ne (fun z => e z.symm)]
theorem VarN.off {S : Nat → Prop} {w w' : World} {p : Nat} {t : TypeId} {cs : List Value} (h : VarN w p t cs) (ho : Off S w w') (hS : ¬ S p) : VarN w' p t cs := RowC.of_block h (ho.block p (RowC.lt h) hS)
theorem VarN.below {w w' : World} {p : Nat} {t : TypeId} {cs : List Value} (h : VarN w p t cs) (hb : Below w.heap.size w w') : VarN w' p t cs := RowC.below h hb
theorem VarN.ty {w : World} {p : Nat} {t : TypeId} {cs : List Value} (h : VarN w p t cs) : TyB w p t := RowC.ty h
theorem varN_new (w : World) (cs : Array Value) (t : TypeId) : VarN (w.alloc (.cells cs t)) w.heap.size t cs.toList := by
  have hr := World.rowIs_alloc w cs t (fun i => cs.getD i (.slice none 0 0)) (fun i hi => by simp [hi])
  exact ⟨_, _, hr, by simp, fun j hj => by
    have hj : j < cs.size := by simpa using hj
    simp [List.getD, Array.getD, hj]⟩

/-! ### Blocks that a disk holds -/
/-- A held block's cells: its segment, where its bytes lie, and what they are. -/
abbrev Sl := Option Addr × Nat × Nat
def slV (q : Sl) : Value := .slice q.1 q.2.1 q.2.2
abbrev HeC := Int × Sl × List Nat
def heCells (h : HeC) : List Value := [.int .i64 h.1, slV h.2.1]
theorem he_one (es : List HeC) : ∀ u ∈ es.flatMap heCells, u.oneCell' = true := fun u hu => by
  obtain ⟨x, _, hx⟩ := List.mem_flatMap.1 hu
  simp only [heCells, List.mem_cons, List.not_mem_nil, or_false] at hx
  rcases hx with rfl | rfl <;> rfl
def heOf (h : HeC) : Int × List Nat := (h.1, h.2.2)
theorem Tryz.infoH : (Tryz.prog.info? 61).map (fun i => (i.zero, i.size, i.bytes)) = some (some (.agg #[.int .i64 0, .slice none 0 0]), 2, 32) := by kernel_rfl
theorem he_len (es : List HeC) : (es.flatMap heCells).length = es.length * 2 := flat_len heCells 2 _ (fun _ _ => rfl)
/-- An int's cell. -/
def inCells (x : Int) : List Value := [.int .i64 x]
theorem Tryz.infoI : (Tryz.prog.info? 3).map (fun i => (i.zero, i.size, i.bytes)) = some (some (.int .i64 0), 1, 8) := by kernel_rfl
theorem in_len (es : List Int) : (es.flatMap inCells).length = es.length := (flat_len inCells 1 _ (fun _ _ => rfl)).trans (Nat.mul_one _)
theorem in_one (es : List Int) : ∀ u ∈ es.flatMap inCells, u.oneCell' = true := fun u hu => by
  obtain ⟨x, _, hx⟩ := List.mem_flatMap.1 hu
  simp only [inCells, List.mem_cons, List.not_mem_nil, or_false] at hx
  subst hx
  rfl
/-- Bytes in a block of the store's own. -/
def OwnB (w : World) (N : Nat) (u : Value) (r : List Nat) : Prop := Evt.Bytes r ∧ Made w N u r.length (fun j => r.getD j 0)
theorem OwnB.bytL {w : World} {N : Nat} {u : Value} {r : List Nat} (h : OwnB w N u r) : BytL w u r := by
  have := (h.2.byts (Sto.getD_bytes h.1)).list
  rw [Sto.bl_self] at this
  exact this
theorem OwnB.at {w : World} {N : Nat} {u : Value} {r : List Nat} (h : OwnB w N u r) : ∃ g cap, u = .slice (some ⟨g, 0, none⟩) r.length cap ∧ N ≤ g ∧ r.length ≤ cap ∧ cap ≤ maxLen ∧ RowC w g 5 r.length (fun j => .int .u8 ((r.getD j 0 : Nat) : Int)) := h.2
theorem OwnB.ty {w : World} {N : Nat} {u : Value} {r : List Nat} (h : OwnB w N u r) {g : Nat} (hg : u.ownBlock = some g) : TyB w g 5 := by
  obtain ⟨g', cap, rfl, _, _, _, hr⟩ := h.at
  cases hg
  exact hr.ty
theorem OwnB.of_block {w w' : World} {N : Nat} {u : Value} {r : List Nat} (h : OwnB w N u r) (e : ∀ g, u.ownBlock = some g → w'.heap[g]? = w.heap[g]?) : OwnB w' N u r := by
  obtain ⟨h0, g, cap, rfl, h1, h2, h3, hr⟩ := h
  exact ⟨h0, g, cap, rfl, h1, h2, h3, hr.of_block (e g rfl)⟩
theorem OwnB.off {S : Nat → Prop} {w w' : World} {N : Nat} {u : Value} {r : List Nat} (h : OwnB w N u r) (ho : Off S w w') (hS : ∀ g, u.ownBlock = some g → ¬ S g) : OwnB w' N u r :=
  h.of_block fun g hg => ho.block g (h.ty hg).lt (hS g hg)
theorem OwnB.below {w w' : World} {N : Nat} {u : Value} {r : List Nat} (h : OwnB w N u r) (hb : Below w.heap.size w w') : OwnB w' N u r := h.of_block fun g hg => hb.block g (h.ty hg).lt
theorem OwnB.lower {w : World} {N M : Nat} {u : Value} {r : List Nat} (h : OwnB w N u r) (hM : M ≤ N) : OwnB w M u r := by
  obtain ⟨h0, g, cap, hv, h1, h⟩ := h
  exact ⟨h0, g, cap, hv, Nat.le_trans hM h1, h⟩
theorem OwnB.ge {w : World} {N : Nat} {u : Value} {r : List Nat} (h : OwnB w N u r) {g : Nat} (hg : u.ownBlock = some g) : N ≤ g := by
  obtain ⟨g', cap, rfl, h1, _⟩ := h.at
  cases hg
  exact h1
/-- One byte is another one. -/
theorem OwnB.set {w : World} {N g n cap : Nat} {r : List Nat} (h : OwnB w N (.slice (some ⟨g, 0, none⟩) n cap) r) {p x : Nat} (hp : p < r.length) (hx : x < 256) : OwnB (w.setCell ⟨g, p, none⟩ (.int .u8 ((x : Nat) : Int))) N (.slice (some ⟨g, 0, none⟩) n cap) (r.set p x) := by
  obtain ⟨h0, g', cap', hv, h1, h2, h3, hr⟩ := h
  cases hv
  refine ⟨fun y hy => ?_, g, cap, by rw [List.length_set], h1, by rw [List.length_set]; exact h2, h3, ?_⟩
  · rcases List.mem_or_eq_of_mem_set hy with q | rfl
    · exact h0 y q
    · exact hx
  · rw [List.length_set]
    refine (hr.set p _).congr fun j hj => ?_
    show (if j = p then Value.int .u8 ((x : Nat) : Int) else Value.int .u8 ((r.getD j 0 : Nat) : Int)) = Value.int .u8 (((r.set p x).getD j 0 : Nat) : Int)
    rw [List.getD_eq_getElem?_getD, List.getD_eq_getElem?_getD]
    by_cases e : j = p
    · subst e
      rw [if_pos rfl, List.getElem?_set_self hp]
      rfl
    · rw [if_neg e, List.getElem?_set_ne (fun z => e z.symm)]

/-! ### Disks -/
def dkF (V : Nat → Value) (ds : List Sto.Disk) (j : Nat) : Value := if j % 2 = 0 then .bool (ds.getD (j / 2) ⟨false, []⟩).gone else V (j / 2)
/-- Disks in a row at block D: V i holds what disk i has, U i tells it; no two lie in one place. -/
structure DkAt (w : World) (N D : Nat) (V : Nat → Value) (U : Nat → List HeC) (ds : List Sto.Disk) : Prop where
  row : RowC w D 58 (ds.length * 2) (dkF V ds)
  ge : N ≤ D
  own : ∀ i, i < ds.length → w.ownsRow N 61 2 (V i) (U i).length ((U i).flatMap heCells)
  bl : ∀ i d, ds[i]? = some d → d.bl = (U i).map heOf
  byt : ∀ (i : Nat) (x : HeC), i < ds.length → x ∈ U i → OwnB w N (slV x.2.1) x.2.2
  sepV : ∀ i j g, i < ds.length → j < ds.length → (V i).ownBlock = some g → (V j).ownBlock = some g → i = j
  sepU : ∀ (i j a b : Nat) (x x' : HeC) (g : Nat), i < ds.length → j < ds.length → (U i)[a]? = some x → (U j)[b]? = some x' → (slV x.2.1).ownBlock = some g → (slV x'.2.1).ownBlock = some g → i = j ∧ a = b
theorem DkAt.off {S : Nat → Prop} {w w' : World} {N D : Nat} {V : Nat → Value} {U : Nat → List HeC} {ds : List Sto.Disk} (h : DkAt w N D V U ds) (ho : Off S w w') (hS : ∀ k, S k → ∃ t, TyB w k t ∧ t ≠ 58 ∧ t ≠ 61 ∧ t ≠ 5) : DkAt w' N D V U ds := by
  refine ⟨h.row.of_block (ho.block D h.row.lt fun s => ?_), h.ge, fun i hi => owns_off (h.own i hi) ho fun g hg s => ?_, h.bl, fun i x hi hx => (h.byt i x hi hx).off ho fun g hg s => ?_, h.sepV, h.sepU⟩
  · obtain ⟨t, ht, q, _, _⟩ := hS D s
    exact ht.ne h.row.ty q rfl
  · obtain ⟨t, ht, _, q, _⟩ := hS g s
    exact ht.ne (owns_ty (h.own i hi) hg) q rfl
  · obtain ⟨t, ht, _, _, q⟩ := hS g s
    exact ht.ne ((h.byt i x hi hx).ty hg) q rfl
theorem DkAt.below {w w' : World} {N D : Nat} {V : Nat → Value} {U : Nat → List HeC} {ds : List Sto.Disk} (h : DkAt w N D V U ds) (hb : Below w.heap.size w w') : DkAt w' N D V U ds :=
  h.off (Off.of_below (S := fun _ => False) hb) fun _ s => s.elim
theorem DkAt.gone {w : World} {N D : Nat} {V : Nat → Value} {U : Nat → List HeC} {ds : List Sto.Disk} (h : DkAt w N D V U ds) {i : Nat} {d : Sto.Disk} (hi : ds[i]? = some d) : w.cell? ⟨D, i * 2, none⟩ = some (.bool d.gone) := by
  have hl : i < ds.length := (List.getElem?_eq_some_iff.1 hi).1
  rw [h.row.cell (show i * 2 < ds.length * 2 by omega)]
  unfold dkF
  rw [if_pos (by omega), show i * 2 / 2 = i by omega, List.getD_eq_getElem?_getD, hi]
  rfl
theorem DkAt.held {w : World} {N D : Nat} {V : Nat → Value} {U : Nat → List HeC} {ds : List Sto.Disk} (h : DkAt w N D V U ds) {i : Nat} (hi : i < ds.length) : w.cell? ⟨D, i * 2 + 1, none⟩ = some (V i) := by
  rw [h.row.cell (show i * 2 + 1 < ds.length * 2 by omega)]
  unfold dkF
  rw [if_neg (by omega), show (i * 2 + 1) / 2 = i by omega]
/-- Disk i is another one. -/
theorem DkAt.put {w w' : World} {N D : Nat} {V : Nat → Value} {U : Nat → List HeC} {ds : List Sto.Disk} (h : DkAt w N D V U ds) {i : Nat} (hi : i < ds.length) (d' : Sto.Disk) (v' : Value) (hs' : List HeC)
    (hrow : RowC w' D 58 (ds.length * 2) (dkF (upd V i v') (ds.set i d')))
    (ho : Off (fun k => k = D ∨ (V i).ownBlock = some k ∨ ∃ x, x ∈ U i ∧ (slV x.2.1).ownBlock = some k) w w')
    (hown : w'.ownsRow N 61 2 v' hs'.length (hs'.flatMap heCells)) (hbl : d'.bl = hs'.map heOf) (hbyt : ∀ x : HeC, x ∈ hs' → OwnB w' N (slV x.2.1) x.2.2)
    (hv : ∀ g, v'.ownBlock = some g → (V i).ownBlock = some g ∨ ∀ j, j < ds.length → (V j).ownBlock ≠ some g)
    (hu : ∀ (a : Nat) (x : HeC) (g : Nat), hs'[a]? = some x → (slV x.2.1).ownBlock = some g → (∃ x0, x0 ∈ U i ∧ (slV x0.2.1).ownBlock = some g) ∨ ∀ (j : Nat) (x1 : HeC), j < ds.length → x1 ∈ U j → (slV x1.2.1).ownBlock ≠ some g)
    (hu2 : ∀ (a b : Nat) (x x' : HeC) (g : Nat), hs'[a]? = some x → hs'[b]? = some x' → (slV x.2.1).ownBlock = some g → (slV x'.2.1).ownBlock = some g → a = b) :
    DkAt w' N D (upd V i v') (upd U i hs') (ds.set i d') := by
  have sepW : ∀ (j : Nat) (x x0 : HeC) (g : Nat), j ≠ i → j < ds.length → x ∈ U j → x0 ∈ U i → (slV x.2.1).ownBlock = some g → (slV x0.2.1).ownBlock = some g → False := fun j x x0 g hj hl hx hx0 h1 h2 => by
    obtain ⟨a, ha⟩ := List.mem_iff_getElem?.1 hx
    obtain ⟨b, hb⟩ := List.mem_iff_getElem?.1 hx0
    exact hj (h.sepU j i a b x x0 g hl hi ha hb h1 h2).1
  refine ⟨by rw [List.length_set]; exact hrow, h.ge, fun j hj => ?_, fun j d hd => ?_, fun j x hj hx => ?_, fun j l g hj hl h1 h2 => ?_, fun j l a b x x' g hj hl ha hb h1 h2 => ?_⟩
  · rw [List.length_set] at hj
    by_cases e : j = i
    · subst e
      rw [upd_at, upd_at]
      exact hown
    · rw [upd_ne _ _ e, upd_ne _ _ e]
      refine owns_off (h.own j hj) ho fun g hg s => ?_
      have hty := owns_ty (h.own j hj) hg
      rcases s with s | s | ⟨x, hx, s⟩
      · exact hty.ne h.row.ty (by decide) s
      · exact e (h.sepV j i g hj hi hg s)
      · exact hty.ne ((h.byt i x hi hx).ty s) (by decide) rfl
  · by_cases e : j = i
    · subst e
      rw [List.getElem?_set_self hi] at hd
      cases hd
      rw [upd_at]
      exact hbl
    · rw [List.getElem?_set_ne (fun z => e z.symm)] at hd
      rw [upd_ne _ _ e]
      exact h.bl j d hd
  · rw [List.length_set] at hj
    by_cases e : j = i
    · subst e
      rw [upd_at] at hx
      exact hbyt x hx
    · rw [upd_ne _ _ e] at hx
      refine (h.byt j x hj hx).off ho fun g hg s => ?_
      have hty := (h.byt j x hj hx).ty hg
      rcases s with s | s | ⟨x0, hx0, s⟩
      · exact hty.ne h.row.ty (by decide) s
      · exact hty.ne (owns_ty (h.own i hi) s) (by decide) rfl
      · exact sepW j x x0 g e hj hx hx0 hg s
  · rw [List.length_set] at hj hl
    by_cases e : j = i
    · by_cases e2 : l = i
      · rw [e, e2]
      · subst e
        rw [upd_at] at h1
        rw [upd_ne _ _ e2] at h2
        rcases hv g h1 with q | q
        · exact h.sepV j l g hj hl q h2
        · exact absurd h2 (q l hl)
    · rw [upd_ne _ _ e] at h1
      by_cases e2 : l = i
      · subst e2
        rw [upd_at] at h2
        rcases hv g h2 with q | q
        · exact h.sepV j l g hj hl h1 q
        · exact absurd h1 (q j hj)
      · rw [upd_ne _ _ e2] at h2
        exact h.sepV j l g hj hl h1 h2
  · rw [List.length_set] at hj hl
    by_cases e : j = i
    · by_cases e2 : l = i
      · subst e
        subst e2
        rw [upd_at] at ha hb
        exact ⟨rfl, hu2 a b x x' g ha hb h1 h2⟩
      · subst e
        rw [upd_at] at ha
        rw [upd_ne _ _ e2] at hb
        rcases hu a x g ha h1 with ⟨x0, q1, q2⟩ | q
        · exact (sepW l x' x0 g e2 hl (List.mem_of_getElem? hb) q1 h2 q2).elim
        · exact absurd h2 (q l x' hl (List.mem_of_getElem? hb))
    · rw [upd_ne _ _ e] at ha
      by_cases e2 : l = i
      · subst e2
        rw [upd_at] at hb
        rcases hu b x' g hb h2 with ⟨x0, q1, q2⟩ | q
        · exact (sepW j x x0 g e hj (List.mem_of_getElem? ha) q1 h1 q2).elim
        · exact absurd h1 (q j x hj (List.mem_of_getElem? ha))
      · rw [upd_ne _ _ e2] at hb
        exact h.sepU j l a b x x' g hj hl ha hb h1 h2

end Go.Proofs.YtmcaejooaaahdaaGreat

namespace Go.Proofs.YtmcaejooaaahdaaGreat
open Go.RowKit

/-- Where a number is, or belongs, among numbers that rise. -/
def CutI (l : List Int) (x : Int) (i : Nat) : Prop := i ≤ l.length ∧ (∀ k a, k < i → l[k]? = some a → a < x) ∧ ∀ k a, i ≤ k → l[k]? = some a → x ≤ a
abbrev UpI (l : List Int) : Prop := l.Pairwise (· < ·)
theorem upI_le {l : List Int} (h : UpI l) {i j : Nat} {a b : Int} (hi : l[i]? = some a) (hj : l[j]? = some b) (hij : i ≤ j) : a ≤ b := by
  by_cases e : i = j
  · subst e
    rw [hi] at hj
    cases hj
    exact Int.le_refl _
  · obtain ⟨h1, rfl⟩ := List.getElem?_eq_some_iff.1 hi
    obtain ⟨h2, rfl⟩ := List.getElem?_eq_some_iff.1 hj
    exact Int.le_of_lt (List.pairwise_iff_getElem.1 h i j h1 h2 (by omega))
/-- Where it was found. -/
def FoundI (e : Ending) (l : List Int) (x : Int) : Prop := ∃ (i : Nat) (y : Bool), e = .returned (.tuple #[.int .i64 (i : Nat), .bool y]) ∧ CutI l x i ∧ (y = true ↔ l[i]? = some x)

set_option maxHeartbeats 400000 in
theorem isNaNI_any (s : Int) (w : World) : Calls Tryz.prog 102 #[.int .i64 s] w fun e w' => e = .returned (.bool false) ∧ w' = w := by
  go_enter Tryz.func102, Tryz.ntmps102
  go_wp2_with fail
  go_ret
  exact ⟨by simp, rfl⟩

/-- How one number stands to another. -/
def cmpI (a b : Int) : Int := if a < b then -1 else if b < a then 1 else 0
theorem cmpI_neg {a b : Int} : cmpI a b < 0 ↔ a < b := by
  unfold cmpI
  by_cases h : a < b
  · rw [if_pos h]
    simp [h]
  · rw [if_neg h]
    by_cases e : b < a
    · rw [if_pos e]
      simp [h]
    · rw [if_neg e]
      simp [h]
theorem cmpI_zero {a b : Int} : cmpI a b = 0 ↔ a = b := by
  unfold cmpI
  by_cases h : a < b
  · rw [if_pos h]
    constructor
    · intro q
      omega
    · intro q
      omega
  · rw [if_neg h]
    by_cases e : b < a
    · rw [if_pos e]
      constructor
      · intro q
        omega
      · intro q
        omega
    · rw [if_neg e]
      constructor
      · intro q
        omega
      · intro q
        rfl
theorem cmpI_range (a b : Int) : -1 ≤ cmpI a b ∧ cmpI a b ≤ 1 := by
  unfold cmpI
  split
  · omega
  · split
    · omega
    · omega

set_option maxHeartbeats 400000 in
theorem compareI_any (a b : Int) (w : World) : Calls Tryz.prog 89 #[.int .i64 a, .int .i64 b] w fun e w' => e = .returned (.int .i64 (cmpI a b)) ∧ w' = w := by
  have H1 := isNaNI_any a w
  have H2 := isNaNI_any b w
  by_cases q : a < b
  · have H : Hid (cmpI a b = -1) := if_pos q
    go_enter Tryz.func89, Tryz.ntmps89
    go_wp2_with fail
    refine H1.mono ?_
    rintro e w1 ⟨rfl, rfl⟩
    clear H1
    go_wp2_with fail
    refine H2.mono ?_
    rintro e w1 ⟨rfl, rfl⟩
    clear H2
    go_wp2_with fail
    go_ret
    exact ⟨by rw [H.out]; rfl, rfl⟩
  · by_cases r : b < a
    · have H : Hid (cmpI a b = 1) := by
        show cmpI a b = 1
        unfold cmpI
        rw [if_neg q, if_pos r]
      go_enter Tryz.func89, Tryz.ntmps89
      go_wp2_with fail
      refine H1.mono ?_
      rintro e w1 ⟨rfl, rfl⟩
      clear H1
      go_wp2_with fail
      refine H2.mono ?_
      rintro e w1 ⟨rfl, rfl⟩
      clear H2
      go_wp2_with fail
      go_ret
      exact ⟨by rw [H.out]; rfl, rfl⟩
    · have H : Hid (cmpI a b = 0) := by
        show cmpI a b = 0
        unfold cmpI
        rw [if_neg q, if_neg r]
      go_enter Tryz.func89, Tryz.ntmps89
      go_wp2_with fail
      refine H1.mono ?_
      rintro e w1 ⟨rfl, rfl⟩
      clear H1
      go_wp2_with fail
      refine H2.mono ?_
      rintro e w1 ⟨rfl, rfl⟩
      clear H2
      go_wp2_with fail
      go_ret
      exact ⟨by rw [H.out]; rfl, rfl⟩

set_option maxHeartbeats 400000 in
theorem cmpH_any (a b : Int) (q : Value) (w : World) : Calls Tryz.prog 88 #[.agg #[.int .i64 a, q], .int .i64 b] w fun e w' => e = .returned (.int .i64 (cmpI a b)) ∧ Below w.heap.size w w' := by
  have hb0 : Below w.heap.size w (w.alloc (.cells #[.int .i64 a, q] 61)) := (Below.refl _ _).alloc (Nat.le_refl _) _
  have V := varF_new w 61 (.int .i64 a) q
  obtain ⟨c0, _, _⟩ := V
  have H := compareI_any a b (w.alloc (.cells #[.int .i64 a, q] 61))
  go_enter Tryz.func88, Tryz.ntmps88
  go_wp2_with fail
  refine H.mono ?_
  rintro e w1 ⟨rfl, rfl⟩
  clear H
  go_wp2_with fail
  go_ret
  exact ⟨rfl, hb0⟩
theorem Tryz.enters_cmpH : ∀ args w, (callFunc 88 args).run Tryz.prog w = .ok (.enter 88 args) w := enters_of Tryz.func88 (by kernel_rfl) rfl

/-- What a disk holds, as it lies. -/
def HeIn (w : World) (v : Value) (hs : List HeC) : Prop := ∃ A cap, v = .slice A hs.length cap ∧ hs.length ≤ cap ∧ cap ≤ maxLen ∧ ∀ (i : Nat) (x : HeC), hs[i]? = some x → ∃ b o, A = some ⟨b, o, none⟩ ∧ w.cell? ⟨b, o + i * 2, none⟩ = some (.int .i64 x.1) ∧ w.cell? ⟨b, o + i * 2 + 1, none⟩ = some (slV x.2.1)
theorem HeIn.below {w w' : World} {v : Value} {hs : List HeC} (h : HeIn w v hs) (hb : Below w.heap.size w w') : HeIn w' v hs := by
  obtain ⟨A, cap, hv, h1, h2, h3⟩ := h
  refine ⟨A, cap, hv, h1, h2, fun i x hx => ?_⟩
  obtain ⟨b, o, e, c0, c1⟩ := h3 i x hx
  have hp : b < w.heap.size := World.block_lt_of_cell? _ _ c0
  exact ⟨b, o, e, (hb.cell (p := ⟨b, o + i * 2, none⟩) hp).trans c0, (hb.cell (p := ⟨b, o + i * 2 + 1, none⟩) hp).trans c1⟩
theorem heIn_of {w : World} {N : Nat} {v : Value} {hs : List HeC} (h : w.ownsRow N 61 2 v hs.length (hs.flatMap heCells)) : HeIn w v hs := by
  by_cases hn : 1 ≤ hs.length
  · obtain ⟨g, cap, rfl, _, h1, h2, _, hc⟩ := owns_cells h hn
    refine ⟨some ⟨g, 0, none⟩, cap, rfl, h1, h2, fun i x hx => ?_⟩
    have hf := fun t ht => flat_get heCells 2 hs (fun _ _ => rfl) i t ht x hx
    exact ⟨g, 0, rfl, by rw [Nat.zero_add]; exact hc _ _ (hf 0 (by decide)), by rw [Nat.zero_add]; exact hc _ _ (hf 1 (by decide))⟩
  · obtain rfl : hs = [] := List.eq_nil_of_length_eq_zero (by omega)
    rcases h.2 with ⟨rfl, _⟩ | ⟨g, cap, cur, rfl, _, _, hc, hm, _⟩
    · exact ⟨none, 0, rfl, Nat.le_refl _, Nat.zero_le _, fun i e he => by cases he⟩
    · exact ⟨_, cap, rfl, hc, hm, fun i e he => by cases he⟩

set_option maxHeartbeats 1000000 in
set_option maxRecDepth 100000 in
theorem searchH_any (t : Int) (vs : Value) (hs : List HeC) (w : World) (h : HeIn w vs hs) (hup : UpI (hs.map (·.1))) (hn : hs.length ≤ 100000) :
    Calls Tryz.prog 87 #[vs, .int .i64 t, .func (.func 88) #[] #[]] w fun e w' => FoundI e (hs.map (·.1)) t ∧ Below w.heap.size w w' := by
  have eg := Tryz.enters_cmpH
  have HSO : Hid (UpI (hs.map (·.1))) := hup
  obtain ⟨A, C, rfl, _, _, ha⟩ := h
  have HK : Hid (∀ (i : Nat) (x : HeC), hs[i]? = some x → (hs.map (·.1))[i]? = some x.1) := fun i x hx => by
    show (hs.map (·.1))[i]? = some x.1
    rw [List.getElem?_map, hx]
    rfl
  have HKL : Hid ((hs.map (·.1)).length = hs.length) := List.length_map ..
  clear hup
  go_enter Tryz.func87, Tryz.ntmps87
  go_wp2_with fail
  go_loopw [9, 10] (fun x y wr => ∃ i j : Nat, i ≤ j ∧ j ≤ hs.length ∧ x = .int .i64 i ∧ y = .int .i64 j ∧ Hid (∀ k a, k < i → (hs.map (·.1))[k]? = some a → a < t) ∧ Hid (∀ k a, j ≤ k → (hs.map (·.1))[k]? = some a → t ≤ a) ∧ Below w.heap.size w wr) (fun x y _ => (intOf y).toNat - (intOf x).toNat)
  case atStart => exact ⟨0, hs.length, Nat.zero_le _, Nat.le_refl _, rfl, rfl, fun k a hk => absurd hk (Nat.not_lt_zero k), fun k a hk ha => absurd (List.getElem?_eq_some_iff.1 ha).1 (by rw [HKL.out]; omega), Below.refl _ _⟩
  case round =>
    obtain ⟨i, j, hij, hjl, rfl, rfl, HLO, HHI, hb⟩ := hrel
    by_cases hlt : i < j
    · have hlt' : (i : Int) < (j : Int) := by omega
      obtain ⟨q, hq⟩ : ∃ q, q = (i + j) / 2 := ⟨_, rfl⟩
      have hq1 : i ≤ q := by omega
      have hq2 : q < j := by omega
      obtain ⟨a, hak⟩ : ∃ a, hs[q]? = some a := ⟨hs[q], List.getElem?_eq_getElem (by omega)⟩
      obtain ⟨b, o, rfl, d0, d1⟩ := ha q a hak
      have hp : b < w.heap.size := World.block_lt_of_cell? _ _ d0
      have d0 := (hb.cell (p := ⟨b, o + q * 2, none⟩) hp).trans d0
      have d1 := (hb.cell (p := ⟨b, o + q * 2 + 1, none⟩) hp).trans d1
      have HAK : Hid ((hs.map (·.1))[q]? = some a.1) := HK.out q a hak
      have HC := cmpH_any a.1 t (slV a.2.1) wr
      have HCN : Hid (cmpI a.1 t < 0 ↔ a.1 < t) := cmpI_neg
      have HR := cmpI_range a.1 t
      generalize cmpI a.1 t = c at HC HCN HR
      have HQ : Hid (q = (i + j) / 2) := hq
      rw [hq] at d0 d1
      obtain ⟨z, hz⟩ : ∃ z : Value, z = slV a.2.1 := ⟨_, rfl⟩
      rw [← hz] at d1 HC
      clear ha hak hq hp hz
      by_cases hc : c < 0
      · have HLT : Hid (a.1 < t) := HCN.out.1 hc
        go_wp2_with fail
        refine HC.mono ?_
        rintro e w1 ⟨rfl, b1⟩
        clear HC
        go_wp2_with fail
        refine ⟨⟨q + 1, j, by omega, hjl, val_int (by have := HQ.out; omega), rfl, fun k x hk hx => ?_, HHI.out, bt hb b1⟩, ?_⟩
        · exact Int.lt_of_le_of_lt (upI_le HSO.out hx HAK.out (by omega)) HLT.out
        · have := HQ.out
          simp [intOf]
          omega
      · have HLT : Hid (t ≤ a.1) := Int.not_lt.1 fun z => hc (HCN.out.2 z)
        go_wp2_with fail
        refine HC.mono ?_
        rintro e w1 ⟨rfl, b1⟩
        clear HC
        go_wp2_with fail
        refine ⟨⟨i, q, hq1, by omega, rfl, val_int (by have := HQ.out; omega), HLO.out, fun k x hk hx => ?_, bt hb b1⟩, ?_⟩
        · exact Int.le_trans HLT.out (upI_le HSO.out HAK.out hx hk)
        · have := HQ.out
          simp [intOf]
          omega
    · obtain rfl : i = j := by omega
      by_cases hin : i < hs.length
      · have hin' : (i : Int) < (hs.length : Int) := by omega
        obtain ⟨a, hak⟩ : ∃ a, hs[i]? = some a := ⟨hs[i], List.getElem?_eq_getElem hin⟩
        obtain ⟨b, o, rfl, d0, d1⟩ := ha i a hak
        have hp : b < w.heap.size := World.block_lt_of_cell? _ _ d0
        have d0 := (hb.cell (p := ⟨b, o + i * 2, none⟩) hp).trans d0
        have d1 := (hb.cell (p := ⟨b, o + i * 2 + 1, none⟩) hp).trans d1
        have HC := cmpH_any a.1 t (slV a.2.1) wr
        have HF3 : Hid (FoundI (.returned (.tuple #[.int .i64 (i : Nat), .bool (cmpI a.1 t == 0)])) (hs.map (·.1)) t) := ⟨i, cmpI a.1 t == 0, rfl, ⟨by rw [HKL.out]; exact hjl, HLO.out, HHI.out⟩, by
          rw [beq_iff_eq, cmpI_zero, HK.out i a hak, Option.some.injEq]⟩
        obtain ⟨z, hz⟩ : ∃ z : Value, z = slV a.2.1 := ⟨_, rfl⟩
        rw [← hz] at d1 HC
        clear ha hak hp hz
        generalize cmpI a.1 t = c at HC HF3
        go_wp2_with fail
        refine HC.mono ?_
        rintro e w1 ⟨rfl, b1⟩
        clear HC
        go_wp2_with fail
        go_ret2
        exact ⟨HF3.out, bt hb b1⟩
      · have hin' : ¬ (i : Int) < (hs.length : Int) := by omega
        have HF : Hid (FoundI (.returned (.tuple #[.int .i64 (i : Nat), .bool false])) (hs.map (·.1)) t) := ⟨i, false, rfl, ⟨by rw [HKL.out]; exact hjl, HLO.out, HHI.out⟩, ⟨fun e => absurd e (by decide), fun hx => absurd (List.getElem?_eq_some_iff.1 hx).1 (by rw [HKL.out]; omega)⟩⟩
        clear ha
        go_wp2_with fail
        go_ret2
        exact ⟨HF.out, hb⟩

set_option maxHeartbeats 400000 in
theorem find_any (t : Int) (vs : Value) (hs : List HeC) (w : World) (h : HeIn w vs hs) (hup : UpI (hs.map (·.1))) (hn : hs.length ≤ 100000) :
    Calls Tryz.prog 51 #[vs, .int .i64 t] w fun e w' => FoundI e (hs.map (·.1)) t ∧ Below w.heap.size w w' := by
  have H := searchH_any t vs hs w h hup hn
  clear h hup
  go_enter Tryz.func51, Tryz.ntmps51
  go_wp2_with fail
  refine H.mono ?_
  rintro e w1 ⟨⟨i, y, rfl, hF⟩, b1⟩
  have HF : Hid (FoundI (.returned (.tuple #[.int .i64 (i : Nat), .bool y])) (hs.map (·.1)) t) := ⟨i, y, rfl, hF⟩
  clear H hF
  go_wp2_with fail
  go_ret2
  exact ⟨HF.out, b1⟩

end Go.Proofs.YtmcaejooaaahdaaGreat

namespace Go.Proofs.YtmcaejooaaahdaaGreat.Sto

section
variable {bl : List (Int × List Nat)} {k : Int} {i : Nat}
theorem up_iff : Up bl ↔ UpI (bl.map (·.1)) := up_keys
theorem key_at {h : Int × List Nat} (hi : bl[i]? = some h) : (bl.map (·.1))[i]? = some h.1 := by
  rw [List.getElem?_map, hi]
  rfl
/-- None but the one at i is of that segment. -/
theorem cut_only (hu : Up bl) (hc : CutI (bl.map (·.1)) k i) {j : Nat} {h : Int × List Nat} (hj : bl[j]? = some h) (hk : h.1 = k) : j = i := by
  have h1 := key_at hj
  by_cases q : j < i
  · have := hc.2.1 j _ q h1
    omega
  · by_cases e : j = i
    · exact e
    · obtain ⟨hl, rfl⟩ := List.getElem?_eq_some_iff.1 hj
      have hi : i < bl.length := by omega
      have h2 := hc.2.2 i _ (Nat.le_refl i) (key_at (List.getElem?_eq_getElem hi))
      have h3 := List.pairwise_iff_getElem.1 hu i j hi hl (by omega)
      omega
theorem none_of (hu : Up bl) (hc : CutI (bl.map (·.1)) k i) (hn : (bl.map (·.1))[i]? ≠ some k) : ∀ h, h ∈ bl → h.1 ≠ k := fun h hm e => by
  obtain ⟨j, hj⟩ := List.mem_iff_getElem?.1 hm
  have := cut_only hu hc hj e
  subst this
  exact hn (by rw [key_at hj, e])
theorem find_not (hu : Up bl) (hc : CutI (bl.map (·.1)) k i) (hn : (bl.map (·.1))[i]? ≠ some k) : bl.find? (fun h => decide (h.1 = k)) = none := by
  rw [List.find?_eq_none]
  intro h hm
  simpa using none_of hu hc hn h hm
theorem find_there (hu : Up bl) (hc : CutI (bl.map (·.1)) k i) {h : Int × List Nat} (hi : bl[i]? = some h) (hk : h.1 = k) : bl.find? (fun h => decide (h.1 = k)) = some h := by
  cases hf : bl.find? (fun h => decide (h.1 = k)) with
  | none =>
    rw [List.find?_eq_none] at hf
    exact absurd hk (by simpa using hf h (List.mem_of_getElem? hi))
  | some y =>
    have h1 : y.1 = k := by simpa using List.find?_some hf
    obtain ⟨j, hj⟩ := List.mem_iff_getElem?.1 (List.mem_of_find?_eq_some hf)
    have := cut_only hu hc hj h1
    subst this
    rw [hj] at hi
    cases hi
    rfl
theorem filter_below (hc : CutI (bl.map (·.1)) k i) : bl.filter (fun h => decide (h.1 < k)) = bl.take i := by
  conv => lhs; rw [← List.take_append_drop i bl]
  rw [List.filter_append]
  have h1 : (bl.take i).filter (fun h => decide (h.1 < k)) = bl.take i := by
    rw [List.filter_eq_self]
    intro h hm
    obtain ⟨j, hj⟩ := List.mem_iff_getElem?.1 hm
    have hji : j < i := by
      have := (List.getElem?_eq_some_iff.1 hj).1
      rw [List.length_take] at this
      omega
    rw [List.getElem?_take, if_pos hji] at hj
    exact decide_eq_true (hc.2.1 j _ hji (key_at hj))
  have h2 : (bl.drop i).filter (fun h => decide (h.1 < k)) = [] := by
    rw [List.filter_eq_nil_iff]
    intro h hm
    obtain ⟨j, hj⟩ := List.mem_iff_getElem?.1 hm
    rw [List.getElem?_drop] at hj
    have := hc.2.2 (i + j) _ (Nat.le_add_right i j) (key_at hj)
    simpa using this
  rw [h1, h2, List.append_nil]
theorem filter_above (hc : CutI (bl.map (·.1)) k i) : bl.filter (fun h => decide (k < h.1)) = (bl.drop i).filter (fun h => decide (k < h.1)) := by
  conv => lhs; rw [← List.take_append_drop i bl]
  rw [List.filter_append]
  have h1 : (bl.take i).filter (fun h => decide (k < h.1)) = [] := by
    rw [List.filter_eq_nil_iff]
    intro h hm
    obtain ⟨j, hj⟩ := List.mem_iff_getElem?.1 hm
    have hji : j < i := by
      have := (List.getElem?_eq_some_iff.1 hj).1
      rw [List.length_take] at this
      omega
    rw [List.getElem?_take, if_pos hji] at hj
    have := hc.2.1 j _ hji (key_at hj)
    simp
    omega
  rw [h1, List.nil_append]
/-- A block is written where there is one already. -/
theorem ins_there (hu : Up bl) (hc : CutI (bl.map (·.1)) k i) {h : Int × List Nat} (hi : bl[i]? = some h) (hk : h.1 = k) (x : List Nat) : ins k x false bl = bl.set i (k, x) := by
  obtain ⟨hl, rfl⟩ := List.getElem?_eq_some_iff.1 hi
  rw [ins_up hu, filter_below hc, filter_above hc, List.set_eq_take_append_cons_drop, if_pos hl, List.drop_eq_getElem_cons hl, List.filter_cons_of_neg (by rw [hk]; simp)]
  congr 2
  rw [List.filter_eq_self]
  intro y hm
  obtain ⟨j, hj⟩ := List.mem_iff_getElem?.1 hm
  rw [List.getElem?_drop] at hj
  obtain ⟨hl2, rfl⟩ := List.getElem?_eq_some_iff.1 hj
  have := List.pairwise_iff_getElem.1 hu i (i + 1 + j) hl hl2 (by omega)
  rw [hk] at this
  exact decide_eq_true this
/-- A block is written where there is none yet. -/
theorem ins_new (hu : Up bl) (hc : CutI (bl.map (·.1)) k i) (hn : (bl.map (·.1))[i]? ≠ some k) (x : List Nat) : ins k x false bl = bl.take i ++ (k, x) :: bl.drop i := by
  rw [ins_up hu, filter_below hc, filter_above hc]
  congr 2
  rw [List.filter_eq_self]
  intro y hm
  have hm2 := List.mem_of_mem_drop hm
  obtain ⟨j, hj⟩ := List.mem_iff_getElem?.1 hm
  rw [List.getElem?_drop] at hj
  have h1 := hc.2.2 (i + j) _ (Nat.le_add_right i j) (key_at hj)
  have h2 := none_of hu hc hn y hm2
  exact decide_eq_true (by omega)
end
theorem spoil_there {k : Int} {p y : Nat} : ∀ {bl : List (Int × List Nat)} {i : Nat} {h : Int × List Nat}, Up bl → bl[i]? = some h → h.1 = k → spoil k p y bl = bl.set i (k, h.2.set p (h.2.getD p 0 ^^^ y))
  | [], _, _, _, hi, _ => by cases hi
  | x :: t, 0, h, hu, hi, hk => by
    cases hi
    rw [spoil, if_pos hk]
    rfl
  | x :: t, i + 1, h, hu, hi, hk => by
    obtain ⟨h1, h2⟩ := List.pairwise_cons.1 hu
    have hi : t[i]? = some h := hi
    have := h1 h (List.mem_of_getElem? hi)
    rw [spoil, if_neg (by omega), spoil_there h2 hi hk]
    rfl

end Go.Proofs.YtmcaejooaaahdaaGreat.Sto
