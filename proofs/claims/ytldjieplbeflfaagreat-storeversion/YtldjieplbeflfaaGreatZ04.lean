/-
  Texts of the proof, joined: HHurt, Byt, Math.
-/
import Derived.Test.YtldjieplbeflfaaGreatZ03
import Derived.Test.YtldjieplbeflfaaGreatRows
import Derived.WalkKit
import Derived.WalkSpells
import Derived.WalkLawsBesides
import Derived.Laws.BitsAllLaws
import Derived.Laws.BytesArg
import Derived.FnLit
import Derived.Shelf.Abstract
import Derived.Deep.OwnRows
import Derived.Deep.RegionWith
import Derived.Deep.Slices
import Derived.Deep.AppendSrc
import Derived.BigRegion
import Derived.BigQuiet
import Derived.Deep.QuietTactic
import Derived.Lib.Bytes
import Derived.Lib.SmallJoins
import Derived.ProofKit
import Derived.OpenShut
import Derived.Carry
namespace Go.Proofs.YtldjieplbeflfaaGreat.Sto
open Evt (Ev Bat)

/-- One byte is another one. -/
def Turned (a b : List Nat) : Prop := ∃ p y, p < b.length ∧ 1 ≤ y ∧ y < 256 ∧ a = b.set p (b.getD p 0 ^^^ y)
def Hurt (a b : List Nat) : Prop := a = [] ∨ a = b ∨ Turned a b
/-- Blocks of a segment that was laid, some of them hurt. -/
structure Hurts (X : Six) (c : Cfg) (bs : List (List Nat)) (r : List Nat) (k : Nat) (L : List (List Nat)) : Prop where
  lay : X.lay r k c = (0, L)
  byt : Evt.Bytes r
  len : bs.length = c.d + c.s
  hurt : ∀ i, i < c.d + c.s → Hurt (bs.getD i []) (L.getD i [])
/-- What chapter 6 promises of such blocks. -/
structure Good (X : Six) (c : Cfg) : Prop where
  bad : ∀ {bs r k L}, Hurts X c bs r k L → X.bad bs k = (List.range (c.d + c.s)).filter fun i => decide (bs.getD i [] ≠ L.getD i [])
  kept : ∀ {bs r k L}, Hurts X c bs r k L → (X.bad bs k).length ≤ c.s → X.read bs k c = (0, r) ∧ X.mend bs k c = (0, L)
  lost : ∀ {bs r k L}, Hurts X c bs r k L → c.s < (X.bad bs k).length → (X.read bs k c).1 = 10 ∧ (X.mend bs k c).1 = 10
  full : ∀ {r k L}, X.lay r k c = (0, L) → ∀ i, i < c.d + c.s → L.getD i [] ≠ []

/-- What holds of a store whatever was done: BL, the batches of each segment; had, the blocks of which a byte was turned. -/
structure Inv (X : Six) (c : Cfg) (s : St) (BL : List (List Bat)) (had : List (Int × Int)) : Prop where
  len : BL.length = s.segs
  dl : s.disks.length = c.d + c.s
  up : ∀ (i : Nat) (d : Disk), s.disks[i]? = some d → Up d.bl ∧ (∀ h, h ∈ d.bl → 0 ≤ h.1 ∧ h.1 < s.segs) ∧ (d.gone = true → d.bl = [])
  ok : ∀ (k : Nat) l, BL[k]? = some l → (Evt.wrongL l).1 = 0 ∧ Evt.Bytes (Evt.encL l) ∧ ∃ L, X.lay (Evt.encL l) k c = (0, L) ∧ ∀ (i : Nat) (d : Disk), s.disks[i]? = some d → pickB k d.bl [] = [] ∨ pickB k d.bl [] = L.getD i [] ∨ (((i : Int), (k : Int)) ∈ had ∧ Turned (pickB k d.bl []) (L.getD i []))
theorem Inv.hurts {X : Six} {c : Cfg} {s : St} {BL : List (List Bat)} {had : List (Int × Int)} (h : Inv X c s BL had) {k : Nat} {l : List Bat} (hk : BL[k]? = some l) : ∃ L, Hurts X c (blocks s.disks k) (Evt.encL l) k L := by
  obtain ⟨_, hb, L, h1, h2⟩ := h.ok k l hk
  refine ⟨L, h1, hb, by rw [blocks, List.length_map, h.dl], fun i hi => ?_⟩
  obtain ⟨d, hd⟩ : ∃ d, s.disks[i]? = some d := ⟨s.disks[i]'(by rw [h.dl]; exact hi), List.getElem?_eq_getElem _⟩
  have e : (blocks s.disks k).getD i [] = if d.gone then [] else pickB k d.bl [] := by
    rw [List.getD_eq_getElem?_getD, blocks, List.getElem?_map, hd]
    rfl
  rw [e]
  by_cases q : d.gone = true
  · rw [if_pos q]
    exact Or.inl rfl
  · rw [if_neg q]
    rcases h2 i d hd with z | z | z
    · exact Or.inl z
    · exact Or.inr (Or.inl z)
    · exact Or.inr (Or.inr z.2)
theorem evsOf_append (a b : List Bat) : evsOf (a ++ b) = evsOf a ++ evsOf b := by
  unfold evsOf
  rw [List.flatMap_append]
/-- Segment by segment: all of it, or that too much is gone. -/
theorem allS_told {X : Six} {c : Cfg} {s : St} {BL : List (List Bat)} {had : List (Int × Int)} (hg : Good X c) (h : Inv X c s BL had) :
    ∀ (m k : Nat) (out : List Ev), k + m = BL.length → (allS X c s.disks m k out).1 = 10 ∨ allS X c s.disks m k out = (0, out ++ evsOf (BL.drop k).flatten)
  | 0, k, out, e => by
    rw [allS, List.drop_eq_nil_of_le (by omega)]
    right
    show (0, out) = (0, out ++ [])
    rw [List.append_nil]
  | m + 1, k, out, e => by
    have hk : k < BL.length := by omega
    obtain ⟨l, hl⟩ : ∃ l, BL[k]? = some l := ⟨BL[k], List.getElem?_eq_getElem hk⟩
    obtain ⟨L, hh⟩ := h.hurts hl
    rw [allS]
    by_cases q : (X.bad (blocks s.disks k) k).length ≤ c.s
    · obtain ⟨q1, _⟩ := hg.kept hh q
      obtain ⟨p1, p2⟩ := Evt.parse_enc (h.ok k l hl).1
      rw [q1, if_neg (fun z => z rfl)]
      dsimp only
      rw [if_neg (fun z => z p1), p2]
      rcases allS_told hg h m (k + 1) (out ++ evsOf l) (by omega) with z | z
      · exact Or.inl z
      · right
        rw [z, show BL.drop k = l :: BL.drop (k + 1) from by
          obtain ⟨_, rfl⟩ := List.getElem?_eq_some_iff.1 hl
          exact List.drop_eq_getElem_cons hk, List.flatten_cons, evsOf_append, List.append_assoc]
    · obtain ⟨q1, _⟩ := hg.lost hh (by omega)
      left
      rw [if_pos (by rw [q1]; decide)]
      exact q1
/-- All, or that too much is gone. -/
theorem all_told {X : Six} {c : Cfg} {s : St} {BL : List (List Bat)} {had : List (Int × Int)} (hg : Good X c) (h : Inv X c s BL had) :
    (all X c s).1 = 10 ∨ all X c s = (0, evsOf BL.flatten ++ evsOf s.tail) := by
  unfold all
  rcases allS_told hg h s.segs 0 [] (by rw [h.len]; omega) with z | z
  · left
    rw [if_pos (by rw [z]; decide)]
    exact z
  · right
    rw [z, if_neg (fun q => q rfl)]
    rfl

/-! ### It holds -/
theorem Inv.more {X : Six} {c : Cfg} {s : St} {BL : List (List Bat)} {had had' : List (Int × Int)} (h : Inv X c s BL had) (hh : ∀ x, x ∈ had → x ∈ had') : Inv X c s BL had' :=
  ⟨h.len, h.dl, h.up, fun k l hk => by
    obtain ⟨h1, h2, L, h3, h4⟩ := h.ok k l hk
    refine ⟨h1, h2, L, h3, fun i d hd => ?_⟩
    rcases h4 i d hd with z | z | z
    · exact Or.inl z
    · exact Or.inr (Or.inl z)
    · exact Or.inr (Or.inr ⟨hh _ z.1, z.2⟩)⟩
theorem inv_start (X : Six) (c : Cfg) : Inv X c (start c) [] [] :=
  ⟨rfl, List.length_replicate, fun i d hd => by
    have e : d = ⟨false, []⟩ := by
      have hm := List.mem_of_getElem? hd
      exact (List.mem_replicate.1 hm).2
    subst e
    exact ⟨List.Pairwise.nil, fun _ hh => (by cases hh), fun z => (by cases z)⟩, fun k l hk => by cases hk⟩
/-- One disk is another one. -/
theorem Inv.disk {X : Six} {c : Cfg} {s : St} {BL : List (List Bat)} {had : List (Int × Int)} (h : Inv X c s BL had) (n : Nat) (x : Disk) (hu : Up x.bl ∧ (∀ h, h ∈ x.bl → 0 ≤ h.1 ∧ h.1 < s.segs) ∧ (x.gone = true → x.bl = []))
    (hx : ∀ (k : Nat) l L, BL[k]? = some l → X.lay (Evt.encL l) k c = (0, L) → pickB k x.bl [] = [] ∨ pickB k x.bl [] = L.getD n [] ∨ (((n : Int), (k : Int)) ∈ had ∧ Turned (pickB k x.bl []) (L.getD n []))) :
    Inv X c { s with disks := s.disks.set n x } BL had := by
  have hat : ∀ (i : Nat) (d : Disk), (s.disks.set n x)[i]? = some d → (i = n ∧ d = x) ∨ (i ≠ n ∧ s.disks[i]? = some d) := fun i d hd => by
    by_cases e : i = n
    · subst e
      rw [List.getElem?_set_self'] at hd
      obtain ⟨_, _, rfl⟩ := Option.map_eq_some_iff.1 hd
      exact Or.inl ⟨rfl, rfl⟩
    · rw [List.getElem?_set_ne (fun z => e z.symm)] at hd
      exact Or.inr ⟨e, hd⟩
  refine ⟨h.len, by show (s.disks.set n x).length = _; rw [List.length_set, h.dl], fun i d hd => ?_, fun k l hk => ?_⟩
  · rcases hat i d hd with ⟨_, rfl⟩ | ⟨_, hd⟩
    · exact hu
    · exact h.up i d hd
  · obtain ⟨h1, h2, L, h3, h4⟩ := h.ok k l hk
    refine ⟨h1, h2, L, h3, fun i d hd => ?_⟩
    rcases hat i d hd with ⟨rfl, rfl⟩ | ⟨_, hd⟩
    · exact hx k l L hk h3
    · exact h4 i d hd
/-- A segment is written again. -/
theorem Inv.again {X : Six} {c : Cfg} {s : St} {BL : List (List Bat)} {had : List (Int × Int)} (h : Inv X c s BL had) {k : Nat} {l : List Bat} {L : List (List Nat)} (hk : BL[k]? = some l) (hL : X.lay (Evt.encL l) k c = (0, L)) :
    Inv X c { s with disks := write k L 0 s.disks } BL had := by
  have hlt : k < s.segs := by
    rw [← h.len]
    exact (List.getElem?_eq_some_iff.1 hk).1
  have hat : ∀ (i : Nat) (d : Disk), (write k L 0 s.disks)[i]? = some d → ∃ e, s.disks[i]? = some e ∧ ((e.gone = true ∧ d = e) ∨ (e.gone = false ∧ d = ⟨false, ins k (L.getD i []) false e.bl⟩)) := fun i d hd => by
    rw [write_at] at hd
    obtain ⟨e, he, rfl⟩ := Option.map_eq_some_iff.1 hd
    refine ⟨e, he, ?_⟩
    by_cases q : e.gone = true
    · exact Or.inl ⟨q, by rw [if_pos q]⟩
    · exact Or.inr ⟨by simpa using q, by rw [if_neg q, Nat.zero_add]⟩
  refine ⟨h.len, by show (write k L 0 s.disks).length = _; rw [write_length, h.dl], fun i d hd => ?_, fun j l' hj => ?_⟩
  · obtain ⟨e, he, ⟨_, rfl⟩ | ⟨_, rfl⟩⟩ := hat i d hd
    · exact h.up i d he
    · obtain ⟨u1, u2, _⟩ := h.up i e he
      refine ⟨ins_sorted u1, fun x hx => ?_, fun z => by cases z⟩
      rcases ins_mem u1 hx with rfl | ⟨q, _⟩
      · show 0 ≤ (k : Int) ∧ (k : Int) < (s.segs : Int)
        omega
      · exact u2 x q
  · obtain ⟨h1, h2, L', h3, h4⟩ := h.ok j l' hj
    refine ⟨h1, h2, L', h3, fun i d hd => ?_⟩
    obtain ⟨e, he, ⟨_, rfl⟩ | ⟨_, rfl⟩⟩ := hat i d hd
    · exact h4 i d he
    · obtain ⟨u1, _, _⟩ := h.up i e he
      by_cases q : j = k
      · subst q
        rw [hk] at hj
        cases hj
        rw [hL] at h3
        have h3 : L = L' := (Prod.mk.inj h3).2
        subst h3
        exact Or.inr (Or.inl (pick_ins u1 []))
      · rw [pick_other u1 (by omega)]
        exact h4 i e he
/-- One segment more. -/
theorem Inv.next {X : Six} {c : Cfg} {s : St} {BL : List (List Bat)} {had : List (Int × Int)} (h : Inv X c s BL had) {l : List Bat} {L : List (List Nat)} (hw : (Evt.wrongL l).1 = 0) (hb : Evt.Bytes (Evt.encL l)) (hL : X.lay (Evt.encL l) s.segs c = (0, L)) (seen : List Int) (u : Int) (acc : List Vw.Acc) :
    Inv X c ⟨write s.segs L 0 s.disks, s.segs + 1, [], seen, u, acc⟩ (BL ++ [l]) had := by
  have hat : ∀ (i : Nat) (d : Disk), (write s.segs L 0 s.disks)[i]? = some d → ∃ e, s.disks[i]? = some e ∧ ((e.gone = true ∧ d = e) ∨ (e.gone = false ∧ d = ⟨false, ins s.segs (L.getD i []) false e.bl⟩)) := fun i d hd => by
    rw [write_at] at hd
    obtain ⟨e, he, rfl⟩ := Option.map_eq_some_iff.1 hd
    refine ⟨e, he, ?_⟩
    by_cases q : e.gone = true
    · exact Or.inl ⟨q, by rw [if_pos q]⟩
    · exact Or.inr ⟨by simpa using q, by rw [if_neg q, Nat.zero_add]⟩
  refine ⟨by show (BL ++ [l]).length = s.segs + 1; rw [List.length_append, h.len]; rfl, by show (write s.segs L 0 s.disks).length = _; rw [write_length, h.dl], fun i d hd => ?_, fun j l' hj => ?_⟩
  · obtain ⟨e, he, ⟨_, rfl⟩ | ⟨_, rfl⟩⟩ := hat i d hd
    · obtain ⟨u1, u2, u3⟩ := h.up i d he
      exact ⟨u1, fun x hx => by
        have := u2 x hx
        show 0 ≤ x.1 ∧ x.1 < ((s.segs + 1 : Nat) : Int)
        omega, u3⟩
    · obtain ⟨u1, u2, _⟩ := h.up i e he
      refine ⟨ins_sorted u1, fun x hx => ?_, fun z => by cases z⟩
      show 0 ≤ x.1 ∧ x.1 < ((s.segs + 1 : Nat) : Int)
      rcases ins_mem u1 hx with rfl | ⟨q, _⟩
      · show 0 ≤ (s.segs : Int) ∧ (s.segs : Int) < ((s.segs + 1 : Nat) : Int)
        omega
      · have := u2 x q
        omega
  · by_cases q : j < BL.length
    · rw [List.getElem?_append_left q] at hj
      obtain ⟨h1, h2, L', h3, h4⟩ := h.ok j l' hj
      refine ⟨h1, h2, L', h3, fun i d hd => ?_⟩
      obtain ⟨e, he, ⟨_, rfl⟩ | ⟨_, rfl⟩⟩ := hat i d hd
      · exact h4 i d he
      · obtain ⟨u1, _, _⟩ := h.up i e he
        have := h.len
        rw [pick_other u1 (by omega)]
        exact h4 i e he
    · have hj0 : j = BL.length := by
        have := (List.getElem?_eq_some_iff.1 hj).1
        rw [List.length_append, List.length_singleton] at this
        omega
      subst hj0
      rw [List.getElem?_append_right (Nat.le_refl _), Nat.sub_self] at hj
      have hj : some l = some l' := hj
      cases hj
      rw [← h.len] at hL
      refine ⟨hw, hb, L, hL, fun i d hd => ?_⟩
      obtain ⟨e, he, ⟨q1, rfl⟩ | ⟨_, rfl⟩⟩ := hat i d hd
      · left
        rw [(h.up i d he).2.2 q1]
        rfl
      · obtain ⟨u1, _, _⟩ := h.up i e he
        right
        left
        rw [h.len]
        exact pick_ins u1 []

/-! ### Disks that were not hurt -/
/-- Of disks that were not hurt all blocks are as they were laid. -/
def Whole (X : Six) (c : Cfg) (s : St) (BL : List (List Bat)) (H : List Nat) : Prop :=
  ∀ (i : Nat) (d : Disk), s.disks[i]? = some d → i ∉ H → d.gone = false ∧ ∀ (k : Nat) l L, BL[k]? = some l → X.lay (Evt.encL l) k c = (0, L) → pickB k d.bl [] = L.getD i []
theorem whole_next {X : Six} {c : Cfg} {s : St} {BL : List (List Bat)} {had : List (Int × Int)} {H : List Nat} (h : Inv X c s BL had) (hw : Whole X c s BL H) {l : List Bat} {L : List (List Nat)} (hL : X.lay (Evt.encL l) s.segs c = (0, L)) (seen : List Int) (u : Int) (acc : List Vw.Acc) :
    Whole X c ⟨write s.segs L 0 s.disks, s.segs + 1, [], seen, u, acc⟩ (BL ++ [l]) H := fun i d hd hn => by
  have hd : (write s.segs L 0 s.disks)[i]? = some d := hd
  rw [write_at] at hd
  obtain ⟨e, he, rfl⟩ := Option.map_eq_some_iff.1 hd
  obtain ⟨g, hp⟩ := hw i e he hn
  obtain ⟨u1, _, _⟩ := h.up i e he
  rw [if_neg (by rw [g]; decide), Nat.zero_add]
  refine ⟨rfl, fun k l' L' hk hL' => ?_⟩
  show pickB k (ins s.segs (L.getD i []) false e.bl) [] = _
  have hlen := h.len
  by_cases q : k < BL.length
  · rw [List.getElem?_append_left q] at hk
    rw [pick_other u1 (by omega)]
    exact hp k l' L' hk hL'
  · have hk0 : k = BL.length := by
      have := (List.getElem?_eq_some_iff.1 hk).1
      rw [List.length_append, List.length_singleton] at this
      omega
    subst hk0
    rw [List.getElem?_append_right (Nat.le_refl _), Nat.sub_self] at hk
    have hk : some l = some l' := hk
    cases hk
    rw [hlen] at hL' ⊢
    have e2 : L = L' := (Prod.mk.inj (hL.symm.trans hL')).2
    subst e2
    exact pick_ins u1 []

end Go.Proofs.YtldjieplbeflfaaGreat.Sto

namespace Go.Proofs.YtldjieplbeflfaaGreat
open Go.RowKit

theorem ret_int {k : IntKind} {a b : Int} (h : a = b) : Ending.returned (.int k a) = .returned (.int k b) := by rw [h]
theorem val_int {k : IntKind} {a b : Int} (h : a = b) : Value.int k a = Value.int k b := by rw [h]
theorem Tryz.infoByte : (Tryz.prog.info? 5).map (fun i => (i.zero, i.size, i.bytes)) = some (some (.int .u8 0), 1, 1) := by kernel_rfl
theorem Tryz.laidOut : laidOutB Tryz.prog = true := by kernel_rfl
theorem bt {a b c : World} (h : Below a.heap.size a b) (k : Below b.heap.size b c) : Below a.heap.size a c := h.trans (k.mono h.size)
def Bd (f : Nat → Nat) : Prop := ∀ k, f k < 256

/-- Of the blocks that were there none but those of S has turned. -/
structure Off (S : Nat → Prop) (w w' : World) : Prop where
  os : w'.os = w.os
  tape : w'.tape = w.tape
  output : w'.output = w.output
  size : w.heap.size ≤ w'.heap.size
  block : ∀ k, k < w.heap.size → ¬ S k → w'.heap[k]? = w.heap[k]?

theorem Off.refl (S : Nat → Prop) (w : World) : Off S w w := ⟨rfl, rfl, rfl, Nat.le_refl _, fun _ _ _ => rfl⟩
theorem Off.trans {S : Nat → Prop} {a b c : World} (h : Off S a b) (k : Off S b c) : Off S a c :=
  ⟨k.os.trans h.os, k.tape.trans h.tape, k.output.trans h.output, Nat.le_trans h.size k.size, fun i hi hs => (k.block i (Nat.lt_of_lt_of_le hi h.size) hs).trans (h.block i hi hs)⟩
theorem Off.of_below {S : Nat → Prop} {a b : World} (h : Below a.heap.size a b) : Off S a b := ⟨h.os, h.tape, h.output, h.size, fun k hk _ => h.block k hk⟩
theorem Off.wider {S T : Nat → Prop} {a b : World} (h : Off S a b) (hs : ∀ k, S k → T k) : Off T a b := ⟨h.os, h.tape, h.output, h.size, fun k hk hn => h.block k hk (fun s => hn (hs k s))⟩
theorem Off.set {S : Nat → Prop} {a b : World} (h : Off S a b) {p : Addr} (hp : S p.block) (v : Value) : Off S a (b.setCell p v) :=
  h.trans ⟨rfl, rfl, rfl, by rw [Deep.nblk_setCell]; exact Nat.le_refl _, fun k _ hk => Deep.blk_setCell_other _ _ _ _ (fun e => hk (e ▸ hp))⟩
theorem Off.drew {S : Nat → Prop} {a b : World} (h : Off S a b) : Off S a b.drew := ⟨h.os, h.tape, h.output, h.size, h.block⟩
theorem Off.below {S : Nat → Prop} {a b : World} {B : Nat} (h : Off S a b) (hB : B ≤ a.heap.size) (hs : ∀ k, S k → B ≤ k) : Below B a b :=
  ⟨h.os, h.tape, h.output, h.size, fun k hk => h.block k (Nat.lt_of_lt_of_le hk hB) (fun s => absurd (hs k s) (by omega))⟩

/-- Block g is a row whose first n cells, of type t, hold F. -/
def RowC (w : World) (g : Nat) (t : TypeId) (n : Nat) (F : Nat → Value) : Prop := ∃ m F', w.rowIs g t m F' ∧ n ≤ m ∧ ∀ j, j < n → F' j = F j
namespace RowC
variable {w : World} {g : Nat} {t : TypeId} {n : Nat} {F : Nat → Value}
theorem cell (h : RowC w g t n F) {j : Nat} (hj : j < n) : w.cell? ⟨g, j, none⟩ = some (F j) := by
  obtain ⟨m, F', hr, hm, he⟩ := h
  rw [hr.cell (Nat.lt_of_lt_of_le hj hm), he j hj]
theorem frozen (h : RowC w g t n F) (j : Nat) : w.frozen? ⟨g, j, none⟩ = false := by
  obtain ⟨m, F', hr, _, _⟩ := h
  exact hr.frozen j
theorem lt (h : RowC w g t n F) : g < w.heap.size := by
  obtain ⟨m, F', hr, _, _⟩ := h
  exact hr.lt
theorem congr {F2 : Nat → Value} (h : RowC w g t n F) (e : ∀ j, j < n → F j = F2 j) : RowC w g t n F2 := by
  obtain ⟨m, F', hr, hm, he⟩ := h
  exact ⟨m, F', hr, hm, fun j hj => (he j hj).trans (e j hj)⟩
theorem of_block {w' : World} (h : RowC w g t n F) (e : w'.heap[g]? = w.heap[g]?) : RowC w' g t n F := by
  obtain ⟨m, F', hr, hm, he⟩ := h
  exact ⟨m, F', hr.of_block e, hm, he⟩
theorem set (h : RowC w g t n F) (i : Nat) (v : Value) : RowC (w.setCell ⟨g, i, none⟩ v) g t n (fun j => if j = i then v else F j) := by
  obtain ⟨m, F', hr, hm, he⟩ := h
  refine ⟨m, _, hr.set i v, hm, fun j hj => ?_⟩
  show (if j = i then v else F' j) = (if j = i then v else F j)
  by_cases e : j = i
  · rw [if_pos e, if_pos e]
  · rw [if_neg e, if_neg e, he j hj]
theorem setOther (h : RowC w g t n F) {a : Addr} (ha : g ≠ a.block) (v : Value) : RowC (w.setCell a v) g t n F := h.of_block (Deep.blk_setCell_other _ _ _ _ ha)
theorem alloc (h : RowC w g t n F) (o : Obj) : RowC (w.alloc o) g t n F := h.of_block (Deep.blk_alloc_lt _ _ _ h.lt)
theorem drew (h : RowC w g t n F) : RowC w.drew g t n F := h
theorem below {w' : World} (h : RowC w g t n F) (hb : Below w.heap.size w w') : RowC w' g t n F := h.of_block (hb.block g h.lt)
theorem ne {g' : Nat} {t' : TypeId} {n' : Nat} {F2 : Nat → Value} (h : RowC w g t n F) (h' : RowC w g' t' n' F2) (ht : t ≠ t') : g ≠ g' := fun e => by
  obtain ⟨_, _, ⟨c, h1, _, _⟩, _, _⟩ := h
  obtain ⟨_, _, ⟨c', h2, _, _⟩, _, _⟩ := h'
  rw [e, h2] at h1
  cases h1
  exact ht rfl
end RowC
theorem rowC_of {w : World} {g : Nat} {t : TypeId} {n : Nat} {F : Nat → Value} (h : w.rowIs g t n F) : RowC w g t n F := ⟨n, F, h, Nat.le_refl _, fun _ _ => rfl⟩

/-- What is appended to lies in a block of its own. -/
theorem rowC_owns {w : World} {N : Nat} {t : TypeId} {v : Value} {n : Nat} {xs : List Value} (h : w.ownsRow N t 1 v n xs) (hn : 1 ≤ n) :
    ∃ g cap, v = .slice (some ⟨g, 0, none⟩) n cap ∧ N ≤ g ∧ n ≤ cap ∧ RowC w g t n (fun j => xs.getD j (.slice none 0 0)) := by
  obtain ⟨hl, h⟩ := h
  rcases h with ⟨_, h0⟩ | ⟨g, cap, cur, hv, hN, hg, hc, _, hs, ht⟩
  · omega
  · refine ⟨g, cap, hv, hN, hc, cur.size, fun j => cur.getD j (.slice none 0 0), ⟨cur, hg, rfl, fun i hi => by simp [hi]⟩, by omega, fun j hj => ?_⟩
    have hj' : j < cur.size := by omega
    have : xs[j]? = cur[j]? := by
      rw [← ht, List.getElem?_take, if_pos (by omega)]
      simp
    simp [List.getD, this, hj']

theorem grown_of_below {w w' : World} (h : Below w.heap.size w w') (row : Option Nat) : w.grownBy w' row := ⟨h.os, h.tape, h.output, h.size, fun k hk _ => h.block k hk⟩
theorem owns_below {w w' : World} {N : Nat} {t : TypeId} {s : Nat} {v : Value} {n : Nat} {xs : List Value} (h : w.ownsRow N t s v n xs) (hb : Below w.heap.size w w') : w'.ownsRow N t s v n xs :=
  h.kept (grown_of_below hb none) (by cases hv : v.ownBlock <;> simp)
theorem owns_block {w : World} {N : Nat} {t : TypeId} {v : Value} {n x : Nat} {xs : List Value} (h : w.ownsRow N t 1 v n xs) (hx : v.ownBlock = some x) : ∃ F, RowC w x t 0 F := by
  rcases h.2 with ⟨rfl, _⟩ | ⟨g, cap, cur, rfl, _, hg, _⟩
  · simp [Value.ownBlock] at hx
  · simp [Value.ownBlock] at hx
    subst hx
    exact ⟨fun j => cur.getD j (.slice none 0 0), cur.size, fun j => cur.getD j (.slice none 0 0), ⟨cur, hg, rfl, fun i hi => by simp [hi]⟩, Nat.zero_le _, fun j hj => absurd hj (Nat.not_lt_zero j)⟩
theorem bytes_getD (f : Nat → Nat) (c i : Nat) (h : i < c) : ((List.range c).map fun k => (f k : Int)).getD i 0 = (f i : Int) := by
  simp [List.getD, h]

/-- A bool is told that says whether P. -/
def Tell (e : Ending) (P : Prop) : Prop := ∃ y : Bool, e = .returned (.bool y) ∧ (y = true ↔ P)
theorem tell_of {y : Bool} {P : Prop} (h : y = true ↔ P) : Tell (.returned (.bool y)) P := ⟨y, rfl, h⟩
theorem tell_yes {P : Prop} (h : P) : Tell (.returned (.bool true)) P := ⟨true, rfl, ⟨fun _ => h, fun _ => rfl⟩⟩
theorem tell_no {P : Prop} (h : ¬ P) : Tell (.returned (.bool false)) P := ⟨false, rfl, ⟨fun h => absurd h (by decide), fun h' => absurd h' h⟩⟩

theorem str_list (c : Nat) (f : Nat → Nat) : (strOfNums ((List.range c).map fun k => (f k : Int))).toList = (List.range c).map fun k => UInt8.ofNat (f k) := by
  rw [Lib.strOfNums_toList]
  unfold Lib.bytesOf
  rw [List.map_map]
  rfl
/-- A list of n bytes. -/
structure Byts (w : World) (v : Value) (n : Nat) (f : Nat → Nat) : Prop where
  bd : Bd f
  lies : ∃ (A : Option Addr) (cap : Nat), v = .slice A n cap ∧ n ≤ cap ∧ cap ≤ maxLen ∧ ∀ i, i < n → ∃ b o, A = some ⟨b, o, none⟩ ∧ w.cell? ⟨b, o + i, none⟩ = some (.int .u8 (f i : Nat))
theorem Byts.below {w w' : World} {v : Value} {n : Nat} {f : Nat → Nat} (h : Byts w v n f) (hb : Below w.heap.size w w') : Byts w' v n f := by
  obtain ⟨bd, A, cap, hv, h1, h2, hc⟩ := h
  refine ⟨bd, A, cap, hv, h1, h2, fun i hi => ?_⟩
  obtain ⟨b, o, e1, e2⟩ := hc i hi
  exact ⟨b, o, e1, (hb.cell (p := ⟨b, o + i, none⟩) (World.block_lt_of_cell? _ _ e2)).trans e2⟩
theorem Byts.nil (w : World) : Byts w (.slice none 0 0) 0 (fun _ => 0) := ⟨fun _ => Nat.zero_lt_succ 255, none, 0, rfl, Nat.le_refl _, Nat.zero_le _, fun i hi => absurd hi (Nat.not_lt_zero i)⟩
theorem Byts.len {w : World} {v : Value} {n : Nat} {f : Nat → Nat} (h : Byts w v n f) : n ≤ 9223372036854775807 := by
  obtain ⟨_, A, cap, _, h1, h2, _⟩ := h
  unfold maxLen at h2
  omega
/-- Where there is a byte there is a place. -/
theorem Byts.some {w : World} {v : Value} {n : Nat} {f : Nat → Nat} (h : Byts w v n f) (hn : 1 ≤ n) :
    ∃ b o cap, v = .slice (some ⟨b, o, none⟩) n cap ∧ n ≤ cap ∧ cap ≤ 9223372036854775807 ∧ ∀ i, i < n → w.cell? ⟨b, o + i, none⟩ = some (.int .u8 (f i : Nat)) := by
  obtain ⟨_, A, cap, hv, h1, h2, hc⟩ := h
  obtain ⟨b, o, rfl, _⟩ := hc 0 hn
  refine ⟨b, o, cap, hv, h1, by unfold maxLen at h2; exact h2, fun i hi => ?_⟩
  obtain ⟨b', o', e1, e2⟩ := hc i hi
  cases e1
  exact e2
theorem Byts.zero {w : World} {v : Value} {f : Nat → Nat} (h : Byts w v 0 f) : ∃ A cap, v = .slice A 0 cap := by
  obtain ⟨_, A, cap, hv, _⟩ := h
  exact ⟨A, cap, hv⟩
/-- Bytes in a block of the call's own. -/
theorem byts_of_row {w : World} {g n cap : Nat} {f : Nat → Nat} (hf : Bd f) (h : RowC w g 5 n (fun j => .int .u8 (f j : Nat))) (h1 : n ≤ cap) (h2 : cap ≤ maxLen) : Byts w (.slice (some ⟨g, 0, none⟩) n cap) n f :=
  ⟨hf, some ⟨g, 0, none⟩, cap, rfl, h1, h2, fun i hi => ⟨g, 0, rfl, by rw [Nat.zero_add]; exact h.cell hi⟩⟩

theorem i64_or (A B : Nat) (h2 : A < 9223372036854775808) (h4 : B < 9223372036854775808) : bits .or .i64 (A : Int) (B : Int) = ((A ||| B : Nat) : Int) := by
  have hx : A ||| B < 2 ^ 63 := Nat.or_lt_two_pow (by omega) (by omega)
  show IntKind.i64.wrap ((BitVec.ofInt 64 (A : Int) ||| BitVec.ofInt 64 (B : Int)).toNat : Int) = _
  rw [BitVec.toNat_or, ofInt_u64 A (by omega), ofInt_u64 B (by omega), IntKind.wrap_i64]
  omega
theorem bdn {B : Nat} {a w : World} (h : Below B a w) (m : Nat) : Below B a (w.drewN m) := ⟨h.os, h.tape, h.output, h.size, h.block⟩
end Go.Proofs.YtldjieplbeflfaaGreat

/-
  The plain arithmetic of bytes as polynomials: products, inverses and powers. Nothing of the program is named here.
-/
namespace Go.Proofs.YtldjieplbeflfaaGreat.Gf

/-- A byte times x. -/
def tx (a : Nat) : Nat := if a / 128 = 0 then a * 2 % 256 else (a * 2 % 256) ^^^ 29
theorem tx_lt (a : Nat) : tx a < 256 := by
  unfold tx
  split
  · omega
  · exact Nat.xor_lt_two_pow (n := 8) (by omega) (by omega)

/-- A byte times x to the k. -/
def txk : Nat → Nat → Nat
  | 0, a => a
  | k + 1, a => tx (txk k a)
theorem txk_lt {a : Nat} (h : a < 256) : (k : Nat) → txk k a < 256
  | 0 => h
  | _ + 1 => tx_lt _

/-- What bit k of b asks for. -/
def sel (b k x : Nat) : Nat := if b / 2 ^ k % 2 = 1 then x else 0
theorem sel_lt {x : Nat} (b k : Nat) (h : x < 256) : sel b k x < 256 := by
  unfold sel
  split <;> omega

/-- The product by the first k bits of b. -/
def mulTo (a b : Nat) : Nat → Nat
  | 0 => 0
  | k + 1 => mulTo a b k ^^^ sel b k (txk k a)
theorem mulTo_lt {a : Nat} (b : Nat) (h : a < 256) : (k : Nat) → mulTo a b k < 256
  | 0 => Nat.zero_lt_succ 255
  | k + 1 => Nat.xor_lt_two_pow (n := 8) (mulTo_lt b h k) (sel_lt b k (txk_lt h k))

def mul (a b : Nat) : Nat := mulTo a b 8
theorem mul_lt {a : Nat} (b : Nat) (h : a < 256) : mul a b < 256 := mulTo_lt b h 8

/-- The same on Int, as a walk meets them. -/
def txI (a : Int) : Int := (tx a.toNat : Nat)
def txkI (k : Nat) (a : Int) : Int := (txk k a.toNat : Nat)
def mulToI (a b : Int) (k : Nat) : Int := (mulTo a.toNat b.toNat k : Nat)
def mulI (a b : Int) : Int := (mul a.toNat b.toNat : Nat)

theorem txI_bd (a : Int) : 0 ≤ txI a ∧ txI a ≤ 255 := by
  have := tx_lt a.toNat
  unfold txI
  omega
theorem txkI_bd (k : Nat) (a : Int) (h0 : 0 ≤ a) (h1 : a ≤ 255) : 0 ≤ txkI k a ∧ txkI k a ≤ 255 := by
  have := txk_lt (a := a.toNat) (by omega) k
  unfold txkI
  omega
theorem txkI_zero (a : Int) (h0 : 0 ≤ a) : txkI 0 a = a := by
  unfold txkI txk
  omega
theorem txkI_succ (k : Nat) (a : Int) : txkI (k + 1) a = txI (txkI k a) := by
  unfold txkI txI
  rw [Int.toNat_natCast]
  rfl
theorem mulToI_bd (a b : Int) (k : Nat) (h0 : 0 ≤ a) (h1 : a ≤ 255) : 0 ≤ mulToI a b k ∧ mulToI a b k ≤ 255 := by
  have := mulTo_lt (a := a.toNat) b.toNat (by omega) k
  unfold mulToI
  omega
theorem mulToI_yes (a b : Int) (k : Nat) (hb : b.toNat / 2 ^ k % 2 = 1) : mulToI a b (k + 1) = (((mulToI a b k).toNat ^^^ (txkI k a).toNat : Nat) : Int) := by
  unfold mulToI txkI
  rw [Int.toNat_natCast, Int.toNat_natCast]
  show ((mulTo a.toNat b.toNat k ^^^ sel b.toNat k (txk k a.toNat) : Nat) : Int) = _
  unfold sel
  rw [if_pos hb]
theorem mulToI_no (a b : Int) (k : Nat) (hb : ¬ b.toNat / 2 ^ k % 2 = 1) : mulToI a b (k + 1) = mulToI a b k := by
  unfold mulToI
  show ((mulTo a.toNat b.toNat k ^^^ sel b.toNat k (txk k a.toNat) : Nat) : Int) = _
  unfold sel
  rw [if_neg hb, Nat.xor_zero]

/-- A byte, squared k times. -/
def sqk : Nat → Nat → Nat
  | 0, a => a
  | k + 1, a => mul (sqk k a) (sqk k a)
theorem sqk_lt {a : Nat} (h : a < 256) : (k : Nat) → sqk k a < 256
  | 0 => h
  | k + 1 => mul_lt _ (sqk_lt h k)
/-- The product of the squares that the first k bits of n ask for. -/
def raiseTo (a n : Nat) : Nat → Nat
  | 0 => 1
  | k + 1 => if n / 2 ^ k % 2 = 1 then mul (raiseTo a n k) (sqk k a) else raiseTo a n k
theorem raiseTo_lt (a n : Nat) : (k : Nat) → raiseTo a n k < 256
  | 0 => Nat.lt_of_sub_pos (Nat.zero_lt_succ 254)
  | k + 1 => by
    unfold raiseTo
    split
    · exact mul_lt _ (raiseTo_lt a n k)
    · exact raiseTo_lt a n k
def raise (a n : Nat) : Nat := raiseTo a n 8
theorem raise_lt (a n : Nat) : raise a n < 256 := raiseTo_lt a n 8

def sqkI (k : Nat) (a : Int) : Int := (sqk k a.toNat : Nat)
def raiseToI (a n : Int) (k : Nat) : Int := (raiseTo a.toNat n.toNat k : Nat)
def raiseI (a n : Int) : Int := (raise a.toNat n.toNat : Nat)
theorem sqkI_bd (k : Nat) (a : Int) (h0 : 0 ≤ a) (h1 : a ≤ 255) : 0 ≤ sqkI k a ∧ sqkI k a ≤ 255 := by
  have := sqk_lt (a := a.toNat) (by omega) k
  unfold sqkI
  omega
theorem sqkI_zero (a : Int) (h0 : 0 ≤ a) : sqkI 0 a = a := by
  unfold sqkI sqk
  omega
theorem sqkI_succ (k : Nat) (a : Int) : sqkI (k + 1) a = mulI (sqkI k a) (sqkI k a) := by
  unfold sqkI mulI
  rw [Int.toNat_natCast]
  rfl
theorem raiseToI_bd (a n : Int) (k : Nat) : 0 ≤ raiseToI a n k ∧ raiseToI a n k ≤ 255 := by
  have := raiseTo_lt a.toNat n.toNat k
  unfold raiseToI
  omega
theorem raiseToI_yes (a n : Int) (k : Nat) (h : n.toNat / 2 ^ k % 2 = 1) : raiseToI a n (k + 1) = mulI (raiseToI a n k) (sqkI k a) := by
  unfold raiseToI mulI sqkI
  rw [Int.toNat_natCast, Int.toNat_natCast]
  show ((if n.toNat / 2 ^ k % 2 = 1 then mul (raiseTo a.toNat n.toNat k) (sqk k a.toNat) else raiseTo a.toNat n.toNat k : Nat) : Int) = _
  rw [if_pos h]
theorem raiseToI_no (a n : Int) (k : Nat) (h : ¬ n.toNat / 2 ^ k % 2 = 1) : raiseToI a n (k + 1) = raiseToI a n k := by
  unfold raiseToI
  show ((if n.toNat / 2 ^ k % 2 = 1 then mul (raiseTo a.toNat n.toNat k) (sqk k a.toNat) else raiseTo a.toNat n.toNat k : Nat) : Int) = _
  rw [if_neg h]

end Go.Proofs.YtldjieplbeflfaaGreat.Gf
