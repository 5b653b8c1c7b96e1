/-
  Texts of the proof, joined: HPutA.
-/
import Derived.Test.YtmcaejooaaahdaaGreatZ41
import Derived.BigQuiet
namespace Go.Proofs.YtmcaejooaaahdaaGreat
open Go.RowKit

/-! ### What is handed in, what comes -/
def doCells (d : Sto.Do) (ve : Value) (t : ByteArray) : List Value := [.int .i64 d.kind, .int .i64 d.n, .int .i64 d.seg, .int .i64 d.pos, .int .u8 (d.turn : Int), .int .i64 d.bat.cmd, ve, .string t, .int .i64 d.ver]
/-- A thing to do, as it came. -/
structure DoIn (w : World) (d : Sto.Do) (ve : Value) (t : ByteArray) : Prop where
  evs : Evs w ve d.bat.evs
  name : nb t = d.name
  sz : t.size ≤ 9223372036854775807
  byte : d.turn < 256
theorem DoIn.below {w w' : World} {d : Sto.Do} {ve : Value} {t : ByteArray} (h : DoIn w d ve t) (hb : Below w.heap.size w w') : DoIn w' d ve t := ⟨h.evs.below hb, h.name, h.sz, h.byte⟩
/-- An answer, and the store then. -/
def DoO (e : Ending) (w w' : World) (N R : Nat) (F E : Nat → Prop) (c : Sto.Cfg) (r : Sto.St × Sto.Ans) : Prop := ∃ v F' E', e = .returned v ∧ StAt w' N R F' E' c r.1 ∧ Frame w w' F F' E E' ∧ AnsV w' E' v r.2
/-- Under way: nothing of the store has turned. -/
structure PW (w wX : World) (N R : Nat) (F E : Nat → Prop) (c : Sto.Cfg) (s : Sto.St) (D : Nat) (V : Nat → Value) (U : Nat → List HeC) (vt vs va : Value) (tc : List (Int × Sl)) (d : Sto.Do) (ve : Value) (t : ByteArray) : Prop where
  st : StP wX N R F E c s D V U vt vs va tc
  bel : Below w.heap.size w wX
  vd : VarN wX w.heap.size 49 (doCells d ve t)
  va : VarN wX (w.heap.size + 1) 42 (ansC 0 0).toList
  din : DoIn wX d ve t
  lt : ∀ k, F k ∨ E k → k < w.heap.size
section
variable {w wX w' : World} {N R D : Nat} {F E : Nat → Prop} {c : Sto.Cfg} {s : Sto.St} {V : Nat → Value} {U : Nat → List HeC} {vt vs va : Value} {tc : List (Int × Sl)} {d : Sto.Do} {ve : Value} {t : ByteArray}
theorem PW.below (h : PW w wX N R F E c s D V U vt vs va tc d ve t) (hb : Below wX.heap.size wX w') : PW w w' N R F E c s D V U vt vs va tc d ve t := ⟨h.st.below hb, bt h.bel hb, h.vd.below hb, h.va.below hb, h.din.below hb, h.lt⟩
theorem pw_start (h : StP w N R F E c s D V U vt vs va tc) (hd : DoIn w d ve t) : PW w ((w.alloc (.cells (doCells d ve t).toArray 49)).alloc (.cells (ansC 0 0) 42)) N R F E c s D V U vt vs va tc d ve t := by
  have b1 : Below w.heap.size w (w.alloc (.cells (doCells d ve t).toArray 49)) := (Below.refl _ _).alloc (Nat.le_refl _) _
  have b2 : Below (w.alloc (.cells (doCells d ve t).toArray 49)).heap.size (w.alloc (.cells (doCells d ve t).toArray 49)) ((w.alloc (.cells (doCells d ve t).toArray 49)).alloc (.cells (ansC 0 0) 42)) := (Below.refl _ _).alloc (Nat.le_refl _) _
  have V1 := varN_new (w.alloc (.cells (doCells d ve t).toArray 49)) (ansC 0 0) 42
  rw [show (w.alloc (.cells (doCells d ve t).toArray 49)).heap.size = w.heap.size + 1 by simp] at V1
  exact ⟨h.below (bt b1 b2), bt b1 b2, (varN_new w (doCells d ve t).toArray 49).below b2, V1, hd.below (bt b1 b2), fun k hk => (show StAt w N R F E c s from ⟨_, _, _, _, _, _, _, h⟩).lt hk⟩
theorem PW.same (h : PW w wX N R F E c s D V U vt vs va tc d ve t) (ho : Off (fun k => k = w.heap.size + 1) wX w') (x : Nat) (n : Int) : DoO (.returned (ansVal (x : Nat) n)) w w' N R F E c (s, ⟨x, n, [], 0, []⟩) :=
  ⟨_, F, E, rfl, ⟨_, _, _, _, _, _, _, h.st.out ho fun k e => ⟨fun z => by
    have := h.lt k (Or.inl z)
    omega, fun z => by
    have := h.lt k (Or.inr z)
    omega⟩⟩, Frame.of_below F E (h.bel.trans (ho.below h.bel.size fun k e => by omega)), ansV_plain _ _ _ _⟩
end

/-- A number was put in among others, and the variable written. -/
def InsS (wi wx : World) (N R : Nat) (v : Value) (es : List Int) : Prop := ∃ w9 v9, wx = w9.setCell ⟨R, 6, none⟩ v9 ∧ w9.ownsRow N 3 1 v9 es.length (es.flatMap inCells) ∧ Off (fun k => v.ownBlock = some k) wi w9 ∧ (v9.ownBlock = v.ownBlock ∨ ∀ g, v9.ownBlock = some g → wi.heap.size ≤ g)

/-! ### What keep leaves -/
theorem keepS_bad {X : Sto.Six} {c : Sto.Cfg} {s : Sto.St} {b : Evt.Bat} (h : (keepS X c s b).1 ≠ 0) : (keepS X c s b).2 = s := by
  unfold keepS at h ⊢
  by_cases h1 : (s.tail ++ [b]).length < c.b
  · rw [if_pos h1] at h
    exact absurd rfl h
  · rw [if_neg h1] at h ⊢
    by_cases h2 : (Evt.wrongL (s.tail ++ [b])).1 ≠ 0
    · rw [if_pos h2]
    · rw [if_neg h2] at h ⊢
      by_cases h3 : (X.lay (Evt.encL (s.tail ++ [b])) s.segs c).1 ≠ 0
      · rw [if_pos h3]
      · rw [if_neg h3] at h
        exact absurd rfl h
theorem keepS_same (X : Sto.Six) (c : Sto.Cfg) (s : Sto.St) (b : Evt.Bat) : (keepS X c s b).2.seen = s.seen ∧ (keepS X c s b).2.u = s.u ∧ (keepS X c s b).2.acc = s.acc := by
  unfold keepS
  split
  · exact ⟨rfl, rfl, rfl⟩
  · split
    · exact ⟨rfl, rfl, rfl⟩
    · split
      · exact ⟨rfl, rfl, rfl⟩
      · exact ⟨rfl, rfl, rfl⟩
/-! ### The store's variable is written -/
section
variable {w w' : World} {N R D : Nat} {F E : Nat → Prop} {c : Sto.Cfg} {s s' : Sto.St} {V : Nat → Value} {U : Nat → List HeC} {vt vs va vs' va' : Value} {tc : List (Int × Sl)}
theorem StP.putS (h : StP w N R F E c s D V U vt vs va tc) (ho : Off (fun k => k = R ∨ vs.ownBlock = some k) w w') (hd : s'.disks = s.disks) (ht : s'.tail = s.tail) (hvar : VarN w' R 45 (stCells c D s'.disks.length s'.segs vt vs' s'.u va'))
    (hseen : w'.ownsRow N 3 1 vs' s'.seen.length (s'.seen.flatMap inCells)) (hat : vs'.ownBlock = vs.ownBlock ∨ ∀ g, vs'.ownBlock = some g → w.heap.size ≤ g) (hacc : Accs w' va' s'.acc) (hgF : ∀ g, va'.ownBlock = some g → ¬ F g ∧ g < w.heap.size) (hwf : WfS c s') :
    StP w' N R (fun k => F k ∨ vs'.ownBlock = some k) (fun k => E k ∨ va'.ownBlock = some k) c s' D V U vt vs' va' tc := by
  have hS : ∀ k, (k = R ∨ vs.ownBlock = some k) → F k ∧ ∃ t, TyB w k t ∧ (t = 45 ∨ t = 3) := fun k q => by
    rcases q with rfl | q
    · exact ⟨h.fR, _, h.var.ty, Or.inl rfl⟩
    · exact ⟨h.fS k q, _, owns_ty h.seen q, Or.inr rfl⟩
  have hkE : ∀ k, k < w.heap.size → E k → w'.heap[k]? = w.heap[k]? := fun k hk he => ho.block k hk fun q => (h.dis k he).1 (hS k q).1
  have hdk : DkAt w' N D V U s.disks := h.dk.off ho fun k q => by
    obtain ⟨_, t, ht, z⟩ := hS k q
    rcases z with rfl | rfl
    · exact ⟨_, ht, by decide, by decide, by decide⟩
    · exact ⟨_, ht, by decide, by decide, by decide⟩
  have htl : TlAt w' N (fun k => E k ∨ va'.ownBlock = some k) vt tc s.tail := h.tail.move hkE (fun _ _ q => Or.inl q) ho fun g hg q => by
    obtain ⟨_, t, ht, z⟩ := hS g q
    rcases z with rfl | rfl
    · exact ht.ne (owns_ty h.tail.own hg) (by decide) rfl
    · exact ht.ne (owns_ty h.tail.own hg) (by decide) rfl
  have hvl : ∀ k, vs'.ownBlock = some k → F k ∨ w.heap.size ≤ k := fun k q => by
    rcases hat with z | z
    · rw [z] at q
      exact Or.inl (h.fS k q)
    · exact Or.inr (z k q)
  refine ⟨hvar, h.ge, by rw [hd]; exact hdk, by rw [ht]; exact htl, hseen, ⟨hacc, fun g hg _ => Or.inr hg⟩, Or.inl h.fR, Or.inl h.fD, fun i g hi hg => Or.inl (h.fV i g (by rw [← hd]; exact hi) hg), fun i x g hi hx hg => Or.inl (h.fU i x g (by rw [← hd]; exact hi) hx hg), fun g hg => Or.inl (h.fT g hg), fun g hg => Or.inr hg, fun k q => ?_, fun k q => ?_, hwf⟩
  · rcases q with q | q
    · exact ⟨(h.lt k q).1, Nat.lt_of_lt_of_le (h.lt k q).2 ho.size⟩
    · exact hseen.lt k q
  · rcases q with q | q
    · refine ⟨fun z => ?_, Nat.lt_of_lt_of_le (h.dis k q).2 ho.size⟩
      rcases z with z | z
      · exact (h.dis k q).1 z
      · rcases hvl k z with z | z
        · exact (h.dis k q).1 z
        · exact absurd (h.dis k q).2 (Nat.not_lt.2 z)
    · refine ⟨fun z => ?_, Nat.lt_of_lt_of_le (hgF k q).2 ho.size⟩
      rcases z with z | z
      · exact (hgF k q).1 z
      · rcases hvl k z with z | z
        · exact (hgF k q).1 z
        · exact absurd (hgF k q).2 (Nat.not_lt.2 z)
end

/-! ### Regions -/
theorem keepW {R B i j k : Nat} {x y z : Value} {w0 wX w3 : World} (b3 : Below wX.heap.size wX w3) (h : wX.cell? ⟨R, i, none⟩ = some x ∧ wX.cell? ⟨R, j, none⟩ = some y ∧ wX.cell? ⟨B, k, none⟩ = some z ∧ Below w0.heap.size w0 wX) : w3.cell? ⟨R, i, none⟩ = some x ∧ w3.cell? ⟨R, j, none⟩ = some y ∧ w3.cell? ⟨B, k, none⟩ = some z ∧ Below w0.heap.size w0 w3 :=
  ⟨(b3.cell (p := ⟨R, i, none⟩) (World.block_lt_of_cell? _ _ h.1)).trans h.1, (b3.cell (p := ⟨R, j, none⟩) (World.block_lt_of_cell? _ _ h.2.1)).trans h.2.1, (b3.cell (p := ⟨B, k, none⟩) (World.block_lt_of_cell? _ _ h.2.2.1)).trans h.2.2.1, bt h.2.2.2 b3⟩
theorem keepWa {R B i j k : Nat} {x y z : Value} {w0 wX : World} {o : Obj} (h : wX.cell? ⟨R, i, none⟩ = some x ∧ wX.cell? ⟨R, j, none⟩ = some y ∧ wX.cell? ⟨B, k, none⟩ = some z ∧ Below w0.heap.size w0 wX) : (wX.alloc o).cell? ⟨R, i, none⟩ = some x ∧ (wX.alloc o).cell? ⟨R, j, none⟩ = some y ∧ (wX.alloc o).cell? ⟨B, k, none⟩ = some z ∧ Below w0.heap.size w0 (wX.alloc o) :=
  keepW ((Below.refl _ _).alloc (Nat.le_refl _) o) h
theorem keepWd {R B i j k : Nat} {x y z : Value} {w0 wX : World} {o : Obj} (h : wX.drew.cell? ⟨R, i, none⟩ = some x ∧ wX.drew.cell? ⟨R, j, none⟩ = some y ∧ wX.drew.cell? ⟨B, k, none⟩ = some z ∧ Below w0.heap.size w0 wX.drew) : (wX.alloc o).drew.cell? ⟨R, i, none⟩ = some x ∧ (wX.alloc o).drew.cell? ⟨R, j, none⟩ = some y ∧ (wX.alloc o).drew.cell? ⟨B, k, none⟩ = some z ∧ Below w0.heap.size w0 (wX.alloc o).drew :=
  keepW (w3 := (wX.alloc o).drew) (show Below wX.drew.heap.size wX.drew (wX.drew.alloc o) from (Below.refl wX.drew.heap.size wX.drew).alloc (Nat.le_refl _) o) h
theorem keepWs {R B G i j k : Nat} {x y z a b : Value} {w0 wX : World} (h : wX.cell? ⟨R, i, none⟩ = some x ∧ wX.cell? ⟨R, j, none⟩ = some y ∧ wX.cell? ⟨B, k, none⟩ = some z ∧ Below w0.heap.size w0 wX) (hR : R < G) (hB : B < G) (hw : w0.heap.size ≤ G) : ((wX.setCell ⟨G, 0, none⟩ a).setCell ⟨G, 1, none⟩ b).cell? ⟨R, i, none⟩ = some x ∧ ((wX.setCell ⟨G, 0, none⟩ a).setCell ⟨G, 1, none⟩ b).cell? ⟨R, j, none⟩ = some y ∧ ((wX.setCell ⟨G, 0, none⟩ a).setCell ⟨G, 1, none⟩ b).cell? ⟨B, k, none⟩ = some z ∧ Below w0.heap.size w0 ((wX.setCell ⟨G, 0, none⟩ a).setCell ⟨G, 1, none⟩ b) := by
  obtain ⟨h0, h1, h2, hb⟩ := h
  have e1 : R ≠ G := by omega
  have e2 : G ≠ R := by omega
  have e3 : B ≠ G := by omega
  have e4 : G ≠ B := by omega
  exact ⟨by go_simp, by go_simp, by go_simp, (hb.setCell hw _).setCell hw _⟩
theorem keepB {R B i k : Nat} {x z : Value} {wX w3 : World} (b3 : Below wX.heap.size wX w3) (h : wX.cell? ⟨R, i, none⟩ = some x ∧ wX.cell? ⟨B, k, none⟩ = some z) : w3.cell? ⟨R, i, none⟩ = some x ∧ w3.cell? ⟨B, k, none⟩ = some z :=
  ⟨(b3.cell (p := ⟨R, i, none⟩) (World.block_lt_of_cell? _ _ h.1)).trans h.1, (b3.cell (p := ⟨B, k, none⟩) (World.block_lt_of_cell? _ _ h.2)).trans h.2⟩
theorem twoB {w0 wX : World} {F : Nat} (hb : Below w0.heap.size w0 wX) (hF : w0.heap.size ≤ F) (a b : Value) : Below w0.heap.size w0 ((wX.setCell ⟨F, 0, none⟩ a).setCell ⟨F, 1, none⟩ b) := (hb.setCell hF _).setCell hF _
theorem offB (w : World) (B : Nat) (p q : Value) : Off (fun k => k = B) w ((w.setCell ⟨B, 0, none⟩ p).setCell ⟨B, 1, none⟩ q) := ((Off.refl (fun k => k = B) w).set (p := ⟨B, 0, none⟩) rfl p).set (p := ⟨B, 1, none⟩) rfl q
/-- Two variables are made, and written, ahead of a call or behind it. -/
theorem twoA {w0 w7 : World} {t t' : TypeId} {p q c d v : Value} {l : List Vw.Acc} (A7 : Accs w7 v l) (hb : Below w0.heap.size w0 w7) :
    VarF ((w7.alloc (.cells #[p, q] t)).alloc (.cells #[c, d] t')) w7.heap.size p q ∧ VarF ((w7.alloc (.cells #[p, q] t)).alloc (.cells #[c, d] t')) (w7.heap.size + 1) c d ∧ Accs ((w7.alloc (.cells #[p, q] t)).alloc (.cells #[c, d] t')) v l ∧ Below w0.heap.size w0 ((w7.alloc (.cells #[p, q] t)).alloc (.cells #[c, d] t')) := by
  have b1 : Below w7.heap.size w7 (w7.alloc (.cells #[p, q] t)) := (Below.refl _ _).alloc (Nat.le_refl _) _
  have b2 : Below (w7.alloc (.cells #[p, q] t)).heap.size (w7.alloc (.cells #[p, q] t)) ((w7.alloc (.cells #[p, q] t)).alloc (.cells #[c, d] t')) := (Below.refl _ _).alloc (Nat.le_refl _) _
  have h := varF_new (w7.alloc (.cells #[p, q] t)) t' c d
  rw [show (w7.alloc (.cells #[p, q] t)).heap.size = w7.heap.size + 1 by simp] at h
  exact ⟨(varF_new w7 t p q).below b2, h, A7.below (bt b1 b2), bt hb (bt b1 b2)⟩
theorem oneA {w0 w7 : World} {B : Nat} {t : TypeId} {a b p q c d v : Value} {l : List Vw.Acc} (W7 : VarF w7 B a b) (A7 : Accs w7 v l) (P7 : Past (B + 1) v) (hb : Below w0.heap.size w0 w7) (hB : w0.heap.size ≤ B) :
    VarF (((w7.setCell ⟨B, 0, none⟩ p).setCell ⟨B, 1, none⟩ q).alloc (.cells #[c, d] t)) B p q ∧ VarF (((w7.setCell ⟨B, 0, none⟩ p).setCell ⟨B, 1, none⟩ q).alloc (.cells #[c, d] t)) w7.heap.size c d ∧ Accs (((w7.setCell ⟨B, 0, none⟩ p).setCell ⟨B, 1, none⟩ q).alloc (.cells #[c, d] t)) v l ∧ Below w0.heap.size w0 (((w7.setCell ⟨B, 0, none⟩ p).setCell ⟨B, 1, none⟩ q).alloc (.cells #[c, d] t)) := by
  have hs : ((w7.setCell ⟨B, 0, none⟩ p).setCell ⟨B, 1, none⟩ q).heap.size = w7.heap.size := by rw [Deep.nblk_setCell, Deep.nblk_setCell]
  have ba : Below ((w7.setCell ⟨B, 0, none⟩ p).setCell ⟨B, 1, none⟩ q).heap.size ((w7.setCell ⟨B, 0, none⟩ p).setCell ⟨B, 1, none⟩ q) (((w7.setCell ⟨B, 0, none⟩ p).setCell ⟨B, 1, none⟩ q).alloc (.cells #[c, d] t)) := (Below.refl _ _).alloc (Nat.le_refl _) _
  have h1 := varF_new ((w7.setCell ⟨B, 0, none⟩ p).setCell ⟨B, 1, none⟩ q) t c d
  rw [hs] at h1
  exact ⟨(W7.set2 p q).below ba, h1, (A7.off (offB w7 B p q) (fun g hg e => by have := P7 g hg; omega)).below ba, bt (twoB hb hB p q) ba⟩
theorem noA {w0 w7 : World} {B G N : Nat} {a b a' b' p q c d v : Value} {l : List Vw.Acc} (W7 : VarF w7 B a b) (W8 : VarF w7 G a' b') (A7 : Accs w7 v l) (P7 : Past N v) (hb : Below w0.heap.size w0 w7) (hB : w0.heap.size ≤ B) (hG : w0.heap.size ≤ G) (hBG : B ≠ G) (hBN : B < N) (hGN : G < N) :
    VarF ((((w7.setCell ⟨B, 0, none⟩ p).setCell ⟨B, 1, none⟩ q).setCell ⟨G, 0, none⟩ c).setCell ⟨G, 1, none⟩ d) B p q ∧ VarF ((((w7.setCell ⟨B, 0, none⟩ p).setCell ⟨B, 1, none⟩ q).setCell ⟨G, 0, none⟩ c).setCell ⟨G, 1, none⟩ d) G c d ∧ Accs ((((w7.setCell ⟨B, 0, none⟩ p).setCell ⟨B, 1, none⟩ q).setCell ⟨G, 0, none⟩ c).setCell ⟨G, 1, none⟩ d) v l ∧ Below w0.heap.size w0 ((((w7.setCell ⟨B, 0, none⟩ p).setCell ⟨B, 1, none⟩ q).setCell ⟨G, 0, none⟩ c).setCell ⟨G, 1, none⟩ d) :=
  ⟨(W7.set2 p q).off (offB _ G c d) hBG, (W8.off (offB w7 B p q) (fun e => hBG e.symm)).set2 c d, (A7.off (offB w7 B p q) (fun g hg e => by have := P7 g hg; omega)).off (offB _ G c d) (fun g hg e => by have := P7 g hg; omega), twoB (twoB hb hB p q) hG c d⟩

theorem keepF {R B i j k l : Nat} {x y z u : Value} {w0 wX w3 : World} (b3 : Below wX.heap.size wX w3) (h : wX.cell? ⟨R, i, none⟩ = some x ∧ wX.cell? ⟨R, j, none⟩ = some y ∧ wX.cell? ⟨B, k, none⟩ = some z ∧ wX.cell? ⟨B, l, none⟩ = some u ∧ Below w0.heap.size w0 wX) : w3.cell? ⟨R, i, none⟩ = some x ∧ w3.cell? ⟨R, j, none⟩ = some y ∧ w3.cell? ⟨B, k, none⟩ = some z ∧ w3.cell? ⟨B, l, none⟩ = some u ∧ Below w0.heap.size w0 w3 :=
  ⟨(b3.cell (p := ⟨R, i, none⟩) (World.block_lt_of_cell? _ _ h.1)).trans h.1, (b3.cell (p := ⟨R, j, none⟩) (World.block_lt_of_cell? _ _ h.2.1)).trans h.2.1, (b3.cell (p := ⟨B, k, none⟩) (World.block_lt_of_cell? _ _ h.2.2.1)).trans h.2.2.1, (b3.cell (p := ⟨B, l, none⟩) (World.block_lt_of_cell? _ _ h.2.2.2.1)).trans h.2.2.2.1, bt h.2.2.2.2 b3⟩

/-! ### What was seen -/
theorem below_cut {l : List Int} {x : Int} {i : Nat} (h : CutI l x i) : Sto.below x l = i := by
  obtain ⟨h1, h2, h3⟩ := h
  unfold Sto.below
  have e : l.filter (fun y => decide (y < x)) = l.take i := by
    conv => lhs; rw [← List.take_append_drop i l, List.filter_append]
    rw [List.filter_eq_self.2, List.filter_eq_nil_iff.2, List.append_nil]
    · intro y hy
      obtain ⟨k, hk, e⟩ := List.mem_iff_getElem.1 hy
      have hy2 : l[i + k]? = some y := by
        rw [← List.getElem?_drop, List.getElem?_eq_getElem hk, e]
      have := h3 (i + k) y (Nat.le_add_right _ _) hy2
      simp
      omega
    · intro y hy
      obtain ⟨k, hk, e⟩ := List.mem_iff_getElem.1 hy
      have hk2 : k < i := by
        rw [List.length_take] at hk
        omega
      have hy2 : l[k]? = some y := by
        rw [← List.getElem?_take_of_lt hk2, List.getElem?_eq_getElem hk, e]
      have := h2 k y hk2 hy2
      simp
      exact this
  rw [e, List.length_take]
  omega
theorem found_mem {l : List Int} {x : Int} {i : Nat} (h : CutI l x i) (hup : UpI l) : l[i]? = some x ↔ x ∈ l := by
  constructor
  · exact List.mem_of_getElem?
  · intro hx
    obtain ⟨k, hk, e⟩ := List.mem_iff_getElem.1 hx
    have hk2 : l[k]? = some x := by rw [List.getElem?_eq_getElem hk, e]
    rcases Nat.lt_trichotomy k i with q | q | q
    · have := h.2.1 k x q hk2
      omega
    · rw [← q]
      exact hk2
    · have hi : i < l.length := by omega
      have h3 := h.2.2 i l[i] (Nat.le_refl _) (List.getElem?_eq_getElem hi)
      have h4 := List.pairwise_iff_getElem.1 hup i k hi hk q
      rw [e] at h4
      omega
theorem cut_exists : ∀ (l : List Int) (x : Int), UpI l → ∃ i, CutI l x i
  | [], x, _ => ⟨0, Nat.le_refl _, fun k a hk => absurd hk (Nat.not_lt_zero _), fun k a _ ha => (by cases ha)⟩
  | a :: r, x, h => by
    obtain ⟨h1, h2⟩ := List.pairwise_cons.1 h
    by_cases q : a < x
    · obtain ⟨i, i1, i2, i3⟩ := cut_exists r x h2
      refine ⟨i + 1, Nat.succ_le_succ i1, fun k b hk hb => ?_, fun k b hk hb => ?_⟩
      · cases k with
        | zero =>
          cases hb
          exact q
        | succ k => exact i2 k b (by omega) hb
      · cases k with
        | zero => omega
        | succ k => exact i3 k b (by omega) hb
    · refine ⟨0, Nat.zero_le _, fun k b hk => absurd hk (Nat.not_lt_zero _), fun k b hk hb => ?_⟩
      cases k with
      | zero =>
        cases hb
        omega
      | succ k =>
        have := h1 b (List.mem_of_getElem? hb)
        omega
theorem cut_below {l : List Int} {x : Int} (h : UpI l) : CutI l x (Sto.below x l) := by
  obtain ⟨i, hi⟩ := cut_exists l x h
  rw [below_cut hi]
  exact hi
/-- What was looked for, by name. -/
theorem seekN_any (t : Int) (vs : Value) (l : List Int) (w : World) (h : InsIn w vs l) (hup : UpI l) (hn : l.length ≤ 100000) :
    Calls Tryz.prog 42 #[vs, .int .i64 t] w fun e w' => e = .returned (.tuple #[.int .i64 (Sto.below t l : Nat), .bool (decide (t ∈ l))]) ∧ Below w.heap.size w w' := by
  refine (seek_any t vs l w h hup hn).mono ?_
  rintro e w' ⟨⟨i, y, rfl, hc, hy⟩, rfl⟩
  refine ⟨?_, Below.refl _ _⟩
  rw [below_cut hc]
  have : y = decide (t ∈ l) := by
    have hm := found_mem hc hup
    by_cases q : t ∈ l
    · rw [decide_eq_true q]
      exact hy.2 (hm.2 q)
    · rw [decide_eq_false q]
      cases y with
      | false => rfl
      | true => exact absurd (hm.1 (hy.1 rfl)) q
  rw [this]
theorem up_ins {l : List Int} {x : Int} {i : Nat} (h : CutI l x i) (hup : UpI l) (hx : x ∉ l) : UpI (l.take i ++ x :: l.drop i) := by
  have hlt : ∀ y, y ∈ l.take i → y < x := fun y hy => by
    obtain ⟨k, hk, e⟩ := List.mem_iff_getElem.1 hy
    have hk2 : k < i := by
      rw [List.length_take] at hk
      omega
    exact h.2.1 k y hk2 (by rw [← List.getElem?_take_of_lt hk2, List.getElem?_eq_getElem hk, e])
  have hgt : ∀ y, y ∈ l.drop i → x < y := fun y hy => by
    obtain ⟨k, hk, e⟩ := List.mem_iff_getElem.1 hy
    have := h.2.2 (i + k) y (Nat.le_add_right _ _) (by rw [← List.getElem?_drop, List.getElem?_eq_getElem hk, e])
    rcases Int.lt_or_eq_of_le this with q | q
    · exact q
    · exact absurd (q ▸ List.mem_of_mem_drop hy) hx
  have h1 : (l.take i ++ l.drop i).Pairwise (· < ·) := by
    rw [List.take_append_drop]
    exact hup
  obtain ⟨p1, p2, p3⟩ := List.pairwise_append.1 h1
  refine List.pairwise_append.2 ⟨p1, List.pairwise_cons.2 ⟨hgt, p2⟩, fun a ha b hb => ?_⟩
  rcases List.mem_cons.1 hb with rfl | q
  · exact hlt a ha
  · exact p3 a ha b q

end Go.Proofs.YtmcaejooaaahdaaGreat
