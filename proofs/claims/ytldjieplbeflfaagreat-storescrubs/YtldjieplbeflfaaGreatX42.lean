/-
  Texts of the proof, joined: HPlayC, HTold, HRead, OpenI, HOpen, HOnce.
-/
import Derived.Test.YtldjieplbeflfaaGreatX41
import Derived.Maps.Own
import Derived.Maps.Views
import Derived.Test.YtldjieplbeflfaaGreatX07
import Derived.ChangeSlices
import Derived.Test.YtldjieplbeflfaaGreatX34
import Derived.Test.YtldjieplbeflfaaGreatX16
import Derived.WideKeyPair
namespace Go.Proofs.YtldjieplbeflfaaGreat
open Go.RowKit

/-- Nothing is played: an error. -/
def NoPlay (e : Ending) (w w' : World) (x : Nat) : Prop := e = .returned (.tuple #[.agg #[.int .i64 0, .int .i64 0, .int .i64 0, .slice none 0 0, .int .i64 0, .slice none 0 0, .slice none 0 0, .int .i64 0, .slice none 0 0], .slice none 0 0, .int .i64 (x : Nat)]) ∧ Below w.heap.size w w'
set_option maxHeartbeats 1000000 in
set_option maxRecDepth 100000 in
theorem play_bad (d s b : Int) (A : Option Addr) (n C : Nat) (w : World) (x : Nat) (hx : x = wrongS d s b) (h0 : x ≠ 0) :
    Calls Tryz.prog 10 #[.agg #[.int .i64 d, .int .i64 s, .int .i64 b], .slice A n C] w fun e w' => NoPlay e w w' x := by
  have b2 : Below w.heap.size w ((w.alloc (.cells #[.int .i64 d, .int .i64 s, .int .i64 b] 23)).alloc (.cells #[.int .i64 0, .int .i64 0, .int .i64 0, .slice none 0 0, .int .i64 0, .slice none 0 0, .slice none 0 0, .int .i64 0, .slice none 0 0] 33)) := ((Below.refl _ _).alloc (Nat.le_refl _) _).alloc ((Below.refl _ _).alloc (Nat.le_refl _) _).size _
  have bB : Below (w.alloc (.cells #[.int .i64 d, .int .i64 s, .int .i64 b] 23)).heap.size (w.alloc (.cells #[.int .i64 d, .int .i64 s, .int .i64 b] 23)) ((w.alloc (.cells #[.int .i64 d, .int .i64 s, .int .i64 b] 23)).alloc (.cells #[.int .i64 0, .int .i64 0, .int .i64 0, .slice none 0 0, .int .i64 0, .slice none 0 0, .slice none 0 0, .int .i64 0, .slice none 0 0] 33)) := (Below.refl _ _).alloc (Nat.le_refl _) _
  have VS := (varN_new w #[.int .i64 d, .int .i64 s, .int .i64 b] 23).below bB
  have VT := varN_new (w.alloc (.cells #[.int .i64 d, .int .i64 s, .int .i64 b] 23)) #[.int .i64 0, .int .i64 0, .int .i64 0, .slice none 0 0, .int .i64 0, .slice none 0 0, .slice none 0 0, .int .i64 0, .slice none 0 0] 33
  rw [show (w.alloc (.cells #[.int .i64 d, .int .i64 s, .int .i64 b] 23)).heap.size = w.heap.size + 1 by simp] at VT
  have HW := storeWrong_any d s b ((w.alloc (.cells #[.int .i64 d, .int .i64 s, .int .i64 b] 23)).alloc (.cells #[.int .i64 0, .int .i64 0, .int .i64 0, .slice none 0 0, .int .i64 0, .slice none 0 0, .slice none 0 0, .int .i64 0, .slice none 0 0] 33))
  rw [← hx] at HW
  have hxn : ((x : Int) != 0) = true := by rw [bne_iff_ne]; omega
  clear hx h0
  clear bB
  go_enter Tryz.func10, Tryz.ntmps10
  go_upto_region 1 with fail
  generalize (w.alloc (.cells #[.int .i64 d, .int .i64 s, .int .i64 b] 23)).alloc (.cells #[.int .i64 0, .int .i64 0, .int .i64 0, .slice none 0 0, .int .i64 0, .slice none 0 0, .slice none 0 0, .int .i64 0, .slice none 0 0] 33) = w2 at *
  have s0 := VS.cell (i := 0) rfl
  have s1 := VS.cell (i := 1) rfl
  have s2 := VS.cell (i := 2) rfl
  have HVT : Hid (VarN w2 (w.heap.size + 1) 33 #[.int .i64 0, .int .i64 0, .int .i64 0, .slice none 0 0, .int .i64 0, .slice none 0 0, .slice none 0 0, .int .i64 0, .slice none 0 0].toList) := VT
  have HB2 : Hid (Below w.heap.size w w2) := b2
  clear VS VT b2
  go_wp2_with fail
  refine HW.mono ?_
  rintro e w3 ⟨rfl, hb3⟩
  have VT3 := HVT.out.below hb3
  have HFI : Hid (∀ w', Off (fun k => k = w.heap.size + 1) w3 w' → Below w.heap.size w w') := fun w' ho => (bt HB2.out hb3).trans (ho.below (bt HB2.out hb3).size fun k e => by omega)
  have b0 := VT3.cell (i := 0) rfl
  have b1 := VT3.cell (i := 1) rfl
  have b2 := VT3.cell (i := 2) rfl
  have b3 := VT3.cell (i := 3) rfl
  have b4 := VT3.cell (i := 4) rfl
  have b5 := VT3.cell (i := 5) rfl
  have b6 := VT3.cell (i := 6) rfl
  have b7 := VT3.cell (i := 7) rfl
  have b8 := VT3.cell (i := 8) rfl
  have f0 := VT3.frozen 0
  have f1 := VT3.frozen 1
  have f2 := VT3.frozen 2
  have f3 := VT3.frozen 3
  have f4 := VT3.frozen 4
  have f5 := VT3.frozen 5
  have f6 := VT3.frozen 6
  have f7 := VT3.frozen 7
  have f8 := VT3.frozen 8
  clear VT3 hb3 s0 s1 s2 HW
  go_wp2_with fail
  refine bodyPost_ret (v := .tuple #[.agg #[.int .i64 0, .int .i64 0, .int .i64 0, .slice none 0 0, .int .i64 0, .slice none 0 0, .slice none 0 0, .int .i64 0, .slice none 0 0], .slice none 0 0, .int .i64 (x : Nat)]) (by simp [results, Tryz.results10, go_sem, b0, b1, b2, b3, b4, b5, b6, b7, b8]) rfl ⟨rfl, ?_⟩
  exact HFI.out _ (off_nine _ _ _ _ _ _ _ _ _ _ _)
end Go.Proofs.YtldjieplbeflfaaGreat

namespace Go.Proofs.YtldjieplbeflfaaGreat
open Go.RowKit Go.Maps

/-! ### A set of commands -/
theorem keyedI : Keyed Tryz.prog 3 := int_keyed Tryz.underlying3
theorem Tryz.zeroBoolI (w : World) : (zeroValue 4).run Tryz.prog w = .ok (.bool false) w := by kernel_rfl
theorem Tryz.mapIB : Tryz.prog.underlying 49 = some (.map 3 4) := by kernel_rfl
/-- Block b is a map that tells true of these commands. -/
def HadI (w : World) (b m : Nat) (P : List Int) : Prop := ∃ D : DataW Unit, w.ownsMap Tryz.prog 3 (plainElem Tryz.prog 4) b m D ∧ ∀ j : Int, 1 ≤ j → j ≤ 1000000 → D.atKey (.int .i64 j) (.lit (.bool false)) = .lit (.bool (decide (j ∈ P)))
set_option maxRecDepth 100000 in
theorem plainElem_boolI {v : Value} {z : DataW Unit × List MemPlace} (h : plainElem Tryz.prog 4 v = some z) : ∃ x, v = .bool x ∧ z = (.lit (.bool x), []) := by
  unfold plainElem at h
  rw [Tryz.underlying4] at h
  cases v <;> simp at h
  subst h
  exact ⟨_, rfl, rfl⟩
theorem keyI (j : Int) (h1 : 1 ≤ j) (h2 : j ≤ 1000000) : keyOf Tryz.prog 3 (.int .i64 j) = some (.int .i64 j) := keyOf_int_mk Tryz.underlying3 (WalkArith.wf_i64 (by omega))
theorem HadI.look {w : World} {b m : Nat} {P : List Int} (h : HadI w b m P) (k : Int) (h1 : 1 ≤ k) (h2 : k ≤ 1000000) : (Instr.lookup 49 (.map (some b)) (.int .i64 k) false).run Tryz.prog w = .ok (.bool (decide (k ∈ P))) w := by
  obtain ⟨D, hown, hat⟩ := h
  obtain ⟨v, ps, hrun, hv⟩ := hown.lookup keyedI Tryz.mapIB (Tryz.zeroBoolI w) (plainElem_bool Tryz.underlying4 false) (keyI k h1 h2)
  obtain ⟨x, rfl, hz⟩ := plainElem_boolI hv
  rw [hat k h1 h2] at hz
  simp at hz
  rw [hrun, hz.1]
theorem HadI.put {w' : World} {b m : Nat} {k : Int} {P : List Int} {D : DataW Unit} (hat : ∀ j : Int, 1 ≤ j → j ≤ 1000000 → D.atKey (.int .i64 j) (.lit (.bool false)) = .lit (.bool (decide (j ∈ P)))) (hD : IsMap D)
    (h : w'.ownsMap Tryz.prog 3 (plainElem Tryz.prog 4) b m (D.put (.int .i64 k) (.lit (.bool true)))) : HadI w' b m (k :: P) := by
  refine ⟨_, h, fun j h1 h2 => ?_⟩
  by_cases e : j = k
  · subst e
    rw [atKey_put_same (k := .int .i64 j) hD trivial]
    simp
  · rw [atKey_put_other (fun h => by simp at h; omega), hat j h1 h2]
    simp [e]
theorem HadI.kept {w w' : World} {b m : Nat} {P : List Int} {row : Option Nat} (h : HadI w b m P) (hg : w.grownBy w' row) (hne : some b ≠ row) : HadI w' b m P := by
  obtain ⟨D, hown, hat⟩ := h
  exact ⟨D, hown.kept hg hne, hat⟩
theorem HadI.lt {w : World} {b m : Nat} {P : List Int} (h : HadI w b m P) : b < w.heap.size := by
  obtain ⟨D, hown, _⟩ := h
  exact hown.lt
theorem HadI.ne {w : World} {b m N n : Nat} {t : TypeId} {z : Nat} {P : List Int} {v : Value} {xs : List Value} (h : HadI w b m P) (ho : w.ownsRow N t z v n xs) : some b ≠ v.ownBlock := fun e => by
  obtain ⟨D, ⟨es, clock, hb, _⟩, _⟩ := h
  rcases ho.2 with ⟨rfl, _⟩ | ⟨g, cap, cur, rfl, _, hg, _⟩
  · simp [Value.ownBlock] at e
  · simp [Value.ownBlock] at e
    subst e
    rw [hb] at hg
    cases hg

/-! ### What was told -/
theorem toldOf_more {l : List (Sto.Do × Sto.Ans)} {k : Nat} {d : Sto.Do} {a : Sto.Ans} (h : l[k]? = some (d, a)) (P : List Int) : Sto.toldOf (l.drop k) P = if d.kind = 1 ∧ a.err = 0 ∧ d.bat.cmd ∉ P then d.bat.evs ++ Sto.toldOf (l.drop (k + 1)) (d.bat.cmd :: P) else Sto.toldOf (l.drop (k + 1)) P := by
  rw [List.drop_eq_getElem_cons (List.getElem?_eq_some_iff.1 h).1, (List.getElem?_eq_some_iff.1 h).2, Sto.toldOf]
/-- Under way: k are done. -/
structure ToldS (w wr : World) (l : List (Sto.Do × Sto.Ans)) (y : Value) (k : Nat) (es : List EvC) (P : List Int) (m : Nat) : Prop where
  buf : EBuf wr (w.heap.size + 1) y es
  had : HadI wr w.heap.size m P
  eq : es.map evOf ++ Sto.toldOf (l.drop k) P = Sto.toldOf l []
  bel : Below w.heap.size w wr
  len : es.length ≤ k * 10
  num : m ≤ k
theorem ToldS.skip {w wr : World} {l : List (Sto.Do × Sto.Ans)} {y : Value} {k m : Nat} {es : List EvC} {P : List Int} {d : Sto.Do} {a : Sto.Ans} (h : ToldS w wr l y k es P m) (hx : l[k]? = some (d, a)) (hn : ¬ (d.kind = 1 ∧ a.err = 0 ∧ d.bat.cmd ∉ P)) : ToldS w wr l y (k + 1) es P m :=
  ⟨h.buf, h.had, by rw [← h.eq, toldOf_more hx, if_neg hn], h.bel, Nat.le_trans h.len (by omega), Nat.le_succ_of_le h.num⟩

end Go.Proofs.YtldjieplbeflfaaGreat

namespace Go.Proofs.YtldjieplbeflfaaGreat
open Go.RowKit

/-! ### What lies in a row of the call's own is read -/
theorem row_shape {w : World} {N : Nat} {t : TypeId} {z : Nat} {v : Value} {n : Nat} {xs : List Value} (h : w.ownsRow N t z v n xs) : ∃ A C, v = .slice A n C ∧ n ≤ C ∧ C ≤ maxLen ∧ (1 ≤ n → ∃ g, A = some ⟨g, 0, none⟩) := by
  rcases h.2 with ⟨rfl, h0⟩ | ⟨g, cap, cur, rfl, _, _, h1, h2, _⟩
  · subst h0
    exact ⟨none, 0, rfl, Nat.le_refl _, Nat.zero_le _, fun h => absurd h (by decide)⟩
  · exact ⟨_, cap, rfl, h1, h2, fun _ => ⟨g, rfl⟩⟩
theorem row_cell {α : Type} {f : α → List Value} {w : World} {N : Nat} {t : TypeId} {z : Nat} {v : Value} {n : Nat} {es : List α} (h : w.ownsRow N t z v n (es.flatMap f)) (hf : ∀ a, a ∈ es → (f a).length = z) {g : Nat} (hg : v.ownBlock = some g) {i j : Nat} {a : α} {u : Value} (ha : es[i]? = some a) (hj : (f a)[j]? = some u) : w.cell? ⟨g, i * z + j, none⟩ = some u := by
  have hjl : j < z := by
    have := (List.getElem?_eq_some_iff.1 hj).1
    rw [hf a (List.mem_of_getElem? ha)] at this
    exact this
  have := h.cells hg (i * z + j) u ((flat_get f z es hf i j hjl a ha).trans hj)
  rw [WideShapes.add_plain, Nat.zero_add] at this
  exact this

/-! ### Numbers, blocks, disks -/
/-- Numbers in a row. -/
def Nms (w : World) (v : Value) (l : List Int) : Prop := ∃ A cap, v = .slice A l.length cap ∧ l.length ≤ cap ∧ cap ≤ maxLen ∧ ∀ i x, l[i]? = some x → ∃ b o, A = some ⟨b, o, none⟩ ∧ w.cell? ⟨b, o + i, none⟩ = some (.int .i64 x)
theorem Nms.below {w w' : World} {v : Value} {l : List Int} (h : Nms w v l) (hb : Below w.heap.size w w') : Nms w' v l := by
  obtain ⟨A, cap, hv, h1, h2, h3⟩ := h
  refine ⟨A, cap, hv, h1, h2, fun i e he => ?_⟩
  obtain ⟨b, o, hA, hi⟩ := h3 i e he
  exact ⟨b, o, hA, (hb.cell (p := ⟨b, o + i, none⟩) (World.block_lt_of_cell? _ _ hi)).trans hi⟩
theorem Nms.nil (w : World) : Nms w (.slice none 0 0) [] := ⟨none, 0, rfl, Nat.le_refl _, Nat.zero_le _, fun _ _ he => (by cases he)⟩
theorem Nms.shape {w : World} {v : Value} {l : List Int} (h : Nms w v l) : ∃ A C, v = .slice A l.length C := by
  obtain ⟨A, C, hv, _⟩ := h
  exact ⟨A, C, hv⟩
theorem nms_own {w : World} {N : Nat} {v : Value} {l : List Int} (h : w.ownsRow N 3 1 v l.length (l.flatMap inCells)) : Nms w v l := by
  obtain ⟨A, C, rfl, h1, h2, h3⟩ := row_shape h
  refine ⟨A, C, rfl, h1, h2, fun i x hx => ?_⟩
  obtain ⟨g, rfl⟩ := h3 (by have := (List.getElem?_eq_some_iff.1 hx).1; omega)
  have := row_cell (f := inCells) h (fun _ _ => rfl) (g := g) rfl (j := 0) hx rfl
  exact ⟨g, 0, rfl, by simpa using this⟩
/-- A block that is held: its segment, its bytes. -/
def HdIn (w : World) (b o : Nat) (h : Int × List Nat) : Prop := ∃ v, w.cell? ⟨b, o, none⟩ = some (.int .i64 h.1) ∧ w.cell? ⟨b, o + 1, none⟩ = some v ∧ BytL w v h.2
theorem HdIn.below {w w' : World} {b o : Nat} {x : Int × List Nat} (h : HdIn w b o x) (hb : Below w.heap.size w w') : HdIn w' b o x := by
  obtain ⟨v, c0, c1, he⟩ := h
  have hp : b < w.heap.size := World.block_lt_of_cell? _ _ c0
  exact ⟨v, (hb.cell (p := ⟨b, o, none⟩) hp).trans c0, (hb.cell (p := ⟨b, o + 1, none⟩) hp).trans c1, he.below hb⟩
def Hes (w : World) (v : Value) (l : List (Int × List Nat)) : Prop := ∃ A cap, v = .slice A l.length cap ∧ l.length ≤ cap ∧ cap ≤ maxLen ∧ ∀ i x, l[i]? = some x → ∃ b o, A = some ⟨b, o, none⟩ ∧ HdIn w b (o + i * 2) x
theorem Hes.below {w w' : World} {v : Value} {l : List (Int × List Nat)} (h : Hes w v l) (hb : Below w.heap.size w w') : Hes w' v l := by
  obtain ⟨A, cap, hv, h1, h2, h3⟩ := h
  refine ⟨A, cap, hv, h1, h2, fun i e he => ?_⟩
  obtain ⟨b, o, hA, hi⟩ := h3 i e he
  exact ⟨b, o, hA, hi.below hb⟩
def DkIn (w : World) (b o : Nat) (d : Sto.Disk) : Prop := ∃ v, w.cell? ⟨b, o, none⟩ = some (.bool d.gone) ∧ w.cell? ⟨b, o + 1, none⟩ = some v ∧ Hes w v d.bl
theorem DkIn.below {w w' : World} {b o : Nat} {x : Sto.Disk} (h : DkIn w b o x) (hb : Below w.heap.size w w') : DkIn w' b o x := by
  obtain ⟨v, c0, c1, he⟩ := h
  have hp : b < w.heap.size := World.block_lt_of_cell? _ _ c0
  exact ⟨v, (hb.cell (p := ⟨b, o, none⟩) hp).trans c0, (hb.cell (p := ⟨b, o + 1, none⟩) hp).trans c1, he.below hb⟩
def Dks (w : World) (v : Value) (l : List Sto.Disk) : Prop := ∃ A cap, v = .slice A l.length cap ∧ l.length ≤ cap ∧ cap ≤ maxLen ∧ ∀ i x, l[i]? = some x → ∃ b o, A = some ⟨b, o, none⟩ ∧ DkIn w b (o + i * 2) x
theorem Dks.below {w w' : World} {v : Value} {l : List Sto.Disk} (h : Dks w v l) (hb : Below w.heap.size w w') : Dks w' v l := by
  obtain ⟨A, cap, hv, h1, h2, h3⟩ := h
  refine ⟨A, cap, hv, h1, h2, fun i e he => ?_⟩
  obtain ⟨b, o, hA, hi⟩ := h3 i e he
  exact ⟨b, o, hA, hi.below hb⟩
theorem Dks.nil (w : World) : Dks w (.slice none 0 0) [] := ⟨none, 0, rfl, Nat.le_refl _, Nat.zero_le _, fun _ _ he => (by cases he)⟩
theorem dks_own {w : World} {N D : Nat} {V : Nat → Value} {U : Nat → List HeC} {ds : List Sto.Disk} (h : DkAt w N D V U ds) (hl : ds.length ≤ 100) : Dks w (.slice (some ⟨D, 0, none⟩) ds.length ds.length) ds := by
  refine ⟨_, _, rfl, Nat.le_refl _, by unfold maxLen; omega, fun i d hd => ⟨D, 0, rfl, V i, ?_, ?_, ?_⟩⟩
  · have hi := (List.getElem?_eq_some_iff.1 hd).1
    have := h.row.cell (j := i * 2) (by omega)
    rw [Nat.zero_add, this]
    unfold dkF
    rw [if_pos (by omega), Nat.mul_div_cancel _ (by decide), List.getD_eq_getElem?_getD, hd]
    rfl
  · have hi := (List.getElem?_eq_some_iff.1 hd).1
    have := h.row.cell (j := i * 2 + 1) (by omega)
    rw [Nat.zero_add, this]
    unfold dkF
    rw [if_neg (by omega), show (i * 2 + 1) / 2 = i by omega]
  · have hi := (List.getElem?_eq_some_iff.1 hd).1
    have ho := h.own i hi
    have hb := h.bl i d hd
    obtain ⟨A, C, hv, h1, h2, h3⟩ := row_shape ho
    refine ⟨A, C, by rw [hb, List.length_map]; exact hv, by rw [hb, List.length_map]; exact h1, h2, fun k x hx => ?_⟩
    rw [hb, List.getElem?_map] at hx
    obtain ⟨q, hq, rfl⟩ := Option.map_eq_some_iff.1 hx
    obtain ⟨g, rfl⟩ := h3 (by have := (List.getElem?_eq_some_iff.1 hq).1; omega)
    have hg : (V i).ownBlock = some g := by rw [hv]; rfl
    refine ⟨g, 0, rfl, slV q.2.1, ?_, ?_, (h.byt i q hi (List.mem_of_getElem? hq)).bytL⟩
    · have := row_cell (f := heCells) ho (fun _ _ => rfl) hg (j := 0) hq rfl
      rw [Nat.zero_add]
      exact this
    · have := row_cell (f := heCells) ho (fun _ _ => rfl) hg (j := 1) hq rfl
      rw [Nat.zero_add]
      exact this
theorem bats_own {w : World} {N : Nat} {E : Nat → Prop} {vt : Value} {tc : List (Int × Sl)} {l : List Evt.Bat} (h : TlAt w N E vt tc l) : Bats w vt l := by
  obtain ⟨A, C, hv, h1, h2, h3⟩ := row_shape h.own
  refine ⟨A, C, hv, h1, h2, fun i x hx => ?_⟩
  have hi := (List.getElem?_eq_some_iff.1 hx).1
  obtain ⟨q, hq⟩ : ∃ q, tc[i]? = some q := ⟨tc[i]'(by rw [h.len]; exact hi), List.getElem?_eq_getElem _⟩
  obtain ⟨g, rfl⟩ := h3 (by omega)
  have hg : vt.ownBlock = some g := by rw [hv]; rfl
  obtain ⟨e1, e2⟩ := h.evs i q x hq hx
  refine ⟨g, 0, rfl, slV q.2, ?_, ?_, e2.1⟩
  · have := row_cell (f := tbCells) h.own (fun _ _ => rfl) hg (j := 0) hq rfl
    rw [Nat.zero_add, e1]
    exact this
  · have := row_cell (f := tbCells) h.own (fun _ _ => rfl) hg (j := 1) hq rfl
    rw [Nat.zero_add]
    exact this

/-! ### A store -/
/-- A store, as it is read. -/
structure StIn (w : World) (vd vt vs va : Value) (s : Sto.St) : Prop where
  dk : Dks w vd s.disks
  tl : Bats w vt s.tail
  sn : Nms w vs s.seen
  ac : Accs w va s.acc
theorem StIn.below {w w' : World} {vd vt vs va : Value} {s : Sto.St} (h : StIn w vd vt vs va s) (hb : Below w.heap.size w w') : StIn w' vd vt vs va s := ⟨h.dk.below hb, h.tl.below hb, h.sn.below hb, h.ac.below hb⟩
theorem StP.read {w : World} {N R D : Nat} {F E : Nat → Prop} {c : Sto.Cfg} {s : Sto.St} {V : Nat → Value} {U : Nat → List HeC} {vt vs va : Value} {tc : List (Int × Sl)} (h : StP w N R F E c s D V U vt vs va tc) : StIn w (.slice (some ⟨D, 0, none⟩) s.disks.length s.disks.length) vt vs va s :=
  ⟨dks_own h.dk (by have := h.wf.len; have := h.wf.d8; have := h.wf.s4; omega), bats_own h.tail, nms_own h.seen, h.acc.1⟩

/-! ### Answers -/
/-- An answer lies at (b, o). -/
def AnIn (w : World) (b o : Nat) (a : Sto.Ans) : Prop := ∃ ve va, w.cell? ⟨b, o, none⟩ = some (.int .i64 (a.err : Nat)) ∧ w.cell? ⟨b, o + 1, none⟩ = some (.int .i64 a.n) ∧ w.cell? ⟨b, o + 2, none⟩ = some ve ∧ w.cell? ⟨b, o + 3, none⟩ = some (.int .i64 a.vu) ∧ w.cell? ⟨b, o + 4, none⟩ = some va ∧ Evs w ve a.evs ∧ Accs w va a.vl
theorem AnIn.below {w w' : World} {b o : Nat} {a : Sto.Ans} (h : AnIn w b o a) (hb : Below w.heap.size w w') : AnIn w' b o a := by
  obtain ⟨ve, va, c0, c1, c2, c3, c4, he, ha⟩ := h
  have hp : b < w.heap.size := World.block_lt_of_cell? _ _ c0
  exact ⟨ve, va, (hb.cell (p := ⟨b, o, none⟩) hp).trans c0, (hb.cell (p := ⟨b, o + 1, none⟩) hp).trans c1, (hb.cell (p := ⟨b, o + 2, none⟩) hp).trans c2, (hb.cell (p := ⟨b, o + 3, none⟩) hp).trans c3, (hb.cell (p := ⟨b, o + 4, none⟩) hp).trans c4, he.below hb, ha.below hb⟩
def Anss (w : World) (v : Value) (l : List Sto.Ans) : Prop := ∃ A cap, v = .slice A l.length cap ∧ l.length ≤ cap ∧ cap ≤ maxLen ∧ ∀ i a, l[i]? = some a → ∃ b o, A = some ⟨b, o, none⟩ ∧ AnIn w b (o + i * 5) a
theorem Anss.below {w w' : World} {v : Value} {l : List Sto.Ans} (h : Anss w v l) (hb : Below w.heap.size w w') : Anss w' v l := by
  obtain ⟨A, cap, hv, h1, h2, h3⟩ := h
  refine ⟨A, cap, hv, h1, h2, fun i e he => ?_⟩
  obtain ⟨b, o, hA, hi⟩ := h3 i e he
  exact ⟨b, o, hA, hi.below hb⟩
theorem AnsRow.read {w : World} {N : Nat} {F : Nat → Prop} {v : Value} {qs : List AnC} {al : List Sto.Ans} (h : AnsRow w N F v qs al) : Anss w v al := by
  obtain ⟨A, C, hv, h1, h2, h3⟩ := row_shape h.own
  have hl := h.len
  refine ⟨A, C, by rw [← hl]; exact hv, by omega, h2, fun i a ha => ?_⟩
  have hi := (List.getElem?_eq_some_iff.1 ha).1
  obtain ⟨q, hq⟩ : ∃ q, qs[i]? = some q := ⟨qs[i]'(by omega), List.getElem?_eq_getElem _⟩
  obtain ⟨g, rfl⟩ := h3 (by omega)
  have hg : v.ownBlock = some g := by rw [hv]; rfl
  obtain ⟨ve, va, hag, hev, hac⟩ := h.ans i q a hq ha
  have hcl : anCells q = [.int .i64 (a.err : Nat), .int .i64 a.n, ve, .int .i64 a.vu, va] := congrArg Array.toList (Value.agg.inj hag)
  have hc : ∀ j u, (anCells q)[j]? = some u → w.cell? ⟨g, 0 + i * 5 + j, none⟩ = some u := fun j u hj => by
    have := row_cell (f := anCells) h.own (fun _ _ => rfl) hg hq hj
    rw [Nat.zero_add]
    exact this
  exact ⟨g, 0, rfl, ve, va, hc 0 _ (by rw [hcl]; rfl), hc 1 _ (by rw [hcl]; rfl), hc 2 _ (by rw [hcl]; rfl), hc 3 _ (by rw [hcl]; rfl), hc 4 _ (by rw [hcl]; rfl), hev.1, hac.1⟩
theorem Dos.below {w w' : World} {v : Value} {l : List Sto.Do} (h : Dos w v l) (hb : Below w.heap.size w w') : Dos w' v l := by
  obtain ⟨A, cap, hv, h1, h2, h3⟩ := h
  refine ⟨A, cap, hv, h1, h2, fun i e he => ?_⟩
  obtain ⟨b, o, hA, hi⟩ := h3 i e he
  exact ⟨b, o, hA, hi.below rfl hb⟩
/-- What Play told, as it is read: it lies in blocks of its own, so that what becomes of others is no matter. -/
def PlayR (e : Ending) (w w' : World) (c : Sto.Cfg) (r : Sto.St × List Sto.Ans) : Prop := ∃ vd vt vs va vr, e = .returned (.tuple #[.agg #[.int .i64 (c.d : Int), .int .i64 (c.s : Int), .int .i64 (c.b : Int), vd, .int .i64 (r.1.segs : Int), vt, vs, .int .i64 r.1.u, va], vr, .int .i64 0]) ∧ StIn w' vd vt vs va r.1 ∧ Anss w' vr r.2 ∧ Below w.heap.size w w' ∧ ∀ w'', Off (fun k => k < w.heap.size) w' w'' → StIn w'' vd vt vs va r.1 ∧ Anss w'' vr r.2
theorem AnsRow.far {w w' : World} {N : Nat} {F : Nat → Prop} {v : Value} {qs : List AnC} {al : List Sto.Ans} (h : AnsRow w N F v qs al) (ho : Off (fun k => k < N) w w') : AnsRow w' N F v qs al :=
  ⟨owns_off h.own ho fun g hg z => absurd (h.own.lt g hg).1 (Nat.not_le.2 z), h.len, fun i q a hq ha => (h.ans i q a hq ha).move (fun k hk z => ho.block k hk (Nat.not_lt.2 z.2.2.2)) fun _ hk z => ⟨z.1, Nat.lt_of_lt_of_le hk ho.size, z.2.2⟩⟩
theorem PlayO.read {e : Ending} {w w' : World} {X : Sto.Six} {c : Sto.Cfg} {l : List Sto.Do} (h : PlayO e w w' X c l) : PlayR e w w' c (Sto.steps X c (Sto.start c) l) := by
  obtain ⟨N, R, F, E, D, V, U, vt, vs, va, tc, vr, qs, rfl, hS, hA, hb, rfl, hE⟩ := h
  exact ⟨_, vt, vs, va, vr, rfl, hS.read, hA.read, hb, fun w'' ho => ⟨(hS.out ho fun k z => ⟨fun y => absurd (hS.lt k y).1 (Nat.not_le.2 z), fun y => absurd (hE k y) (Nat.not_le.2 z)⟩).read, (hA.far ho).read⟩⟩
theorem playR {X : Sto.Six} (hX : Sto.SixOk X) (c : Sto.Cfg) (d s b : Int) (hd : d = (c.d : Int)) (hs : s = (c.s : Int)) (hb : b = (c.b : Int)) (h1 : 1 ≤ c.d) (h2 : c.d ≤ 8) (h3 : c.s ≤ 4) (h4 : 1 ≤ c.b) (h5 : c.b ≤ 10) (v : Value) (l : List Sto.Do) (w : World) (hD : Dos w v l) (hl : l.length ≤ 80) :
    Calls Tryz.prog 10 #[.agg #[.int .i64 d, .int .i64 s, .int .i64 b], v] w fun e w' => PlayR e w w' c (Sto.steps X c (Sto.start c) l) := by
  subst hd hs hb
  exact (play_ok hX c h1 h2 h3 h4 h5 v l w hD hl).mono fun e w' h => h.read
/-- A right setup, as numbers. -/
theorem setup_ok {d s b : Int} (h : wrongS d s b = 0) : ∃ c : Sto.Cfg, d = (c.d : Int) ∧ s = (c.s : Int) ∧ b = (c.b : Int) ∧ 1 ≤ c.d ∧ c.d ≤ 8 ∧ c.s ≤ 4 ∧ 1 ≤ c.b ∧ c.b ≤ 10 := by
  have := wrongS_ok h
  exact ⟨⟨d.toNat, s.toNat, b.toNat⟩, by show d = (d.toNat : Int); omega, by show s = (s.toNat : Int); omega, by show b = (b.toNat : Int); omega, by show 1 ≤ d.toNat; omega, by show d.toNat ≤ 8; omega, by show s.toNat ≤ 4; omega, by show 1 ≤ b.toNat; omega, by show b.toNat ≤ 10; omega⟩
end Go.Proofs.YtldjieplbeflfaaGreat

namespace Go.Proofs.YtldjieplbeflfaaGreat
open Go.ChangeShapes Go.WideShapes Go.ChangeAt Go.RowKit

/-- A list of n numbers. -/
structure Ints (w : World) (v : Value) (n : Nat) (Z : Nat → Int) : Prop where
  lies : ∃ (A : Option Addr) (cap : Nat), v = .slice A n cap ∧ ∀ i, i < n → ∃ b o, A = some ⟨b, o, none⟩ ∧ w.cell? ⟨b, o + i, none⟩ = some (.int .i64 (Z i))

end Go.Proofs.YtldjieplbeflfaaGreat

namespace Go.Proofs.YtldjieplbeflfaaGreat
open Go.ChangeShapes Go.WideShapes Go.ChangeAt Go.RowKit

theorem choose_any {α : Type} (a0 : α) {n : Nat} {P : Nat → α → Prop} (h : ∀ i, i < n → ∃ q, P i q) : ∃ q : Nat → α, ∀ i, i < n → P i (q i) :=
  ⟨fun i => if hi : i < n then Classical.choose (h i hi) else a0, fun i hi => by
    simp only [dif_pos hi]
    exact Classical.choose_spec (h i hi)⟩
def do0 : Sto.Do := ⟨0, 0, 0, 0, 0, ⟨0, []⟩, [], 0⟩
theorem list9 {α : Type} {l : List α} (h : l.length = 9) : ∃ c0 c1 c2 c3 c4 c5 c6 c7 c8, l = [c0, c1, c2, c3, c4, c5, c6, c7, c8] := by
  match l, h with
  | [c0, c1, c2, c3, c4, c5, c6, c7, c8], _ => exact ⟨c0, c1, c2, c3, c4, c5, c6, c7, c8, rfl⟩
theorem trod_struct8 {H : Type} {enc : TypeId × Value → H} {P : Program} {w : World} {base : Nat} {spare : Nat → Bool} {held : Bool} {t : TypeId} {f0 f1 f2 f3 f4 f5 f6 f7 : Field} {fuel : Nat} {cs : List Value} {x : DataW H × List MemPlace} (ht : P.underlying t = some (.struct #[f0, f1, f2, f3, f4, f5, f6, f7])) (h : DataW.trod enc P w base spare held fuel t cs = some x) :
    ∃ y0 y1 y2 y3 y4 y5 y6 y7 n, cs.length = P.cellsOf t ∧ DataW.trod enc P w base spare held n f0.type ((cs.drop f0.offset).take (P.cellsOf f0.type)) = some y0 ∧
      DataW.trod enc P w base spare held n f1.type ((cs.drop f1.offset).take (P.cellsOf f1.type)) = some y1 ∧ DataW.trod enc P w base spare held n f2.type ((cs.drop f2.offset).take (P.cellsOf f2.type)) = some y2 ∧
      DataW.trod enc P w base spare held n f3.type ((cs.drop f3.offset).take (P.cellsOf f3.type)) = some y3 ∧ DataW.trod enc P w base spare held n f4.type ((cs.drop f4.offset).take (P.cellsOf f4.type)) = some y4 ∧
      DataW.trod enc P w base spare held n f5.type ((cs.drop f5.offset).take (P.cellsOf f5.type)) = some y5 ∧ DataW.trod enc P w base spare held n f6.type ((cs.drop f6.offset).take (P.cellsOf f6.type)) = some y6 ∧
      DataW.trod enc P w base spare held n f7.type ((cs.drop f7.offset).take (P.cellsOf f7.type)) = some y7 := by
  obtain ⟨xs, n, _, rfl, hl, hlen, hf⟩ := DataW.trod_struct ht h
  match xs, hlen with
  | [y0, y1, y2, y3, y4, y5, y6, y7], _ => exact ⟨y0, y1, y2, y3, y4, y5, y6, y7, n, hl, by simpa using hf 0 f0 rfl, by simpa using hf 1 f1 rfl, by simpa using hf 2 f2 rfl, by simpa using hf 3 f3 rfl, by simpa using hf 4 f4 rfl, by simpa using hf 5 f5 rfl, by simpa using hf 6 f6 rfl, by simpa using hf 7 f7 rfl⟩
theorem byteD_of {H : Type} {enc : TypeId × Value → H} {W : World} {base : Nat} {sp : Nat → Bool} {hd : Bool} {v : Value} {y : DataW H × List MemPlace} {fuel : Nat} (h : DataW.trod enc Tryz.prog W base sp hd fuel 5 [v] = some y) : ∃ n : Nat, n < 256 ∧ v = .int .u8 (n : Int) := by
  obtain ⟨n, e, _, hw⟩ := DataW.trod_int Tryz.underlying5 h
  simp only [List.cons.injEq, and_true] at e
  obtain ⟨b0, b1⟩ := bounds_u8 hw
  exact ⟨n.toNat, by omega, by rw [e, Int.toNat_of_nonneg b0]⟩
theorem intR_of {H : Type} {enc : TypeId × Value → H} {W : World} {base : Nat} {sp : Nat → Bool} {hd : Bool} {v : Value} {y : DataW H × List MemPlace} {fuel : Nat} (h : DataW.trod enc Tryz.prog W base sp hd fuel 3 [v] = some y) : ∃ n, v = .int .i64 n ∧ -9223372036854775808 ≤ n ∧ n ≤ 9223372036854775807 := by
  obtain ⟨n, e, _, hw⟩ := DataW.trod_int Tryz.underlying3 h
  simp only [List.cons.injEq, and_true] at e
  exact ⟨n, e, (bounds_i64 hw).1, (bounds_i64 hw).2⟩
/-- Its numbers are ints. -/
def RngD (d : Sto.Do) : Prop := (-9223372036854775808 ≤ d.n ∧ d.n ≤ 9223372036854775807) ∧ -9223372036854775808 ≤ d.seg ∧ d.seg ≤ 9223372036854775807
set_option maxRecDepth 100000 in
theorem dos_in {H : Type} {enc : TypeId × Value → H} {W : World} {v : Value} {y : DataW H × List MemPlace} {fuel : Nat} (hf : DataW.trod enc Tryz.prog W 0 (fun _ => true) true fuel 24 [v] = some y) : ∃ l, Dos W v l ∧ ∀ d, d ∈ l → RngD d := by
  have ce : Tryz.prog.cellsOf 43 = 9 := by kernel_rfl
  rcases Deep.open_slice Tryz.underlying24 hf with ⟨hcs, _⟩ | ⟨a, len, cap, m, n, D, Pl, hcs, _, hl, hm, hmm, _, hx⟩
  · simp only [List.cons.injEq, and_true] at hcs
    subst hcs
    exact ⟨[], ⟨none, 0, rfl, Nat.le_refl _, Nat.zero_le _, fun i e he => (by cases he)⟩, fun d hd => (by cases hd)⟩
  · simp only [List.cons.injEq, and_true] at hcs
    subst hcs
    simp only [if_true] at hmm
    subst hmm
    have each : ∀ i, i < m → ∃ q : Sto.Do × Value × ByteArray, RngD q.1 ∧ DoIn W q.1 q.2.1 q.2.2 ∧ ∀ j u, (doCells q.1 q.2.1 q.2.2)[j]? = some u → W.cell? (a.add (i * 9 + j)) = some u := by
      intro i hi
      obtain ⟨cs', h1, h2⟩ := hx i hi
      rw [ce] at h1
      obtain ⟨_, hlen, hcell⟩ := World.cells?_some h1
      obtain ⟨y0, y1, y2, y3, y4, y5, y6, y7, k, _, g0, g1, g2, g3, g4, g5, g6, g7⟩ := trod_struct8 Tryz.underlying43 h2
      obtain ⟨v0, v1, v2, v3, v4, v5, v6, v7, v8, rfl⟩ := list9 hlen
      have c3 : Tryz.prog.cellsOf 3 = 1 := by kernel_rfl
      have c4 : Tryz.prog.cellsOf 5 = 1 := by kernel_rfl
      have c5 : Tryz.prog.cellsOf 41 = 2 := by kernel_rfl
      have c6 : Tryz.prog.cellsOf 39 = 1 := by kernel_rfl
      have c9 : Tryz.prog.cellsOf 9 = 1 := by kernel_rfl
      simp [c3, c4, c5, c9] at g0 g1 g2 g3 g4 g5 g6 g7
      obtain ⟨z0, z1, k', _, _, g50, g51⟩ := trod_struct2 Tryz.underlying41 g5
      simp [c3, c6] at g50 g51
      obtain ⟨k0, rfl⟩ := int_of g0
      obtain ⟨k1, rfl, r1⟩ := intR_of g1
      obtain ⟨k2, rfl, r2⟩ := intR_of g2
      obtain ⟨k3, rfl⟩ := int_of g3
      obtain ⟨k4, hk4, rfl⟩ := byteD_of g4
      obtain ⟨k5, rfl⟩ := int_of g50
      obtain ⟨es, hes⟩ := evs_in g51
      obtain ⟨t, rfl, ht⟩ := str_of g6
      obtain ⟨k8, rfl⟩ := int_of g7
      refine ⟨(⟨k0, k1, k2, k3, k4, ⟨k5, es⟩, nb t, k8⟩, v6, t), ⟨r1, r2⟩, ⟨hes, rfl, ht, hk4⟩, fun j u hj => ?_⟩
      have hjl := (List.getElem?_eq_some_iff.1 hj).1
      have := hcell j (by simpa [doCells] using hjl)
      rw [Deep.add_add] at this
      exact this.trans hj
    obtain ⟨q, hq⟩ := choose_any (α := Sto.Do × Value × ByteArray) (do0, .bool false, ByteArray.empty) each
    refine ⟨(List.range len).map fun i => (q i).1, ⟨some a, m, by simp, by simpa using hl, hm, fun i e he => ?_⟩, fun d hd => ?_⟩
    rotate_left
    · obtain ⟨i, hi, rfl⟩ := List.mem_map.1 hd
      have hi := List.mem_range.1 hi
      exact (hq i (by omega)).1
    have hi : i < len := by
      have := (List.getElem?_eq_some_iff.1 he).1
      simpa using this
    simp [hi] at he
    subst he
    obtain ⟨b, o, spot⟩ := a
    have hspot : spot = none := by simpa [Addr.add] using World.cell?_spot ((hq 0 (by omega)).2.2 0 _ rfl)
    subst hspot
    obtain ⟨_, z0, z1⟩ := hq i (by omega)
    refine ⟨b, o, rfl, (q i).2.1, (q i).2.2, z0, fun j u hj => ?_⟩
    have := z1 j u hj
    rw [WideShapes.add_plain] at this
    rw [Nat.add_assoc]
    exact this
theorem dos_of {H : Type} {enc : TypeId × Value → H} {W : World} {a : Option Addr} {len cap : Nat} {d : DataW H} {ps : List MemPlace} (h : DataW.Trod enc Tryz.prog W 0 (fun _ => true) true 24 (.slice a len cap) d ps) : ∃ l, Dos W (.slice a len cap) l ∧ ∀ d, d ∈ l → RngD d := by
  obtain ⟨fuel, hf⟩ := h
  exact dos_in (fuel := fuel) (y := (d, ps)) (by simpa [Value.cells] using hf)
theorem Tryz.cellsSetup : Tryz.prog.cellsOf 23 = 3 := by kernel_rfl
set_option maxRecDepth 100000 in
theorem setup_of {H : Type} {enc : TypeId × Value → H} {W : World} {r : Reach} {b0 : Nat} {v : Value} {d : DataW H} {ps : List MemPlace} (hv : Value.okWide Tryz.prog W r b0 23 v) (h : DataW.Trod enc Tryz.prog W 0 (fun _ => true) true 23 v d ps) :
    ∃ x y z, v = .agg #[.int .i64 x, .int .i64 y, .int .i64 z] := by
  obtain ⟨v0, v1, v2, y0, y1, y2, m, rfl, _, _, t0, t1, t2⟩ := Joins.open_agg3 Tryz.underlying23 (by kernel_rfl) Tryz.cellsSetup hv h
  obtain ⟨s, rfl⟩ := int_of t0
  obtain ⟨k, rfl⟩ := int_of t1
  obtain ⟨n, rfl⟩ := int_of t2
  exact ⟨s, k, n, rfl⟩

end Go.Proofs.YtldjieplbeflfaaGreat

namespace Go.Proofs.YtldjieplbeflfaaGreat
open Go.RowKit Go.Maps

/-! ### A set of pairs -/
theorem arrP : WideMaps.ArrKey Tryz.prog 72 3 2 := ⟨Tryz.underlying72, by kernel_rfl, by kernel_rfl, by kernel_rfl⟩
theorem keyedP : Keyed Tryz.prog 72 := Keyed.of_law arrP.law
theorem Tryz.mapPB : Tryz.prog.underlying 71 = some (.map 72 4) := by kernel_rfl
theorem Tryz.typesSome : ∃ m, Tryz.prog.types.size = m + 1 := ⟨Tryz.prog.types.size - 1, by have : 0 < Tryz.prog.types.size := of_decide_eq_true (by kernel_rfl); omega⟩
def keyP (a b : Int) : Lit := .string (keyBytes [.int .i64 a, .int .i64 b])
def In64 (a : Int) : Prop := -9223372036854775808 ≤ a ∧ a ≤ 9223372036854775807
theorem keyP_of (a b : Int) (ha : In64 a) (hb : In64 b) : keyOf Tryz.prog 72 (.agg #[.int .i64 a, .int .i64 b]) = some (keyP a b) := WideMaps.keyOf_pair arrP Tryz.underlying3 Tryz.typesSome (WalkArith.wf_i64 (by unfold In64 at ha; omega)) (WalkArith.wf_i64 (by unfold In64 at hb; omega))
theorem keyP_inj {a b c d : Int} (ha : In64 a) (hb : In64 b) (hc : In64 c) (hd : In64 d) (h : keyP a b = keyP c d) : (a, b) = (c, d) := by
  have := keyedP.inj (keyP_of a b ha hb) (h ▸ keyP_of c d hc hd)
  cases this
  rfl
/-- Block b is a map that tells true of these pairs. -/
def HadP (w : World) (b m : Nat) (P : List (Int × Int)) : Prop := ∃ D : DataW Unit, w.ownsMap Tryz.prog 72 (plainElem Tryz.prog 4) b m D ∧ ∀ i j : Int, In64 i → In64 j → D.atKey (keyP i j) (.lit (.bool false)) = .lit (.bool (decide ((i, j) ∈ P)))
theorem hadP_start (w : World) : HadP (w.alloc (.map #[] 0)) w.heap.size 0 [] := ⟨.map [], World.ownsMap_made _ _ _ _, fun i j _ _ => by simp; rfl⟩
theorem HadP.look {w : World} {b m : Nat} {P : List (Int × Int)} (h : HadP w b m P) (i j : Int) (hi : In64 i) (hj : In64 j) : (Instr.lookup 71 (.map (some b)) (.agg #[.int .i64 i, .int .i64 j]) false).run Tryz.prog w = .ok (.bool (decide ((i, j) ∈ P))) w := by
  obtain ⟨D, hown, hat⟩ := h
  obtain ⟨v, ps, hrun, hv⟩ := hown.lookup keyedP Tryz.mapPB (Tryz.zeroBoolI w) (plainElem_bool Tryz.underlying4 false) (keyP_of i j hi hj)
  obtain ⟨x, rfl, hz⟩ := plainElem_boolI hv
  rw [hat i j hi hj] at hz
  simp at hz
  rw [hrun, hz.1]
theorem isMapP {w : World} {b m : Nat} {D : DataW Unit} (h : w.ownsMap Tryz.prog 72 (plainElem Tryz.prog 4) b m D) : IsMap D := by
  obtain ⟨es, clock, _, _, _, hD⟩ := h
  exact ⟨_, hD⟩
theorem HadP.put {w' : World} {b m : Nat} {x y : Int} {P : List (Int × Int)} {D : DataW Unit} (hx : In64 x) (hy : In64 y) (hat : ∀ i j : Int, In64 i → In64 j → D.atKey (keyP i j) (.lit (.bool false)) = .lit (.bool (decide ((i, j) ∈ P)))) (hD : IsMap D)
    (h : w'.ownsMap Tryz.prog 72 (plainElem Tryz.prog 4) b m (D.put (keyP x y) (.lit (.bool true)))) : HadP w' b m ((x, y) :: P) := by
  refine ⟨_, h, fun i j hi hj => ?_⟩
  by_cases e : (i, j) = (x, y)
  · cases e
    rw [atKey_put_same (k := keyP x y) hD trivial]
    simp
  · rw [atKey_put_other (fun h => e (keyP_inj hi hj hx hy h)), hat i j hi hj]
    have e' : ¬ (i = x ∧ j = y) := fun q => e (by rw [q.1, q.2])
    simp [e']
theorem HadP.below {w w' : World} {b m : Nat} {P : List (Int × Int)} (h : HadP w b m P) (hb : Below w.heap.size w w') : HadP w' b m P := by
  obtain ⟨D, hown, hat⟩ := h
  have ho : Off (fun _ => False) w w' := Off.of_below hb
  exact ⟨D, hown.kept (row := none) ⟨ho.os, ho.tape, ho.output, ho.size, fun k hk _ => ho.block k hk id⟩ (by simp), hat⟩
theorem HadP.lt {w : World} {b m : Nat} {P : List (Int × Int)} (h : HadP w b m P) : b < w.heap.size := by
  obtain ⟨D, hown, _⟩ := h
  exact hown.lt

/-! ### Each once -/
def hads (l : List Sto.Do) (P : List (Int × Int)) : List (Int × Int) := l.foldl (fun h d => Sto.hadOf d h) P
theorem hads_next {l : List Sto.Do} {k : Nat} {d : Sto.Do} (h : l[k]? = some d) (P : List (Int × Int)) : hads (l.take (k + 1)) P = Sto.hadOf d (hads (l.take k) P) := by
  rw [List.take_add_one, h]
  unfold hads
  rw [List.foldl_append]
  rfl
theorem once_of : ∀ (l : List Sto.Do) (P : List (Int × Int)), (∀ k d, l[k]? = some d → d.kind = 7 ∧ d.turn ≠ 0 → (d.n, d.seg) ∉ hads (l.take k) P) → Sto.Once l P
  | [], _, _ => trivial
  | d :: r, P, h => ⟨h 0 d rfl, once_of r (Sto.hadOf d P) fun k x hx => h (k + 1) x hx⟩
/-- Under way: k are looked at. -/
structure OnceS (w wr : World) (l : List Sto.Do) (k m : Nat) : Prop where
  had : HadP wr w.heap.size m (hads (l.take k) [])
  ok : ∀ (j : Nat) (d : Sto.Do), j < k → l[j]? = some d → d.kind = 7 ∧ d.turn ≠ 0 → (d.n, d.seg) ∉ hads (l.take j) []
  bel : Below w.heap.size w wr
  num : m ≤ k
theorem OnceS.skip {w wr wx : World} {l : List Sto.Do} {k m : Nat} {d : Sto.Do} (h : OnceS w wr l k m) (hb : Below wr.heap.size wr wx) (hx : l[k]? = some d) (hn : ¬ (d.kind = 7 ∧ d.turn ≠ 0)) : OnceS w wx l (k + 1) m := by
  refine ⟨?_, fun j x hj hx' hc => ?_, bt h.bel hb, Nat.le_succ_of_le h.num⟩
  · rw [hads_next hx]
    unfold Sto.hadOf
    rw [if_neg hn]
    exact h.had.below hb
  · by_cases e : j = k
    · subst e
      rw [hx] at hx'
      cases hx'
      exact absurd hc hn
    · exact h.ok j x (by omega) hx' hc
theorem OnceS.more {w wr wx : World} {l : List Sto.Do} {k m m' : Nat} {d : Sto.Do} (h : OnceS w wr l k m) (hb : Below w.heap.size w wx) (hx : l[k]? = some d) (hc : d.kind = 7 ∧ d.turn ≠ 0) (hn : (d.n, d.seg) ∉ hads (l.take k) []) (hp : HadP wx w.heap.size m' ((d.n, d.seg) :: hads (l.take k) [])) (hm : m' ≤ k + 1) : OnceS w wx l (k + 1) m' := by
  refine ⟨?_, fun j x hj hx' hc' => ?_, hb, hm⟩
  · rw [hads_next hx]
    unfold Sto.hadOf
    rw [if_pos hc]
    exact hp
  · by_cases e : j = k
    · subst e
      rw [hx] at hx'
      cases hx'
      exact hn
    · exact h.ok j x (by omega) hx' hc'
/-- A bool that is true only where each is spoilt once. -/
def OnceY (e : Ending) (l : List Sto.Do) : Prop := ∃ y : Bool, e = .returned (.bool y) ∧ (y = true → Sto.Once l [])

end Go.Proofs.YtldjieplbeflfaaGreat
