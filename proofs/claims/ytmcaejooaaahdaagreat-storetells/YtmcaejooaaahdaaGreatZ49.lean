/-
  Texts of the proof, joined: HPlayC, HRead, VSame.
-/
import Derived.Test.YtmcaejooaaahdaaGreatZ48
import Derived.Test.YtmcaejooaaahdaaGreatZ18
namespace Go.Proofs.YtmcaejooaaahdaaGreat
open Go.RowKit

/-- Nothing is played: an error. -/
def NoPlay (e : Ending) (w w' : World) (x : Nat) : Prop := e = .returned (.tuple #[.agg #[.int .i64 0, .int .i64 0, .int .i64 0, .slice none 0 0, .int .i64 0, .slice none 0 0, .slice none 0 0, .int .i64 0, .slice none 0 0], .slice none 0 0, .int .i64 (x : Nat)]) ∧ Below w.heap.size w w'
set_option maxHeartbeats 1000000 in
set_option maxRecDepth 100000 in
theorem play_bad (d s b : Int) (A : Option Addr) (n C : Nat) (w : World) (x : Nat) (hx : x = wrongS d s b) (h0 : x ≠ 0) :
    Calls Tryz.prog 4 #[.agg #[.int .i64 d, .int .i64 s, .int .i64 b], .slice A n C] w fun e w' => NoPlay e w w' x := by
  have b2 : Below w.heap.size w ((w.alloc (.cells #[.int .i64 d, .int .i64 s, .int .i64 b] 23)).alloc (.cells #[.int .i64 0, .int .i64 0, .int .i64 0, .slice none 0 0, .int .i64 0, .slice none 0 0, .slice none 0 0, .int .i64 0, .slice none 0 0] 32)) := ((Below.refl _ _).alloc (Nat.le_refl _) _).alloc ((Below.refl _ _).alloc (Nat.le_refl _) _).size _
  have bB : Below (w.alloc (.cells #[.int .i64 d, .int .i64 s, .int .i64 b] 23)).heap.size (w.alloc (.cells #[.int .i64 d, .int .i64 s, .int .i64 b] 23)) ((w.alloc (.cells #[.int .i64 d, .int .i64 s, .int .i64 b] 23)).alloc (.cells #[.int .i64 0, .int .i64 0, .int .i64 0, .slice none 0 0, .int .i64 0, .slice none 0 0, .slice none 0 0, .int .i64 0, .slice none 0 0] 32)) := (Below.refl _ _).alloc (Nat.le_refl _) _
  have VS := (varN_new w #[.int .i64 d, .int .i64 s, .int .i64 b] 23).below bB
  have VT := varN_new (w.alloc (.cells #[.int .i64 d, .int .i64 s, .int .i64 b] 23)) #[.int .i64 0, .int .i64 0, .int .i64 0, .slice none 0 0, .int .i64 0, .slice none 0 0, .slice none 0 0, .int .i64 0, .slice none 0 0] 32
  rw [show (w.alloc (.cells #[.int .i64 d, .int .i64 s, .int .i64 b] 23)).heap.size = w.heap.size + 1 by simp] at VT
  have HW := storeWrong_any d s b ((w.alloc (.cells #[.int .i64 d, .int .i64 s, .int .i64 b] 23)).alloc (.cells #[.int .i64 0, .int .i64 0, .int .i64 0, .slice none 0 0, .int .i64 0, .slice none 0 0, .slice none 0 0, .int .i64 0, .slice none 0 0] 32))
  rw [← hx] at HW
  have hxn : ((x : Int) != 0) = true := by rw [bne_iff_ne]; omega
  clear hx h0
  clear bB
  go_enter Tryz.func4, Tryz.ntmps4
  go_upto_region 1 with fail
  generalize (w.alloc (.cells #[.int .i64 d, .int .i64 s, .int .i64 b] 23)).alloc (.cells #[.int .i64 0, .int .i64 0, .int .i64 0, .slice none 0 0, .int .i64 0, .slice none 0 0, .slice none 0 0, .int .i64 0, .slice none 0 0] 32) = w2 at *
  have s0 := VS.cell (i := 0) rfl
  have s1 := VS.cell (i := 1) rfl
  have s2 := VS.cell (i := 2) rfl
  have HVT : Hid (VarN w2 (w.heap.size + 1) 32 #[.int .i64 0, .int .i64 0, .int .i64 0, .slice none 0 0, .int .i64 0, .slice none 0 0, .slice none 0 0, .int .i64 0, .slice none 0 0].toList) := VT
  have HB2 : Hid (Below w.heap.size w w2) := b2
  clear VS VT b2
  go_wp2_with fail
  refine HW.mono ?_
  rintro e w3 ⟨rfl, hb3⟩
  have VT3 := HVT.out.below hb3
  have HFI : Hid (∀ w', Off (fun k => k = w.heap.size + 1) w3 w' → Below w.heap.size w w') := fun w' ho => (bt HB2.out hb3).trans (ho.below (bt HB2.out hb3).size fun k e => by omega)
  have b0 := VT3.cell (i := 0) rfl
  have b1 := VT3.cell (i := 1) rfl
  have b2 := VT3.cell (i := 2) rfl
  have b3 := VT3.cell (i := 3) rfl
  have b4 := VT3.cell (i := 4) rfl
  have b5 := VT3.cell (i := 5) rfl
  have b6 := VT3.cell (i := 6) rfl
  have b7 := VT3.cell (i := 7) rfl
  have b8 := VT3.cell (i := 8) rfl
  have f0 := VT3.frozen 0
  have f1 := VT3.frozen 1
  have f2 := VT3.frozen 2
  have f3 := VT3.frozen 3
  have f4 := VT3.frozen 4
  have f5 := VT3.frozen 5
  have f6 := VT3.frozen 6
  have f7 := VT3.frozen 7
  have f8 := VT3.frozen 8
  clear VT3 hb3 s0 s1 s2 HW
  go_wp2_with fail
  refine bodyPost_ret (v := .tuple #[.agg #[.int .i64 0, .int .i64 0, .int .i64 0, .slice none 0 0, .int .i64 0, .slice none 0 0, .slice none 0 0, .int .i64 0, .slice none 0 0], .slice none 0 0, .int .i64 (x : Nat)]) (by simp [results, Tryz.results4, go_sem, b0, b1, b2, b3, b4, b5, b6, b7, b8]) rfl ⟨rfl, ?_⟩
  exact HFI.out _ (off_nine _ _ _ _ _ _ _ _ _ _ _)
set_option maxHeartbeats 1000000 in
set_option maxRecDepth 100000 in
theorem play_many (d s b : Int) (A : Option Addr) (n C : Nat) (w : World) (hx : wrongS d s b = 0) (h80 : 80 < n) :
    Calls Tryz.prog 4 #[.agg #[.int .i64 d, .int .i64 s, .int .i64 b], .slice A n C] w fun e w' => NoPlay e w w' 5 := by
  have b2 : Below w.heap.size w ((w.alloc (.cells #[.int .i64 d, .int .i64 s, .int .i64 b] 23)).alloc (.cells #[.int .i64 0, .int .i64 0, .int .i64 0, .slice none 0 0, .int .i64 0, .slice none 0 0, .slice none 0 0, .int .i64 0, .slice none 0 0] 32)) := ((Below.refl _ _).alloc (Nat.le_refl _) _).alloc ((Below.refl _ _).alloc (Nat.le_refl _) _).size _
  have bB : Below (w.alloc (.cells #[.int .i64 d, .int .i64 s, .int .i64 b] 23)).heap.size (w.alloc (.cells #[.int .i64 d, .int .i64 s, .int .i64 b] 23)) ((w.alloc (.cells #[.int .i64 d, .int .i64 s, .int .i64 b] 23)).alloc (.cells #[.int .i64 0, .int .i64 0, .int .i64 0, .slice none 0 0, .int .i64 0, .slice none 0 0, .slice none 0 0, .int .i64 0, .slice none 0 0] 32)) := (Below.refl _ _).alloc (Nat.le_refl _) _
  have VS := (varN_new w #[.int .i64 d, .int .i64 s, .int .i64 b] 23).below bB
  have VT := varN_new (w.alloc (.cells #[.int .i64 d, .int .i64 s, .int .i64 b] 23)) #[.int .i64 0, .int .i64 0, .int .i64 0, .slice none 0 0, .int .i64 0, .slice none 0 0, .slice none 0 0, .int .i64 0, .slice none 0 0] 32
  rw [show (w.alloc (.cells #[.int .i64 d, .int .i64 s, .int .i64 b] 23)).heap.size = w.heap.size + 1 by simp] at VT
  have HW := storeWrong_any d s b ((w.alloc (.cells #[.int .i64 d, .int .i64 s, .int .i64 b] 23)).alloc (.cells #[.int .i64 0, .int .i64 0, .int .i64 0, .slice none 0 0, .int .i64 0, .slice none 0 0, .slice none 0 0, .int .i64 0, .slice none 0 0] 32))
  rw [hx] at HW
  have hn : (80 : Int) < (n : Int) := by omega
  have hnd : decide ((80 : Int) < (n : Int)) = true := decide_eq_true hn
  clear hx h80
  clear bB
  go_enter Tryz.func4, Tryz.ntmps4
  go_upto_region 1 with fail
  generalize (w.alloc (.cells #[.int .i64 d, .int .i64 s, .int .i64 b] 23)).alloc (.cells #[.int .i64 0, .int .i64 0, .int .i64 0, .slice none 0 0, .int .i64 0, .slice none 0 0, .slice none 0 0, .int .i64 0, .slice none 0 0] 32) = w2 at *
  have s0 := VS.cell (i := 0) rfl
  have s1 := VS.cell (i := 1) rfl
  have s2 := VS.cell (i := 2) rfl
  have HVT : Hid (VarN w2 (w.heap.size + 1) 32 #[.int .i64 0, .int .i64 0, .int .i64 0, .slice none 0 0, .int .i64 0, .slice none 0 0, .slice none 0 0, .int .i64 0, .slice none 0 0].toList) := VT
  have HB2 : Hid (Below w.heap.size w w2) := b2
  clear VS VT b2
  go_wp2_with fail
  refine HW.mono ?_
  rintro e w3 ⟨rfl, hb3⟩
  have VT3 := HVT.out.below hb3
  have HFI : Hid (∀ w', Off (fun k => k = w.heap.size + 1) w3 w' → Below w.heap.size w w') := fun w' ho => (bt HB2.out hb3).trans (ho.below (bt HB2.out hb3).size fun k e => by omega)
  have b0 := VT3.cell (i := 0) rfl
  have b1 := VT3.cell (i := 1) rfl
  have b2 := VT3.cell (i := 2) rfl
  have b3 := VT3.cell (i := 3) rfl
  have b4 := VT3.cell (i := 4) rfl
  have b5 := VT3.cell (i := 5) rfl
  have b6 := VT3.cell (i := 6) rfl
  have b7 := VT3.cell (i := 7) rfl
  have b8 := VT3.cell (i := 8) rfl
  have f0 := VT3.frozen 0
  have f1 := VT3.frozen 1
  have f2 := VT3.frozen 2
  have f3 := VT3.frozen 3
  have f4 := VT3.frozen 4
  have f5 := VT3.frozen 5
  have f6 := VT3.frozen 6
  have f7 := VT3.frozen 7
  have f8 := VT3.frozen 8
  clear VT3 hb3 s0 s1 s2 HW
  go_wp2_with fail
  refine bodyPost_ret (v := .tuple #[.agg #[.int .i64 0, .int .i64 0, .int .i64 0, .slice none 0 0, .int .i64 0, .slice none 0 0, .slice none 0 0, .int .i64 0, .slice none 0 0], .slice none 0 0, .int .i64 (5 : Nat)]) (by simp [results, Tryz.results4, go_sem, b0, b1, b2, b3, b4, b5, b6, b7, b8]) rfl ⟨rfl, ?_⟩
  exact HFI.out _ (off_nine _ _ _ _ _ _ _ _ _ _ _)

end Go.Proofs.YtmcaejooaaahdaaGreat

namespace Go.Proofs.YtmcaejooaaahdaaGreat
open Go.RowKit

/-! ### What lies in a row of the call's own is read -/
theorem row_shape {w : World} {N : Nat} {t : TypeId} {z : Nat} {v : Value} {n : Nat} {xs : List Value} (h : w.ownsRow N t z v n xs) : ∃ A C, v = .slice A n C ∧ n ≤ C ∧ C ≤ maxLen ∧ (1 ≤ n → ∃ g, A = some ⟨g, 0, none⟩) := by
  rcases h.2 with ⟨rfl, h0⟩ | ⟨g, cap, cur, rfl, _, _, h1, h2, _⟩
  · subst h0
    exact ⟨none, 0, rfl, Nat.le_refl _, Nat.zero_le _, fun h => absurd h (by decide)⟩
  · exact ⟨_, cap, rfl, h1, h2, fun _ => ⟨g, rfl⟩⟩
theorem row_cell {α : Type} {f : α → List Value} {w : World} {N : Nat} {t : TypeId} {z : Nat} {v : Value} {n : Nat} {es : List α} (h : w.ownsRow N t z v n (es.flatMap f)) (hf : ∀ a, a ∈ es → (f a).length = z) {g : Nat} (hg : v.ownBlock = some g) {i j : Nat} {a : α} {u : Value} (ha : es[i]? = some a) (hj : (f a)[j]? = some u) : w.cell? ⟨g, i * z + j, none⟩ = some u := by
  have hjl : j < z := by
    have := (List.getElem?_eq_some_iff.1 hj).1
    rw [hf a (List.mem_of_getElem? ha)] at this
    exact this
  have := h.cells hg (i * z + j) u ((flat_get f z es hf i j hjl a ha).trans hj)
  rw [WideShapes.add_plain, Nat.zero_add] at this
  exact this

/-! ### Numbers, blocks, disks -/
/-- Numbers in a row. -/
def Nms (w : World) (v : Value) (l : List Int) : Prop := ∃ A cap, v = .slice A l.length cap ∧ l.length ≤ cap ∧ cap ≤ maxLen ∧ ∀ i x, l[i]? = some x → ∃ b o, A = some ⟨b, o, none⟩ ∧ w.cell? ⟨b, o + i, none⟩ = some (.int .i64 x)
theorem Nms.below {w w' : World} {v : Value} {l : List Int} (h : Nms w v l) (hb : Below w.heap.size w w') : Nms w' v l := by
  obtain ⟨A, cap, hv, h1, h2, h3⟩ := h
  refine ⟨A, cap, hv, h1, h2, fun i e he => ?_⟩
  obtain ⟨b, o, hA, hi⟩ := h3 i e he
  exact ⟨b, o, hA, (hb.cell (p := ⟨b, o + i, none⟩) (World.block_lt_of_cell? _ _ hi)).trans hi⟩
theorem Nms.nil (w : World) : Nms w (.slice none 0 0) [] := ⟨none, 0, rfl, Nat.le_refl _, Nat.zero_le _, fun _ _ he => (by cases he)⟩
theorem Nms.shape {w : World} {v : Value} {l : List Int} (h : Nms w v l) : ∃ A C, v = .slice A l.length C := by
  obtain ⟨A, C, hv, _⟩ := h
  exact ⟨A, C, hv⟩
theorem nms_own {w : World} {N : Nat} {v : Value} {l : List Int} (h : w.ownsRow N 3 1 v l.length (l.flatMap inCells)) : Nms w v l := by
  obtain ⟨A, C, rfl, h1, h2, h3⟩ := row_shape h
  refine ⟨A, C, rfl, h1, h2, fun i x hx => ?_⟩
  obtain ⟨g, rfl⟩ := h3 (by have := (List.getElem?_eq_some_iff.1 hx).1; omega)
  have := row_cell (f := inCells) h (fun _ _ => rfl) (g := g) rfl (j := 0) hx rfl
  exact ⟨g, 0, rfl, by simpa using this⟩
/-- A block that is held: its segment, its bytes. -/
def HdIn (w : World) (b o : Nat) (h : Int × List Nat) : Prop := ∃ v, w.cell? ⟨b, o, none⟩ = some (.int .i64 h.1) ∧ w.cell? ⟨b, o + 1, none⟩ = some v ∧ BytL w v h.2
theorem HdIn.below {w w' : World} {b o : Nat} {x : Int × List Nat} (h : HdIn w b o x) (hb : Below w.heap.size w w') : HdIn w' b o x := by
  obtain ⟨v, c0, c1, he⟩ := h
  have hp : b < w.heap.size := World.block_lt_of_cell? _ _ c0
  exact ⟨v, (hb.cell (p := ⟨b, o, none⟩) hp).trans c0, (hb.cell (p := ⟨b, o + 1, none⟩) hp).trans c1, he.below hb⟩
def Hes (w : World) (v : Value) (l : List (Int × List Nat)) : Prop := ∃ A cap, v = .slice A l.length cap ∧ l.length ≤ cap ∧ cap ≤ maxLen ∧ ∀ i x, l[i]? = some x → ∃ b o, A = some ⟨b, o, none⟩ ∧ HdIn w b (o + i * 2) x
theorem Hes.below {w w' : World} {v : Value} {l : List (Int × List Nat)} (h : Hes w v l) (hb : Below w.heap.size w w') : Hes w' v l := by
  obtain ⟨A, cap, hv, h1, h2, h3⟩ := h
  refine ⟨A, cap, hv, h1, h2, fun i e he => ?_⟩
  obtain ⟨b, o, hA, hi⟩ := h3 i e he
  exact ⟨b, o, hA, hi.below hb⟩
def DkIn (w : World) (b o : Nat) (d : Sto.Disk) : Prop := ∃ v, w.cell? ⟨b, o, none⟩ = some (.bool d.gone) ∧ w.cell? ⟨b, o + 1, none⟩ = some v ∧ Hes w v d.bl
theorem DkIn.below {w w' : World} {b o : Nat} {x : Sto.Disk} (h : DkIn w b o x) (hb : Below w.heap.size w w') : DkIn w' b o x := by
  obtain ⟨v, c0, c1, he⟩ := h
  have hp : b < w.heap.size := World.block_lt_of_cell? _ _ c0
  exact ⟨v, (hb.cell (p := ⟨b, o, none⟩) hp).trans c0, (hb.cell (p := ⟨b, o + 1, none⟩) hp).trans c1, he.below hb⟩
def Dks (w : World) (v : Value) (l : List Sto.Disk) : Prop := ∃ A cap, v = .slice A l.length cap ∧ l.length ≤ cap ∧ cap ≤ maxLen ∧ ∀ i x, l[i]? = some x → ∃ b o, A = some ⟨b, o, none⟩ ∧ DkIn w b (o + i * 2) x
theorem Dks.below {w w' : World} {v : Value} {l : List Sto.Disk} (h : Dks w v l) (hb : Below w.heap.size w w') : Dks w' v l := by
  obtain ⟨A, cap, hv, h1, h2, h3⟩ := h
  refine ⟨A, cap, hv, h1, h2, fun i e he => ?_⟩
  obtain ⟨b, o, hA, hi⟩ := h3 i e he
  exact ⟨b, o, hA, hi.below hb⟩
theorem Dks.nil (w : World) : Dks w (.slice none 0 0) [] := ⟨none, 0, rfl, Nat.le_refl _, Nat.zero_le _, fun _ _ he => (by cases he)⟩
theorem Bats.nil8 (w : World) : Bats w (.slice none 0 0) [] := ⟨none, 0, rfl, Nat.le_refl _, Nat.zero_le _, fun _ _ he => (by cases he)⟩
theorem dks_own {w : World} {N D : Nat} {V : Nat → Value} {U : Nat → List HeC} {ds : List Sto.Disk} (h : DkAt w N D V U ds) (hl : ds.length ≤ 100) : Dks w (.slice (some ⟨D, 0, none⟩) ds.length ds.length) ds := by
  refine ⟨_, _, rfl, Nat.le_refl _, by unfold maxLen; omega, fun i d hd => ⟨D, 0, rfl, V i, ?_, ?_, ?_⟩⟩
  · have hi := (List.getElem?_eq_some_iff.1 hd).1
    have := h.row.cell (j := i * 2) (by omega)
    rw [Nat.zero_add, this]
    unfold dkF
    rw [if_pos (by omega), Nat.mul_div_cancel _ (by decide), List.getD_eq_getElem?_getD, hd]
    rfl
  · have hi := (List.getElem?_eq_some_iff.1 hd).1
    have := h.row.cell (j := i * 2 + 1) (by omega)
    rw [Nat.zero_add, this]
    unfold dkF
    rw [if_neg (by omega), show (i * 2 + 1) / 2 = i by omega]
  · have hi := (List.getElem?_eq_some_iff.1 hd).1
    have ho := h.own i hi
    have hb := h.bl i d hd
    obtain ⟨A, C, hv, h1, h2, h3⟩ := row_shape ho
    refine ⟨A, C, by rw [hb, List.length_map]; exact hv, by rw [hb, List.length_map]; exact h1, h2, fun k x hx => ?_⟩
    rw [hb, List.getElem?_map] at hx
    obtain ⟨q, hq, rfl⟩ := Option.map_eq_some_iff.1 hx
    obtain ⟨g, rfl⟩ := h3 (by have := (List.getElem?_eq_some_iff.1 hq).1; omega)
    have hg : (V i).ownBlock = some g := by rw [hv]; rfl
    refine ⟨g, 0, rfl, slV q.2.1, ?_, ?_, (h.byt i q hi (List.mem_of_getElem? hq)).bytL⟩
    · have := row_cell (f := heCells) ho (fun _ _ => rfl) hg (j := 0) hq rfl
      rw [Nat.zero_add]
      exact this
    · have := row_cell (f := heCells) ho (fun _ _ => rfl) hg (j := 1) hq rfl
      rw [Nat.zero_add]
      exact this
theorem bats_own {w : World} {N : Nat} {E : Nat → Prop} {vt : Value} {tc : List (Int × Sl)} {l : List Evt.Bat} (h : TlAt w N E vt tc l) : Bats w vt l := by
  obtain ⟨A, C, hv, h1, h2, h3⟩ := row_shape h.own
  refine ⟨A, C, hv, h1, h2, fun i x hx => ?_⟩
  have hi := (List.getElem?_eq_some_iff.1 hx).1
  obtain ⟨q, hq⟩ : ∃ q, tc[i]? = some q := ⟨tc[i]'(by rw [h.len]; exact hi), List.getElem?_eq_getElem _⟩
  obtain ⟨g, rfl⟩ := h3 (by omega)
  have hg : vt.ownBlock = some g := by rw [hv]; rfl
  obtain ⟨e1, e2⟩ := h.evs i q x hq hx
  refine ⟨g, 0, rfl, slV q.2, ?_, ?_, e2.1⟩
  · have := row_cell (f := tbCells) h.own (fun _ _ => rfl) hg (j := 0) hq rfl
    rw [Nat.zero_add, e1]
    exact this
  · have := row_cell (f := tbCells) h.own (fun _ _ => rfl) hg (j := 1) hq rfl
    rw [Nat.zero_add]
    exact this

/-! ### A store -/
/-- A store, as it is read. -/
structure StIn (w : World) (vd vt vs va : Value) (s : Sto.St) : Prop where
  dk : Dks w vd s.disks
  tl : Bats w vt s.tail
  sn : Nms w vs s.seen
  ac : Accs w va s.acc
theorem StIn.below {w w' : World} {vd vt vs va : Value} {s : Sto.St} (h : StIn w vd vt vs va s) (hb : Below w.heap.size w w') : StIn w' vd vt vs va s := ⟨h.dk.below hb, h.tl.below hb, h.sn.below hb, h.ac.below hb⟩
theorem StP.read {w : World} {N R D : Nat} {F E : Nat → Prop} {c : Sto.Cfg} {s : Sto.St} {V : Nat → Value} {U : Nat → List HeC} {vt vs va : Value} {tc : List (Int × Sl)} (h : StP w N R F E c s D V U vt vs va tc) : StIn w (.slice (some ⟨D, 0, none⟩) s.disks.length s.disks.length) vt vs va s :=
  ⟨dks_own h.dk (by have := h.wf.len; have := h.wf.d8; have := h.wf.s4; omega), bats_own h.tail, nms_own h.seen, h.acc.1⟩

/-! ### Answers -/
/-- An answer lies at (b, o). -/
def AnIn (w : World) (b o : Nat) (a : Sto.Ans) : Prop := ∃ ve va, w.cell? ⟨b, o, none⟩ = some (.int .i64 (a.err : Nat)) ∧ w.cell? ⟨b, o + 1, none⟩ = some (.int .i64 a.n) ∧ w.cell? ⟨b, o + 2, none⟩ = some ve ∧ w.cell? ⟨b, o + 3, none⟩ = some (.int .i64 a.vu) ∧ w.cell? ⟨b, o + 4, none⟩ = some va ∧ Evs w ve a.evs ∧ Accs w va a.vl
theorem AnIn.below {w w' : World} {b o : Nat} {a : Sto.Ans} (h : AnIn w b o a) (hb : Below w.heap.size w w') : AnIn w' b o a := by
  obtain ⟨ve, va, c0, c1, c2, c3, c4, he, ha⟩ := h
  have hp : b < w.heap.size := World.block_lt_of_cell? _ _ c0
  exact ⟨ve, va, (hb.cell (p := ⟨b, o, none⟩) hp).trans c0, (hb.cell (p := ⟨b, o + 1, none⟩) hp).trans c1, (hb.cell (p := ⟨b, o + 2, none⟩) hp).trans c2, (hb.cell (p := ⟨b, o + 3, none⟩) hp).trans c3, (hb.cell (p := ⟨b, o + 4, none⟩) hp).trans c4, he.below hb, ha.below hb⟩
def Anss (w : World) (v : Value) (l : List Sto.Ans) : Prop := ∃ A cap, v = .slice A l.length cap ∧ l.length ≤ cap ∧ cap ≤ maxLen ∧ ∀ i a, l[i]? = some a → ∃ b o, A = some ⟨b, o, none⟩ ∧ AnIn w b (o + i * 5) a
theorem Anss.below {w w' : World} {v : Value} {l : List Sto.Ans} (h : Anss w v l) (hb : Below w.heap.size w w') : Anss w' v l := by
  obtain ⟨A, cap, hv, h1, h2, h3⟩ := h
  refine ⟨A, cap, hv, h1, h2, fun i e he => ?_⟩
  obtain ⟨b, o, hA, hi⟩ := h3 i e he
  exact ⟨b, o, hA, hi.below hb⟩
theorem AnsRow.read {w : World} {N : Nat} {F : Nat → Prop} {v : Value} {qs : List AnC} {al : List Sto.Ans} (h : AnsRow w N F v qs al) : Anss w v al := by
  obtain ⟨A, C, hv, h1, h2, h3⟩ := row_shape h.own
  have hl := h.len
  refine ⟨A, C, by rw [← hl]; exact hv, by omega, h2, fun i a ha => ?_⟩
  have hi := (List.getElem?_eq_some_iff.1 ha).1
  obtain ⟨q, hq⟩ : ∃ q, qs[i]? = some q := ⟨qs[i]'(by omega), List.getElem?_eq_getElem _⟩
  obtain ⟨g, rfl⟩ := h3 (by omega)
  have hg : v.ownBlock = some g := by rw [hv]; rfl
  obtain ⟨ve, va, hag, hev, hac⟩ := h.ans i q a hq ha
  have hcl : anCells q = [.int .i64 (a.err : Nat), .int .i64 a.n, ve, .int .i64 a.vu, va] := congrArg Array.toList (Value.agg.inj hag)
  have hc : ∀ j u, (anCells q)[j]? = some u → w.cell? ⟨g, 0 + i * 5 + j, none⟩ = some u := fun j u hj => by
    have := row_cell (f := anCells) h.own (fun _ _ => rfl) hg hq hj
    rw [Nat.zero_add]
    exact this
  exact ⟨g, 0, rfl, ve, va, hc 0 _ (by rw [hcl]; rfl), hc 1 _ (by rw [hcl]; rfl), hc 2 _ (by rw [hcl]; rfl), hc 3 _ (by rw [hcl]; rfl), hc 4 _ (by rw [hcl]; rfl), hev.1, hac.1⟩
theorem Dos.below {w w' : World} {v : Value} {l : List Sto.Do} (h : Dos w v l) (hb : Below w.heap.size w w') : Dos w' v l := by
  obtain ⟨A, cap, hv, h1, h2, h3⟩ := h
  refine ⟨A, cap, hv, h1, h2, fun i e he => ?_⟩
  obtain ⟨b, o, hA, hi⟩ := h3 i e he
  exact ⟨b, o, hA, hi.below rfl hb⟩
/-- What Play told, as it is read: it lies in blocks of its own, so that what becomes of others is no matter. -/
def PlayR (e : Ending) (w w' : World) (c : Sto.Cfg) (r : Sto.St × List Sto.Ans) : Prop := ∃ vd vt vs va vr, e = .returned (.tuple #[.agg #[.int .i64 (c.d : Int), .int .i64 (c.s : Int), .int .i64 (c.b : Int), vd, .int .i64 (r.1.segs : Int), vt, vs, .int .i64 r.1.u, va], vr, .int .i64 0]) ∧ StIn w' vd vt vs va r.1 ∧ Anss w' vr r.2 ∧ Below w.heap.size w w' ∧ ∀ w'', Off (fun k => k < w.heap.size) w' w'' → StIn w'' vd vt vs va r.1 ∧ Anss w'' vr r.2
theorem AnsRow.far {w w' : World} {N : Nat} {F : Nat → Prop} {v : Value} {qs : List AnC} {al : List Sto.Ans} (h : AnsRow w N F v qs al) (ho : Off (fun k => k < N) w w') : AnsRow w' N F v qs al :=
  ⟨owns_off h.own ho fun g hg z => absurd (h.own.lt g hg).1 (Nat.not_le.2 z), h.len, fun i q a hq ha => (h.ans i q a hq ha).move (fun k hk z => ho.block k hk (Nat.not_lt.2 z.2.2.2)) fun _ hk z => ⟨z.1, Nat.lt_of_lt_of_le hk ho.size, z.2.2⟩⟩
theorem PlayO.read {e : Ending} {w w' : World} {X : Sto.Six} {c : Sto.Cfg} {l : List Sto.Do} (h : PlayO e w w' X c l) : PlayR e w w' c (Sto.steps X c (Sto.start c) l) := by
  obtain ⟨N, R, F, E, D, V, U, vt, vs, va, tc, vr, qs, rfl, hS, hA, hb, rfl, hE⟩ := h
  exact ⟨_, vt, vs, va, vr, rfl, hS.read, hA.read, hb, fun w'' ho => ⟨(hS.out ho fun k z => ⟨fun y => absurd (hS.lt k y).1 (Nat.not_le.2 z), fun y => absurd (hE k y) (Nat.not_le.2 z)⟩).read, (hA.far ho).read⟩⟩
theorem playR {X : Sto.Six} (hX : Sto.SixOk X) (c : Sto.Cfg) (d s b : Int) (hd : d = (c.d : Int)) (hs : s = (c.s : Int)) (hb : b = (c.b : Int)) (h1 : 1 ≤ c.d) (h2 : c.d ≤ 8) (h3 : c.s ≤ 4) (h4 : 1 ≤ c.b) (h5 : c.b ≤ 10) (v : Value) (l : List Sto.Do) (w : World) (hD : Dos w v l) (hl : l.length ≤ 80) :
    Calls Tryz.prog 4 #[.agg #[.int .i64 d, .int .i64 s, .int .i64 b], v] w fun e w' => PlayR e w w' c (Sto.steps X c (Sto.start c) l) := by
  subst hd hs hb
  exact (play_ok hX c h1 h2 h3 h4 h5 v l w hD hl).mono fun e w' h => h.read
/-- A right setup, as numbers. -/
theorem setup_ok {d s b : Int} (h : wrongS d s b = 0) : ∃ c : Sto.Cfg, d = (c.d : Int) ∧ s = (c.s : Int) ∧ b = (c.b : Int) ∧ 1 ≤ c.d ∧ c.d ≤ 8 ∧ c.s ≤ 4 ∧ 1 ≤ c.b ∧ c.b ≤ 10 := by
  have := wrongS_ok h
  exact ⟨⟨d.toNat, s.toNat, b.toNat⟩, by show d = (d.toNat : Int); omega, by show s = (s.toNat : Int); omega, by show b = (b.toNat : Int); omega, by show 1 ≤ d.toNat; omega, by show d.toNat ≤ 8; omega, by show s.toNat ≤ 4; omega, by show 1 ≤ b.toNat; omega, by show b.toNat ≤ 10; omega⟩
end Go.Proofs.YtmcaejooaaahdaaGreat

namespace Go.Proofs.YtmcaejooaaahdaaGreat
open Go.RowKit

set_option maxHeartbeats 2000000 in
set_option maxRecDepth 100000 in
theorem sameView_any (u u' : Int) (v v' : Value) (l l' : List Vw.Acc) (w : World) (h : Accs w v l) (h' : Accs w v' l') :
    Calls Tryz.prog 15 #[.agg #[.int .i64 u, v], .agg #[.int .i64 u', v']] w fun e w' => Tell e (u = u' ∧ l = l') ∧ Below w.heap.size w w' := by
  have hln := h.len
  obtain ⟨A, C, rfl, _, _, ha⟩ := h
  obtain ⟨A', C', rfl, _, _, ha'⟩ := h'
  have hgd : Tryz.prog.eqGuardType Tryz.prog.depth 93 = false := by kernel_rfl
  have h1 : Below w.heap.size w (w.alloc (.cells #[.int .i64 u, .slice A l.length C] 30)) := (Below.refl _ _).alloc (Nat.le_refl _) _
  have h2 := h1.alloc h1.size (.cells #[.int .i64 u', .slice A' l'.length C'] 30)
  have hb2 : Below (w.alloc (.cells #[.int .i64 u, .slice A l.length C] 30)).heap.size (w.alloc (.cells #[.int .i64 u, .slice A l.length C] 30)) ((w.alloc (.cells #[.int .i64 u, .slice A l.length C] 30)).alloc (.cells #[.int .i64 u', .slice A' l'.length C'] 30)) := (Below.refl _ _).alloc (Nat.le_refl _) _
  have VV := (varF_new w 30 (.int .i64 u) (.slice A l.length C)).below hb2
  have VW := varF_new (w.alloc (.cells #[.int .i64 u, .slice A l.length C] 30)) 30 (.int .i64 u') (.slice A' l'.length C')
  have z1 : (w.alloc (.cells #[.int .i64 u, .slice A l.length C] 30)).heap.size = w.heap.size + 1 := by simp
  rw [z1] at VW
  clear z1 hb2 h1
  have HA : Hid (∀ i a, l[i]? = some a → ∃ b o, A = some ⟨b, o, none⟩ ∧ AcIn w b (o + i * 4) a) := ha
  have HA' : Hid (∀ i a, l'[i]? = some a → ∃ b o, A' = some ⟨b, o, none⟩ ∧ AcIn w b (o + i * 4) a) := ha'
  clear ha ha'
  obtain ⟨c0, c1, _⟩ := VV
  obtain ⟨d0, d1, _⟩ := VW
  by_cases q0 : u = u'
  case neg =>
    have H : Hid (¬ (u = u' ∧ l = l')) := fun q => q0 q.1
    have q1 : (u != u') = true := by rw [bne_iff_ne]; exact q0
    clear q0
    go_enter Tryz.func15, Tryz.ntmps15
    go_wp2_with fail
    go_ret
    exact ⟨tell_no H.out, h2⟩
  have q1 : (u != u') = false := by rw [bne_eq_false_iff_eq]; exact q0
  have HU : Hid (u = u') := q0
  clear q0
  by_cases q2 : l.length = l'.length
  case neg =>
    have H : Hid (¬ (u = u' ∧ l = l')) := fun q => q2 (by rw [q.2])
    have q3 : ((l.length : Int) != (l'.length : Int)) = true := by rw [bne_iff_ne]; omega
    clear q2
    go_enter Tryz.func15, Tryz.ntmps15
    go_wp2_with fail
    go_ret
    exact ⟨tell_no H.out, h2⟩
  have HL : Hid (l.length = l'.length) := q2
  have q3 : ((l.length : Int) != (l'.length : Int)) = false := by rw [bne_eq_false_iff_eq]; omega
  have hl2 : l'.length = l.length := q2.symm
  rw [hl2] at d1 q3 h2 c0 c1 d0
  rw [hl2]
  clear q2 hl2
  go_enter Tryz.func15, Tryz.ntmps15
  go_wp2_with fail
  generalize (w.alloc (.cells #[.int .i64 u, .slice A l.length C] 30)).alloc (.cells #[.int .i64 u', .slice A' l.length C'] 30) = W0 at h2 c0 c1 d0 d1 ⊢
  go_loopw [23] (fun x wr => ∃ k : Nat, k ≤ l.length ∧ x = .int .i64 k ∧ Hid (∀ j, j < k → l[j]? = l'[j]?) ∧ Hid (∃ m, wr = W0.drewN m)) (fun x _ => l.length - (intOf x).toNat)
  case atStart => exact ⟨0, Nat.zero_le _, rfl, fun j hj => absurd hj (Nat.not_lt_zero j), ⟨0, rfl⟩⟩
  case round =>
    obtain ⟨k, hk, rfl, HS, HM⟩ := hrel
    have hbw : Below W0.heap.size W0 wr := by
      obtain ⟨m, e⟩ := HM.out
      rw [e]
      exact drewN_below W0 m
    have c1 := (hbw.cell (p := ⟨w.heap.size, 1, none⟩) (World.block_lt_of_cell? _ _ c1)).trans c1
    have d1 := (hbw.cell (p := ⟨w.heap.size + 1, 1, none⟩) (World.block_lt_of_cell? _ _ d1)).trans d1
    by_cases hlt : k < l.length
    · have hlt' : (k : Int) < (l.length : Int) := by omega
      obtain ⟨a, hak⟩ : ∃ a, l[k]? = some a := ⟨l[k], List.getElem?_eq_getElem hlt⟩
      obtain ⟨a', hak'⟩ : ∃ a, l'[k]? = some a := ⟨l'[k]'(by have := HL.out; omega), List.getElem?_eq_getElem (by have := HL.out; omega)⟩
      obtain ⟨b, o, rfl, hin⟩ := HA.out k a hak
      obtain ⟨b', o', rfl, hin'⟩ := HA'.out k a' hak'
      obtain ⟨s, hs1, hs2, x0, x1, x2, x3⟩ := hin.below (bt h2 hbw)
      obtain ⟨s', hs1', hs2', y0, y1, y2, y3⟩ := hin'.below (bt h2 hbw)
      obtain ⟨y, hy, _, hq⟩ := acc_eq ⟨s, hs1, hs2, rfl⟩ ⟨s', hs1', hs2', rfl⟩
      have HE : Hid (l[k]? = some a ∧ l'[k]? = some a') := ⟨hak, hak'⟩
      have HY : Hid (y = true ↔ a = a') := hy
      clear hak hak' hin hin' hs2 hs2' hs1 hs1' hy
      cases y with
      | true =>
        have HR : Hid (a = a') := HY.out.1 rfl
        clear HY
        go_wp2_with fail
        go_quiet (fail)
        go_wp2_with fail
        refine ⟨⟨k + 1, by omega, by go_num, fun j hj => ?_, dn_trans HM.out _⟩, by simp [intOf]; omega⟩
        by_cases e : j = k
        · rw [e, HE.out.1, HE.out.2, HR.out]
        · exact HS.out j (by omega)
      | false =>
        have HN : Hid (¬ (u = u' ∧ l = l')) := fun q => by
          have h1 := HE.out.1
          rw [q.2, HE.out.2, Option.some.injEq] at h1
          exact absurd (HY.out.2 h1.symm) (by decide)
        clear HY
        go_wp2_with fail
        go_quiet (fail)
        go_wp2_with fail
        go_ret
        exact ⟨tell_no HN.out, bdn (bt h2 hbw) _⟩
    · obtain rfl : k = l.length := by omega
      have HYES : Hid (u = u' ∧ l = l') := ⟨HU.out, list_eq_of HL.out (fun j hj => HS.out j hj)⟩
      go_wp2_with fail
      go_ret
      exact ⟨tell_yes HYES.out, bt h2 hbw⟩

end Go.Proofs.YtmcaejooaaahdaaGreat
