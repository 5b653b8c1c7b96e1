/-
  Texts of the proof, joined: HAlvP, HAlv, HAlvW, HMore.
-/
import Derived.Test.YtldjieplbeflfaaGreatY44
import Derived.Test.YtldjieplbeflfaaGreatY43
import Derived.Laws.OwnMore
import Derived.Deep.RegionHeld3
import Derived.Deep.Cut
namespace Go.Proofs.YtldjieplbeflfaaGreat

abbrev cA : Sto.Cfg := ⟨2, 1, 1⟩
abbrev evA : Evt.Ev := ⟨[97], 1, 0⟩
abbrev dA1 : Sto.Do := ⟨1, 0, 0, 0, 0, ⟨1, [evA]⟩, [], -1⟩
abbrev dA2 : Sto.Do := ⟨5, 0, 0, 0, 0, ⟨0, []⟩, [], 0⟩
abbrev dA3 : Sto.Do := ⟨3, 0, 0, 0, 0, ⟨0, []⟩, [], 0⟩
set_option maxRecDepth 100000 in
theorem putA {X : Sto.Six} (hX : Sto.SixOk X) : ∃ L acc, Sto.put X cA (Sto.start cA) dA1 = (⟨Sto.write 0 L 0 (Sto.start cA).disks, 1, [], [1], 1, acc⟩, Sto.told 1) := by
  have hl : (X.lay (Evt.encL [⟨1, [evA]⟩]) 0 cA).1 = 0 := by
    rw [hX.lay]
    unfold Sto.layX
    rw [if_pos (by decide)]
  have h1 : ¬ (Evt.wrongB dA1.bat).1 ≠ 0 := by decide
  have h4 : ¬ (Vw.fold (Sto.start cA).u (Sto.start cA).acc dA1.bat.evs).1.1 ≠ 0 := by decide
  have h5 : (Vw.fold (Sto.start cA).u (Sto.start cA).acc dA1.bat.evs).2.1 = 1 := by decide
  have h6 : ¬ (Evt.wrongL [⟨1, [evA]⟩]).1 ≠ 0 := by decide
  have hd : Sto.laid X cA (Sto.start cA) dA1.bat (Vw.fold (Sto.start cA).u (Sto.start cA).acc dA1.bat.evs).2 = (0, ⟨Sto.write 0 (X.lay (Evt.encL [⟨1, [evA]⟩]) 0 cA).2 0 (Sto.start cA).disks, 1, [], [1], 1, (Vw.fold (Sto.start cA).u (Sto.start cA).acc dA1.bat.evs).2.2⟩) := by
    rw [laid_keep]
    have hk : keepS X cA (Sto.start cA) dA1.bat = (0, { Sto.start cA with disks := Sto.write 0 (X.lay (Evt.encL [⟨1, [evA]⟩]) 0 cA).2 0 (Sto.start cA).disks, segs := 1, tail := [] }) := by
      unfold keepS
      rw [if_neg (by decide)]
      refine (if_neg h6).trans ?_
      exact if_neg fun z => z hl
    rw [hk, h5]
    rfl
  refine ⟨(X.lay (Evt.encL [⟨1, [evA]⟩]) 0 cA).2, (Vw.fold (Sto.start cA).u (Sto.start cA).acc dA1.bat.evs).2.2, ?_⟩
  unfold Sto.put
  rw [if_neg h1, if_neg (by decide), if_neg (by decide), if_neg h4, hd, if_neg (fun z => z rfl), h5]
theorem aliveA {X : Sto.Six} (hX : Sto.SixOk X) : (Sto.steps X cA (Sto.start cA) [dA1, dA2, dA3]).1.segs = 1 ∧ ∃ a1 a2, (Sto.steps X cA (Sto.start cA) [dA1, dA2, dA3]).2 = [a1, a2, ⟨0, 1, [evA], 0, []⟩] := by
  obtain ⟨L, acc, hp⟩ := putA hX
  have hg : Sto.Good X cA := Sto.six_good hX
  obtain ⟨BL, i1, i2, i3⟩ := Sto.put_inv (Sto.inv_start X cA) dA1
  have w1 := i3 [] (Sto.whole_start X cA)
  rw [hp] at i1 i2 w1
  have e1 : Sto.step X cA (Sto.start cA) dA1 = (⟨Sto.write 0 L 0 (Sto.start cA).disks, 1, [], [1], 1, acc⟩, Sto.told 1) := by
    rw [Sto.step_put rfl, hp]
  obtain ⟨s1, hs1⟩ : ∃ s1 : Sto.St, s1 = ⟨Sto.write 0 L 0 (Sto.start cA).disks, 1, [], [1], 1, acc⟩ := ⟨_, rfl⟩
  rw [← hs1] at i1 i2 w1 e1
  have e2 : Sto.step X cA s1 dA2 = Sto.harm s1 dA2 := step_harm (Or.inl rfl)
  have w2 := Sto.harm_whole w1 dA2
  have j2 := Sto.harm_inv i1 dA2 (by decide) (Or.inl rfl) (fun z => absurd z.1 (by decide))
  have hsame := Sto.harm_same s1 dA2
  have hH : (if (Sto.harm s1 dA2).2.err = 0 ∧ dA2.n.toNat ∉ ([] : List Nat) then dA2.n.toNat :: [] else []).length ≤ cA.s := by
    split
    · exact Nat.le_refl 1
    · exact Nat.zero_le _
  have hall := Sto.all_kept hg j2 w2 hH
  rw [hsame.tail] at hall
  have hev : Sto.evsOf BL.flatten ++ Sto.evsOf s1.tail = [evA] := by
    have z : Sto.evsOf BL.flatten ++ Sto.evsOf s1.tail = _ := i2
    rw [z]
    rfl
  rw [hev] at hall
  have e3 : Sto.step X cA (Sto.harm s1 dA2).1 dA3 = ((Sto.harm s1 dA2).1, ⟨0, 1, [evA], 0, []⟩) := by
    rw [step_all rfl, hall]
    rfl
  have hst : Sto.steps X cA (Sto.start cA) [dA1, dA2, dA3] = ((Sto.harm s1 dA2).1, [Sto.told 1, (Sto.harm s1 dA2).2, ⟨0, 1, [evA], 0, []⟩]) := by
    simp only [Sto.steps, e1, e2, e3]
  rw [hst]
  exact ⟨by show (Sto.harm s1 dA2).1.segs = 1; rw [hsame.segs, hs1], _, _, rfl⟩

end Go.Proofs.YtldjieplbeflfaaGreat

namespace Go.Proofs.YtldjieplbeflfaaGreat
open Go.RowKit

theorem nb_empty : nb ByteArray.empty = [] := by decide
theorem nb_a : nb ⟨#[97]⟩ = [97] := by decide
theorem dos_A {w : World} {p q : Nat} (hp : VarN w p 59 [.string ⟨#[97]⟩, .int .i64 1, .int .i64 0]) (hq : VarN w q 43 #[.int .i64 1, .int .i64 0, .int .i64 0, .int .i64 0, .int .u8 0, .int .i64 1, .slice (some ⟨p, 0, none⟩) 1 1, .string ByteArray.empty, .int .i64 (-1), .int .i64 5, .int .i64 0, .int .i64 0, .int .i64 0, .int .u8 0, .int .i64 0, .slice none 0 0, .string ByteArray.empty, .int .i64 0, .int .i64 3, .int .i64 0, .int .i64 0, .int .i64 0, .int .u8 0, .int .i64 0, .slice none 0 0, .string ByteArray.empty, .int .i64 0].toList) : Dos w (.slice (some ⟨q, 0, none⟩) 3 3) [dA1, dA2, dA3] := by
  have nil : Evs w (.slice none 0 0) [] := ⟨none, 0, rfl, Nat.le_refl _, Nat.zero_le _, fun i e he => (by cases he)⟩
  have one : Evs w (.slice (some ⟨p, 0, none⟩) 1 1) [evA] := by
    refine ⟨some ⟨p, 0, none⟩, 1, rfl, Nat.le_refl _, by decide, fun i e he => ⟨p, 0, rfl, ?_⟩⟩
    match i, he with
    | 0, he =>
      cases he
      exact ⟨⟨#[97]⟩, by decide, nb_a, hp.cell (i := 0) rfl, hp.cell (i := 1) rfl, hp.cell (i := 2) rfl⟩
  refine ⟨some ⟨q, 0, none⟩, 3, rfl, Nat.le_refl _, by decide, fun i d hd => ⟨q, 0, rfl, ?_⟩⟩
  match i, hd with
  | 0, hd =>
    cases hd
    refine ⟨.slice (some ⟨p, 0, none⟩) 1 1, ByteArray.empty, ⟨one, nb_empty, by decide, by decide⟩, fun j u hj => hq.cell ?_⟩
    match j, hj with
    | 0, hj => exact hj
    | 1, hj => exact hj
    | 2, hj => exact hj
    | 3, hj => exact hj
    | 4, hj => exact hj
    | 5, hj => exact hj
    | 6, hj => exact hj
    | 7, hj => exact hj
    | 8, hj => exact hj
  | 1, hd =>
    cases hd
    refine ⟨.slice none 0 0, ByteArray.empty, ⟨nil, nb_empty, by decide, by decide⟩, fun j u hj => hq.cell ?_⟩
    match j, hj with
    | 0, hj => exact hj
    | 1, hj => exact hj
    | 2, hj => exact hj
    | 3, hj => exact hj
    | 4, hj => exact hj
    | 5, hj => exact hj
    | 6, hj => exact hj
    | 7, hj => exact hj
    | 8, hj => exact hj
  | 2, hd =>
    cases hd
    refine ⟨.slice none 0 0, ByteArray.empty, ⟨nil, nb_empty, by decide, by decide⟩, fun j u hj => hq.cell ?_⟩
    match j, hj with
    | 0, hj => exact hj
    | 1, hj => exact hj
    | 2, hj => exact hj
    | 3, hj => exact hj
    | 4, hj => exact hj
    | 5, hj => exact hj
    | 6, hj => exact hj
    | 7, hj => exact hj
    | 8, hj => exact hj

end Go.Proofs.YtldjieplbeflfaaGreat

namespace Go.Proofs.YtldjieplbeflfaaGreat
open Go.RowKit

set_option maxHeartbeats 2000000 in
set_option maxRecDepth 100000 in
theorem alive_any (w : World) : Calls Tryz.prog 9 #[] w fun e w' => e = .returned (.bool true) ∧ Below w.heap.size w w' := by
  obtain ⟨X, hX⟩ := Sto.six
  have b1 : Below w.heap.size w (w.alloc (.cells #[.string ⟨#[97]⟩, .int .i64 1, .int .i64 0] 59)) := (Below.refl _ _).alloc (Nat.le_refl _) _
  have VE := varN_new w #[.string ⟨#[97]⟩, .int .i64 1, .int .i64 0] 59
  have HP1 := putL_any 1 (some ⟨w.heap.size, 0, none⟩) 1 1 (w.alloc (.cells #[.string ⟨#[97]⟩, .int .i64 1, .int .i64 0] 59))
  go_enter Tryz.func9, Tryz.ntmps9
  go_wp2_with fail
  refine HP1.mono ?_
  rintro e w2 ⟨rfl, b2⟩
  have b3 : Below w2.heap.size w2 (w2.alloc (.cells #[.int .i64 1, .int .i64 0, .int .i64 0, .int .i64 0, .int .u8 0, .int .i64 1, .slice (some ⟨w.heap.size, 0, none⟩) 1 1, .string ByteArray.empty, .int .i64 (-1), .int .i64 5, .int .i64 0, .int .i64 0, .int .i64 0, .int .u8 0, .int .i64 0, .slice none 0 0, .string ByteArray.empty, .int .i64 0, .int .i64 3, .int .i64 0, .int .i64 0, .int .i64 0, .int .u8 0, .int .i64 0, .slice none 0 0, .string ByteArray.empty, .int .i64 0] 43)) := (Below.refl _ _).alloc (Nat.le_refl _) _
  have hdo := dos_A ((VE.below b2).below b3) (varN_new w2 #[.int .i64 1, .int .i64 0, .int .i64 0, .int .i64 0, .int .u8 0, .int .i64 1, .slice (some ⟨w.heap.size, 0, none⟩) 1 1, .string ByteArray.empty, .int .i64 (-1), .int .i64 5, .int .i64 0, .int .i64 0, .int .i64 0, .int .u8 0, .int .i64 0, .slice none 0 0, .string ByteArray.empty, .int .i64 0, .int .i64 3, .int .i64 0, .int .i64 0, .int .i64 0, .int .u8 0, .int .i64 0, .slice none 0 0, .string ByteArray.empty, .int .i64 0] 43)
  have HPL : Calls Tryz.prog 10 #[.agg #[.int .i64 2, .int .i64 1, .int .i64 1], .slice (some ⟨w2.heap.size, 0, none⟩) 3 3] (w2.alloc (.cells #[.int .i64 1, .int .i64 0, .int .i64 0, .int .i64 0, .int .u8 0, .int .i64 1, .slice (some ⟨w.heap.size, 0, none⟩) 1 1, .string ByteArray.empty, .int .i64 (-1), .int .i64 5, .int .i64 0, .int .i64 0, .int .i64 0, .int .u8 0, .int .i64 0, .slice none 0 0, .string ByteArray.empty, .int .i64 0, .int .i64 3, .int .i64 0, .int .i64 0, .int .i64 0, .int .u8 0, .int .i64 0, .slice none 0 0, .string ByteArray.empty, .int .i64 0] 43)) fun e w' => PlayO e (w2.alloc (.cells #[.int .i64 1, .int .i64 0, .int .i64 0, .int .i64 0, .int .u8 0, .int .i64 1, .slice (some ⟨w.heap.size, 0, none⟩) 1 1, .string ByteArray.empty, .int .i64 (-1), .int .i64 5, .int .i64 0, .int .i64 0, .int .i64 0, .int .u8 0, .int .i64 0, .slice none 0 0, .string ByteArray.empty, .int .i64 0, .int .i64 3, .int .i64 0, .int .i64 0, .int .i64 0, .int .u8 0, .int .i64 0, .slice none 0 0, .string ByteArray.empty, .int .i64 0] 43)) w' X cA [dA1, dA2, dA3] := play_ok hX cA (by decide) (by decide) (by decide) (by decide) (by decide) _ _ _ hdo (by decide)
  have b03 := bt (bt b1 b2) b3
  clear HP1 VE b1 b2 b3 hdo
  go_wp2_with fail
  refine HPL.mono ?_
  rintro e w4 ⟨N, R, F, E, D, V, U, vt, vs, va, tc, vr, qs, rfl, hS, hA, hb4, _⟩
  obtain ⟨hseg, a1, a2, hans⟩ := aliveA hX
  rw [hans] at hA
  have b04 := bt b03 hb4
  have hq3 : qs.length = 3 := hA.len
  obtain ⟨q, hq⟩ : ∃ q, qs[2]? = some q := ⟨qs[2], List.getElem?_eq_getElem (by omega)⟩
  obtain ⟨ve, va', hag, hev, _⟩ := hA.ans 2 q _ hq rfl
  obtain ⟨Ae, Ce, hve⟩ := hev.1.shape
  have hcell : ∀ j u, j < 5 → (anCells q)[j]? = some u → ∀ g, vr.ownBlock = some g → w4.cell? ⟨g, 10 + j, none⟩ = some u := fun j u hj hu g hg => by
    have hf := flat_get anCells 5 qs (fun _ _ => rfl) 2 j hj q hq
    have := hA.own.cells (g := g) hg (2 * 5 + j) u (hf.trans hu)
    rw [WideShapes.add_plain, Nat.zero_add] at this
    exact this
  obtain ⟨g, cap, rfl, hc1, hc2⟩ : ∃ g cap, vr = .slice (some ⟨g, 0, none⟩) 3 cap ∧ 3 ≤ cap ∧ cap ≤ 9223372036854775807 := by
    rcases hA.own.2 with ⟨rfl, h0⟩ | ⟨g, cap, cur, rfl, _, _, h1, h2, _⟩
    · omega
    · rw [hq3] at h1
      exact ⟨g, cap, by rw [hq3], h1, by unfold maxLen at h2; exact h2⟩
  have hcs : (anCells q).toArray = #[.int .i64 ((0 : Nat) : Int), .int .i64 1, ve, .int .i64 0, va'] := Value.agg.inj hag
  have hcl : anCells q = [.int .i64 ((0 : Nat) : Int), .int .i64 1, ve, .int .i64 0, va'] := by
    have := congrArg Array.toList hcs
    exact this
  have k0 : w4.cell? ⟨g, 10, none⟩ = some (.int .i64 0) := hcell 0 _ (by decide) (by rw [hcl]; rfl) g rfl
  have k2 : w4.cell? ⟨g, 12, none⟩ = some (.slice Ae 1 Ce) := hcell 2 _ (by decide) (by rw [hcl, hve]; rfl) g rfl
  obtain ⟨At, n5, Ct, rfl⟩ : ∃ At n Ct, vt = .slice At n Ct := by
    rcases hS.tail.own.2 with ⟨rfl, _⟩ | ⟨g, cap, cur, rfl, _⟩
    · exact ⟨_, _, _, rfl⟩
    · exact ⟨_, _, _, rfl⟩
  obtain ⟨As, n6, Cs, rfl⟩ : ∃ At n Ct, vs = .slice At n Ct := by
    rcases hS.seen.2 with ⟨rfl, _⟩ | ⟨g, cap, cur, rfl, _⟩
    · exact ⟨_, _, _, rfl⟩
    · exact ⟨_, _, _, rfl⟩
  obtain ⟨Aa, n8, Ca, rfl⟩ : ∃ At n Ct, va = .slice At n Ct := by
    obtain ⟨A, C, h⟩ := hS.acc.1.shape
    exact ⟨_, _, _, h⟩
  have hgl : g < w4.heap.size := World.block_lt_of_cell? _ _ k0
  have hgn : g ≠ w4.heap.size := Nat.ne_of_lt hgl
  rw [hseg]
  obtain ⟨sd, hsd⟩ : ∃ x, x = (Sto.steps X cA (Sto.start cA) [dA1, dA2, dA3]).1.disks.length := ⟨_, rfl⟩
  obtain ⟨su, hsu⟩ : ∃ x, x = (Sto.steps X cA (Sto.start cA) [dA1, dA2, dA3]).1.u := ⟨_, rfl⟩
  rw [← hsd, ← hsu]
  have b5 : ∀ o, Below w.heap.size w (w4.alloc o) := fun o => b04.alloc b04.size _
  simp only [stCells]
  clear HPL hS hA hcell hcs hcl hag hev hve hans hseg hsd hsu hX
  go_wp2_with fail
  go_ret
  exact ⟨rfl, b5 _⟩

end Go.Proofs.YtldjieplbeflfaaGreat

namespace Go.Proofs.YtldjieplbeflfaaGreat
open Go.RowKit

abbrev DoC := Sto.Do × Value × ByteArray
def doC (q : DoC) : List Value := doCells q.1 q.2.1 q.2.2
/-- A list of the call's own that is appended to, since world W. -/
structure RD (W w : World) (v : Value) (qs : List DoC) : Prop where
  bel : Below W.heap.size W w
  own : w.ownsRow W.heap.size 43 9 v qs.length (qs.flatMap doC)
theorem RD.below {W w w' : World} {v : Value} {qs : List DoC} (h : RD W w v qs) (hb : Below w.heap.size w w') : RD W w' v qs := ⟨bt h.bel hb, owns_below h.own hb⟩
theorem RD.alloc {W w : World} {v : Value} {qs : List DoC} (h : RD W w v qs) (o : Obj) : RD W (w.alloc o) v qs := h.below ((Below.refl _ _).alloc (Nat.le_refl _) o)
/-- A variable, or a short list, beside it. -/
structure Td (w : World) (v : Value) (g : Nat) (t : TypeId) (us : List Value) : Prop where
  row : VarN w g t us
  ne : v.ownBlock ≠ some g
theorem Td.below {w w' : World} {v : Value} {g : Nat} {t : TypeId} {us : List Value} (h : Td w v g t us) (hb : Below w.heap.size w w') : Td w' v g t us := ⟨h.row.below hb, h.ne⟩
theorem Td.alloc {w : World} {v : Value} {g : Nat} {t : TypeId} {us : List Value} (h : Td w v g t us) (o : Obj) : Td (w.alloc o) v g t us := h.below ((Below.refl _ _).alloc (Nat.le_refl _) o)
theorem Td.cells {w : World} {v : Value} {g : Nat} {t : TypeId} {us : List Value} (h : Td w v g t us) : ∀ j x, us[j]? = some x → w.cell? ((⟨g, 0, none⟩ : Addr).add j) = some x := fun j x hj => by
  rw [WideShapes.add_plain, Nat.zero_add]
  exact h.row.cell hj
section
variable {W w : World} {v : Value} {qs : List DoC} {cs : Array Value} {t : TypeId}
theorem belA1 (W : World) (o : Obj) : Below W.heap.size W (W.alloc o) := (Below.refl _ _).alloc (Nat.le_refl _) _
theorem belA2 (W : World) (o p : Obj) : Below W.heap.size W ((W.alloc o).alloc p) := (belA1 W o).alloc (belA1 W o).size _
end
/-! ### Play, inside such a statement -/
end Go.Proofs.YtldjieplbeflfaaGreat
