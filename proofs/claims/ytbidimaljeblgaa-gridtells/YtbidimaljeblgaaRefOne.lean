/-
  What the document's own answer for One does, call by call.
-/
import Derived.Test.YtbidimaljeblgaaRefMat
namespace Go.Proofs.Ytbidimaljeblgaa
open Go.RowKit

set_option maxHeartbeats 1000000 in
theorem refOne_any (n : Nat) (w : World) (h1 : 1 ≤ n) (h2 : n ≤ 12) :
    Calls Try.prog 19 #[.int .i64 (n : Int)] w fun e w' => ∃ v, e = .returned (.tuple #[v, .int .i64 0]) ∧ Mx w' v n n Gf.one ∧ Below w.heap.size w w' := by
  have h1' : ¬ (n : Int) < 1 := by omega
  have h2' : ¬ (12 : Int) < (n : Int) := by omega
  obtain ⟨i0, hi, hh⟩ := Option.map_eq_some_iff.1 Try.infoRow
  simp only [Prod.mk.injEq] at hh
  obtain ⟨hz0, hz1, hz2⟩ := hh
  have hmk := run_make_row' (P := Try.prog) 40 5 (.int .u8 0) 1 Try.underlying40 Try.infoByte rfl .i64 .i64 n (by omega) (by omega)
  go_enter Try.func19, Try.ntmps19
  go_wp2_with fail
  go_loopw [4, 5] (fun v i wr => ∃ k : Nat, k ≤ n ∧ i = .int .i64 k ∧ (∃ G K, Acc wr w.heap.size v k n G K Gf.one) ∧ Below w.heap.size w wr) (fun _ i _ => n - (intOf i).toNat)
  case atStart => exact ⟨0, Nat.zero_le _, rfl, ⟨fun _ => 0, fun _ => 0, Acc.start w _ n _ _ _⟩, Below.refl _ _⟩
  case round =>
    obtain ⟨k, hk, rfl, ⟨G, K, hA⟩, hb⟩ := hrel
    by_cases hlt : k < n
    · have hlt' : (k : Int) < (n : Int) := by omega
      obtain ⟨X, hX⟩ : ∃ X, X = (wr.alloc (.cells ((madeCells #[.int .u8 0] n).setIfInBounds k (.int .u8 1)) 5)).alloc (.cells #[.slice (some ⟨wr.heap.size, 0, none⟩) n n] 40) := ⟨_, rfl⟩
      have bX : Below wr.heap.size wr X := by rw [hX]; exact ((Below.refl _ _).alloc (Nat.le_refl _) _).alloc (by simp) _
      have AX := hA.below bX
      have rX : RowC X wr.heap.size 5 n (fun j => .int .u8 (Gf.one k j : Nat)) := by
        rw [hX]
        refine RowC.alloc ?_ _
        have := World.rowIs_alloc wr ((madeCells #[.int .u8 0] n).setIfInBounds k (.int .u8 1)) 5 (fun j => .int .u8 (Gf.one k j : Nat)) (fun j hj => by
          have hj' : j < n := by simpa [madeCells] using hj
          rw [Array.getElem?_setIfInBounds]
          by_cases e : k = j
          · rw [if_pos e, if_pos (by simpa [madeCells] using hlt), ← e, Gf.one_self]
            rfl
          · rw [if_neg e, Gf.one_ne e]
            simp [madeCells, hj', Nat.mod_one])
        have e : ((madeCells #[.int .u8 0] n).setIfInBounds k (.int .u8 1)).size = n := by simp [madeCells]
        rw [e] at this
        exact rowC_of this
      have cX : ∀ j u, [Value.slice (some ⟨wr.heap.size, 0, none⟩) n n][j]? = some u → X.cell? ((⟨wr.heap.size + 1, 0, none⟩ : Addr).add j) = some u := by
        intro j u hj
        match j, hj with
        | 0, hj =>
          simp at hj
          subst hj
          rw [hX]
          simp [Addr.add]
        | j + 1, hj => simp at hj
      have sX : w.heap.size ≤ X.heap.size := Nat.le_trans hb.size bX.size
      have HX : Hid (X = (wr.alloc (.cells ((madeCells #[.int .u8 0] n).setIfInBounds k (.int .u8 1)) 5)).alloc (.cells #[.slice (some ⟨wr.heap.size, 0, none⟩) n n] 40)) := hX
      have cc := (World.rowIs_made wr (.int .u8 0) n 5).cell hlt
      have cf := (World.rowIs_made wr (.int .u8 0) n 5).frozen k
      clear hX hA
      go_wp2_with (at_builtin; rw [← HX.out]; (refine wpList_append_own X rfl (.tmp 23) (.tmp 25) 31 rfl w.heap.size 40 i0 (.slice none 0 0) 1 24 Try.underlying31 hi hz0 hz1 hz2 rfl (by decide) _ _ _ rfl AX.own ⟨wr.heap.size + 1, 0, none⟩ 1 1 [.slice (some ⟨wr.heap.size, 0, none⟩) n n] rfl rfl cX (by intro u hu; simp at hu; subst hu; rfl) (by unfold maxLen; omega) (by omega) sX ?_); intro v1 w1 hown1 hgrow1 _)
      have A1 := AX.step ⟨hb.size, rX⟩ hown1 hgrow1
      have b1 : Below w.heap.size w w1 := (hb.trans (bX.mono hb.size)).grown hgrow1 sX (fun x hx => (AX.own.lt x hx).1)
      clear hown1 hgrow1 AX rX
      go_wp2_with fail
      exact ⟨⟨k + 1, by omega, by go_num, ⟨_, _, A1⟩, b1⟩, by simp [intOf]; omega⟩
    · have e8 : k = n := by omega
      subst e8
      clear hmk
      go_wp2_with fail
      go_ret2
      exact ⟨_, rfl, hA.mx Gf.one_bd ⟨h1, h2, h1, by omega⟩, hb⟩

set_option maxHeartbeats 400000 in
theorem refOne_bad (n : Int) (w : World) (h : n < 1 ∨ 12 < n) :
    Calls Try.prog 19 #[.int .i64 n] w fun e w' => e = .returned (.tuple #[.slice none 0 0, .int .i64 5]) ∧ Below w.heap.size w w' := by
  rcases Int.lt_or_le n 1 with h1 | h1
  · clear h
    go_enter Try.func19, Try.ntmps19
    go_wp2_with fail
    go_ret2
    exact ⟨rfl, Below.refl _ _⟩
  · have h1' : ¬ n < 1 := by omega
    have h2' : 12 < n := by omega
    clear h h1
    go_enter Try.func19, Try.ntmps19
    go_wp2_with fail
    go_ret2
    exact ⟨rfl, Below.refl _ _⟩

end Go.Proofs.Ytbidimaljeblgaa
