/-
  Lists of rows of whatever lengths, rows copied, and the statements' own sum of two lists.
-/
import Derived.Test.YtbidimaljeblgacCAlive
import Derived.Deep.AppendSrc
namespace Go.Proofs.Ytbidimaljeblgac
open Go.RowKit

theorem rowC_owns' {w : World} {N : Nat} {t : TypeId} {v : Value} {n : Nat} {xs : List Value} (h : w.ownsRow N t 1 v n xs) (hne : v ≠ .slice none 0 0) :
    ∃ g cap, v = .slice (some ⟨g, 0, none⟩) n cap ∧ N ≤ g ∧ n ≤ cap ∧ RowC w g t n (fun j => xs.getD j (.slice none 0 0)) := by
  by_cases hn : 1 ≤ n
  · exact rowC_owns h hn
  · rcases h.2 with ⟨h1, _⟩ | ⟨g, cap, cur, hv, hN, hg, hc, _⟩
    · exact absurd h1 hne
    · exact ⟨g, cap, hv, hN, hc, cur.size, fun j => cur.getD j (.slice none 0 0), ⟨cur, hg, rfl, fun i hi => by simp [hi]⟩, by omega, fun j hj => by omega⟩

/-- A row appended to one of no bytes: a copy. -/
theorem copy_row (w : World) (R : Option Addr) (L C : Nat) (f : Nat → Nat) (hL : L ≤ reachBytes) (hc : ∀ k, k < L → ∃ b o, R = some ⟨b, o, none⟩ ∧ w.cell? ⟨b, o + k, none⟩ = some (.int .u8 (f k : Nat))) :
    ∃ g cap w', (Builtin.append_ #[24, 24] 24 #[.slice (some ⟨w.heap.size, 0, none⟩) 0 0, .slice R L C]).run Try.prog (w.alloc (.cells #[] 5)) = .ok (.slice (some ⟨g, 0, none⟩) L cap) w' ∧ w.heap.size ≤ g ∧
      RowC w' g 5 L (fun j => .int .u8 (f j : Nat)) ∧ Below w.heap.size w w' := by
  obtain ⟨i1, hi1, hh1⟩ := Option.map_eq_some_iff.1 Try.infoByte
  simp only [Prod.mk.injEq] at hh1
  obtain ⟨hy0, hy1, hy2⟩ := hh1
  have hbX := (Below.refl w.heap.size w).alloc (Nat.le_refl _) (.cells #[] 5)
  have hown0 : (w.alloc (.cells #[] 5)).ownsRow w.heap.size 5 1 (.slice (some ⟨w.heap.size, 0, none⟩) 0 0) 0 [] := World.ownsRow_made w #[] 0 (Nat.le_refl _) (by unfold maxLen; omega) rfl
  cases hR : R with
  | none =>
    have e : L = 0 := by
      rcases Nat.eq_zero_or_pos L with h | h
      · exact h
      · obtain ⟨b, o, h1, _⟩ := hc 0 h
        rw [hR] at h1
        cases h1
    subst e
    refine ⟨w.heap.size, 0, _, run_append_room_src (P := Try.prog) _ 24 24 24 5 i1 Try.underlying24 hi1 w.heap.size 0 0 0 _ 0 [] (Src.ofNil _ Try.underlying24 C) (Nat.le_refl _) (fun j hj => by cases hj) (fun j hj => by cases hj), Nat.le_refl _, ?_, hbX⟩
    exact ⟨0, fun _ => .slice none 0 0, (World.rowIs_alloc w #[] 5 (fun _ => .slice none 0 0) (fun i hi => by simp at hi)), Nat.le_refl _, fun j hj => absurd hj (Nat.not_lt_zero j)⟩
  | some r =>
    have hn : ∀ j u, ((List.range L).map fun j => Value.int .u8 (f j : Nat))[j]? = some u → (w.alloc (.cells #[] 5)).cell? (r.add j) = some u := fun j u hj => by
      rcases Nat.lt_or_ge j L with h | h
      · simp [h] at hj
        obtain ⟨b', o', e1, e2⟩ := hc j h
        rw [hR] at e1
        cases e1
        rw [WideShapes.add_plain, (hbX.cell (p := ⟨b', o' + j, none⟩) (World.block_lt_of_cell? _ _ e2)).trans e2, ← hj]
      · simp [List.getElem?_eq_none (show ((List.range L).map fun j => Value.int .u8 (f j : Nat)).length ≤ j by simpa using h)] at hj
    have hre := reachBytes_lt
    obtain ⟨v', w', hrun, ho, hg, hnil⟩ := run_append_own (P := Try.prog) (w.alloc (.cells #[] 5)) w.heap.size 24 24 5 i1 (.int .u8 0) 1 1 Try.underlying24 hi1 hy0 hy1 hy2 rfl (by decide) _ 0 [] hown0 r L C ((List.range L).map fun j => Value.int .u8 (f j : Nat)) (by simp) hn (by intro u hu; obtain ⟨_, _, rfl⟩ := List.mem_map.1 hu; rfl) (by unfold maxLen; omega) (by omega) hbX.size
    rw [Nat.zero_add, List.nil_append] at ho
    obtain ⟨g, cap, rfl, hNg, _, hrow⟩ := rowC_owns' ho (fun e => by
      have := (hnil.1 e).1
      cases this)
    exact ⟨g, cap, w', hrun, hNg, hrow.congr (fun j hj => by simp [List.getD, hj]), hbX.grown hg hbX.size (fun x hx => (hown0.lt x hx).1)⟩

/-- A list of rows of the call's own that is appended to. -/
structure Acr (w : World) (N : Nat) (v : Value) (k : Nat) (G K L : Nat → Nat) (f : Nat → Nat → Nat) : Prop where
  own : w.ownsRow N 24 1 v k ((List.range k).map fun i => .slice (some ⟨G i, 0, none⟩) (L i) (K i))
  row : ∀ i, i < k → RowC w (G i) 5 (L i) (fun j => .int .u8 (f i j : Nat))
theorem Acr.below {w w' : World} {N : Nat} {v : Value} {k : Nat} {G K L : Nat → Nat} {f : Nat → Nat → Nat} (h : Acr w N v k G K L f) (hb : Below w.heap.size w w') : Acr w' N v k G K L f :=
  ⟨owns_below h.own hb, fun i hi => (h.row i hi).below hb⟩
theorem Acr.off {w w' : World} {N g : Nat} {v : Value} {k : Nat} {G K L : Nat → Nat} {f : Nat → Nat → Nat} (h : Acr w N v k G K L f) (ho : Off (fun x => x = g) w w') (hg : w.heap.size ≤ g) : Acr w' N v k G K L f :=
  ⟨h.own.kept (row := some g) ⟨ho.os, ho.tape, ho.output, ho.size, fun x hx hne => ho.block x hx (fun e => hne (by rw [e]))⟩ (by
    cases hv : v.ownBlock with
    | none => exact Or.inl rfl
    | some x =>
      have := (h.own.lt x hv).2
      exact Or.inr (by simp; omega)), fun i hi => (h.row i hi).of_block (ho.block (G i) (h.row i hi).lt (by have := (h.row i hi).lt; omega))⟩
theorem Acr.step {w w' : World} {N : Nat} {v v' : Value} {k : Nat} {G K L : Nat → Nat} {f : Nat → Nat → Nat} {gk Kk : Nat} (h : Acr w N v k G K L f) (hr : RowC w gk 5 (L k) (fun j => .int .u8 (f k j : Nat)))
    (ho : w'.ownsRow N 24 1 v' (k + 1) (((List.range k).map fun i => .slice (some ⟨G i, 0, none⟩) (L i) (K i)) ++ [.slice (some ⟨gk, 0, none⟩) (L k) Kk])) (hg : w.grownBy w' v.ownBlock) : Acr w' N v' (k + 1) (updG G k gk) (updG K k Kk) L f := by
  have keep : ∀ x c F, RowC w x 5 c F → RowC w' x 5 c F := fun x c F hx => hx.of_block (hg.block x hx.lt (fun e => by
    obtain ⟨F2, h2⟩ := owns_block h.own e.symm
    exact hx.ne h2 (by decide) rfl))
  refine ⟨?_, fun i hi => ?_⟩
  · have e : (List.range (k + 1)).map (fun i => Value.slice (some ⟨updG G k gk i, 0, none⟩) (L i) (updG K k Kk i)) = ((List.range k).map fun i => .slice (some ⟨G i, 0, none⟩) (L i) (K i)) ++ [.slice (some ⟨gk, 0, none⟩) (L k) Kk] := by
      rw [List.range_succ, List.map_append]
      congr 1
      · refine List.map_congr_left (fun i hi => ?_)
        have := List.mem_range.1 hi
        unfold updG
        rw [if_neg (by omega), if_neg (by omega)]
      · unfold updG
        simp
    rw [e]
    exact ho
  · unfold updG
    by_cases e : i = k
    · rw [if_pos e, e]
      exact keep _ _ _ hr
    · rw [if_neg e]
      exact keep _ _ _ (h.row i (by omega))
theorem Acr.arg {w : World} {N : Nat} {v : Value} {k : Nat} {G K L : Nat → Nat} {f : Nat → Nat → Nat} (h : Acr w N v k G K L f) (bd : Gf.Bd2 f) : Arg w v k L f := by
  refine ⟨bd, ?_⟩
  by_cases h0 : 1 ≤ k
  · obtain ⟨g, cap, hv, _, _, hrow⟩ := rowC_owns h.own h0
    refine ⟨some ⟨g, 0, none⟩, cap, fun i => some ⟨G i, 0, none⟩, K, hv, fun i hi => ⟨g, 0, rfl, ?_, fun j hj => ⟨G i, 0, rfl, ?_⟩⟩⟩
    · rw [Nat.zero_add, hrow.cell hi]
      simp [List.getD, hi]
    · rw [Nat.zero_add]
      exact (h.row i hi).cell hj
  · have e : k = 0 := by omega
    subst e
    rcases h.own.2 with ⟨hv, _⟩ | ⟨g, cap, _, hv, _⟩
    · exact ⟨none, 0, fun _ => none, fun _ => 0, hv, fun r hr => absurd hr (Nat.not_lt_zero r)⟩
    · exact ⟨_, cap, fun _ => none, fun _ => 0, hv, fun r hr => absurd hr (Nat.not_lt_zero r)⟩

end Go.Proofs.Ytbidimaljeblgac
