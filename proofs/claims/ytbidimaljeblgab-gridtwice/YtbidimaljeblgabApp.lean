/-
  A matrix's rows, appended to a list of none.
-/
import Derived.Test.YtbidimaljeblgabOpen
import Derived.Deep.AppendSrc
namespace Go.Proofs.Ytbidimaljeblgab
open Go.RowKit

theorem app_any (W : World) (x b o n p c : Nat) (G O K : Nat → Nat) (f : Nat → Nat → Nat) (hm : MatAt W b o n c G O K f) (h1 : 1 ≤ n) (h2 : n ≤ 12) :
    ∃ (C : Array Value) (q : Nat), (∀ r, r < n → C[r]? = some (.slice (some ⟨G r, O r, none⟩) c (K r))) ∧
      ∀ ty, (Builtin.append_ #[23, 23] ty #[.slice (some ⟨x, 0, none⟩) 0 0, .slice (some ⟨b, o, none⟩) n p]).run Try.prog W = .ok (.slice (some ⟨W.heap.size, 0, none⟩) n q) (W.drew.alloc (.cells C 34)) := by
  obtain ⟨i, hi, hh⟩ := Option.map_eq_some_iff.1 Try.infoRow
  simp only [Prod.mk.injEq] at hh
  obtain ⟨hz, hs, hb⟩ := hh
  have hsrc : Src Try.prog i.size 23 (.slice (some ⟨b, o, none⟩) n p) n ((List.range n).map fun r => .slice (some ⟨G r, O r, none⟩) c (K r)) W := by
    refine Src.ofSlice W Try.underlying23 _ n p _ (by simp [hs]) (fun j u hj => ?_) (fun u hu => ?_)
    · rcases Nat.lt_or_ge j n with h | h
      · simp [h] at hj
        rw [WideShapes.add_plain, hm.top j h, ← hj]
      · simp [List.getElem?_eq_none (show ((List.range n).map fun r => Value.slice (some ⟨G r, O r, none⟩) c (K r)).length ≤ j by simpa using h)] at hj
    · obtain ⟨r, _, rfl⟩ := List.mem_map.1 hu
      rfl
  have hrun := fun ty => run_append_grow_src (P := Try.prog) W 23 23 ty 34 i (.slice none 0 0) Try.underlying23 hi hz (some ⟨x, 0, none⟩) 0 0 [] (by simp [Builtin.firstCells]; rfl) _ n _ hsrc (by omega) (by omega) (by
    rw [hb, Nat.zero_add, show Builtin.nextslicecap n 0 = n from if_pos (by omega)]
    omega)
  refine ⟨_, _, fun r hr => ?_, fun ty => by rw [hrun ty, Nat.zero_add]⟩
  rw [Array.getElem?_append_left (by simpa using hr)]
  simp [hr]

/-- The same, as a step of a walk. -/
theorem wpList_rows (w : World) {ops : Array Oper} {rest : List Oper} {o : Oper} {a : Act} {Q : Exit → Act → World → Prop} (hg : o.guard = none) (s x : Operand)
    (hop : o.op = Op.call { callee := Callee.builtin Builtin.append, args := #[s, x], argTypes := #[23, 23] }) (y b of n p c : Nat) (G O K : Nat → Nat) (f : Nat → Nat → Nat)
    (hs : a.eval s = .slice (some ⟨y, 0, none⟩) 0 0) (hx : a.eval x = .slice (some ⟨b, of, none⟩) n p) (hm : MatAt w b of n c G O K f) (h1 : 1 ≤ n) (h2 : n ≤ 12)
    (hK : ∀ (C : Array Value) (q : Nat), (∀ r, r < n → C[r]? = some (.slice (some ⟨G r, O r, none⟩) c (K r))) → wpList Try.prog ops Q rest (a.put o.dst (.slice (some ⟨w.heap.size, 0, none⟩) n q)) (w.drew.alloc (.cells C 34))) :
    wpList Try.prog ops Q (o :: rest) a w := by
  refine wpList_plain hg fun K' hK' => ?_
  obtain ⟨C, q, hC, hrun⟩ := app_any w y b of n p c G O K f hm h1 h2
  unfold Oper.wp
  simp [execOp, hop, resolve, invoke, builtin, hs, hx, hrun, Result.andThen]
  exact hK' _ _ (hK C q hC)

end Go.Proofs.Ytbidimaljeblgab
