/-
  Noughts appended to a list of the call's own: 'append(r, make([]T, m)...)', T of one cell. Nothing of the program is named here.
-/
import Derived.Test.YtmlboaejkmffjadRefLay
import Derived.Lib.AppendZeros
namespace Go.Proofs.Ytmlboaejkmffjad
open Go.RowKit

theorem zeroCells_one (z : Value) (h : z.cells = #[z]) (m : Nat) : (Builtin.zeroCells z.cells m).toList = List.replicate m z := by
  rw [h]
  apply List.ext_getElem?
  intro i
  simp only [Builtin.zeroCells]
  by_cases hi : i < m
  · simp [hi, Nat.mod_one]
  · simp [hi]

theorem run_append_zeros {P : Program} (w : World) (N : Nat) (t tn ty e : TypeId) (i : TypeInfo) (z : Value) (bytes : Nat) (k kn : IntKind) (ht : P.underlying t = some (.slice e)) (htn : P.underlying tn = some (.int kn)) (hi : P.info? e = some i) (hz : i.zero = some z)
    (hsize : i.size = 1) (hby : i.bytes = bytes) (hzc : z.cells = #[z]) (hz1 : z.oneCell' = true) (v : Value) (n : Nat) (xs : List Value) (hown : w.ownsRow N e 1 v n xs) (hn : 1 ≤ n) (m : Nat) (hm : 1 ≤ m)
    (h63 : n + m ≤ 1000000) (hb : bytes ≤ 1000) (hN : N ≤ w.heap.size) :
    ∃ v' w', (Builtin.append_ #[t, tn] ty #[v, .int k m]).run P w = .ok v' w' ∧ w'.ownsRow N e 1 v' (n + m) (xs ++ List.replicate m z) ∧ w.grownBy w' v.ownBlock := by
  subst hby
  have hw : IntKind.i64.wrap (m : Int) = m := by rw [IntKind.wrap_i64]; omega
  have hneg : ¬ ((m : Int) < 0) := by omega
  have hnm : m ≠ 0 := by omega
  have hmb : m * i.bytes ≤ 1000000 * 1000 := Nat.mul_le_mul (by omega) hb
  have hnb : (n + m) * i.bytes ≤ 1000000 * 1000 := Nat.mul_le_mul h63 hb
  have h48i : ¬ (281474976710656 < (m : Int) * (i.bytes : Int)) := by
    rw [← Int.natCast_mul]
    omega
  have hown' := hown
  obtain ⟨hl, hv⟩ := hown
  rcases hv with ⟨_, h0⟩ | ⟨g, cap, cur, rfl, hNg, hg, hc, hcm, hcs, htk⟩
  · omega
  have hlen : xs.length = n := by omega
  by_cases hroom : n + m ≤ cap
  · have hst := run_storeCells_at P g (n * i.size) e (List.replicate m z) 0 cur w hg (by rw [hsize]; simp; omega) (fun u hu => by rw [List.eq_of_mem_replicate hu]; exact hz1)
    simp only [Nat.add_zero] at hst
    refine ⟨.slice (some ⟨g, 0, none⟩) (n + m) cap, w.setRow g (cur.toList.take (n * i.size) ++ List.replicate m z ++ cur.toList.drop (n * i.size + (List.replicate m z).length)).toArray, ?_, ?_, ?_⟩
    · simp [Builtin.append_, run_underlying ht, run_underlying htn, sizeOf, typeInfo, zeroValue, hi, hz, asInt, asIntOf, hw, hnm, hneg, h48i, hroom, hsize, zeroCells_one z hzc, Addr.add_lit]
      simp [hsize] at hst
      rw [hst]
      simp
    · refine ⟨by simp [hlen], .inr ⟨g, cap, _, rfl, hNg, setRow_heap w g cur _ e _ hg, hroom, hcm, ?_, ?_⟩⟩
      · simp only [List.size_toArray, List.length_append, List.length_take, List.length_drop, Array.length_toList, List.length_replicate, hsize]
        omega
      · rw [hsize, htk]
        have e1 : (xs ++ List.replicate m z).length = (n + m) * 1 := by simp [hlen]
        rw [← e1]
        exact List.take_left
    · exact ⟨rfl, rfl, rfl, by simp, fun x _ hx => setRow_other w g x _ (fun e => hx (by simp [Value.ownBlock, e]))⟩
  · have hge := grownCap_ge w (n + m) cap e
    have hcm' : grownCap w (n + m) cap e ≤ maxLen := grownCap_le_maxLen w (n + m) cap e (by unfold maxLen; omega)
    have hold : (Builtin.firstCells 1 n (.slice (some ⟨g, 0, none⟩) n cap)).run P w.drew = .ok xs.toArray w.drew :=
      run_firstCells_some w.drew 1 n ⟨g, 0, none⟩ n cap xs (by omega) (fun j u hj => by rw [show w.drew.cell? ((⟨g, 0, none⟩ : Addr).add j) = w.cell? ((⟨g, 0, none⟩ : Addr).add j) from rfl]; exact hown'.cells (g := g) rfl j u hj)
    have h63' : ¬ (9223372036854775807 < ((n : Int) + (m : Int))) := by omega
    have hfit := growslice_fits (need := n + m) (old := cap) (bytes := i.bytes) (by omega) (by omega)
    have h48' : ¬ (281474976710656 < Builtin.nextslicecap (n + m) cap * i.bytes) := by omega
    refine ⟨.slice (some ⟨w.heap.size, 0, none⟩) (n + m) (grownCap w (n + m) cap e), w.drew.alloc (.cells (xs.toArray ++ (Builtin.zeroCells z.cells m ++ Builtin.zeroCells z.cells (grownCap w (n + m) cap e - (n + m)))) e), ?_, ?_, ?_⟩
    · simp [Builtin.append_, run_underlying ht, run_underlying htn, sizeOf, typeInfo, zeroValue, hi, hz, asInt, asIntOf, hw, hnm, hneg, h48i, hroom, hsize, h63', h48', Question.forced, hold, newRow, grownCap]
    · refine ⟨by simp [hlen], .inr ⟨w.heap.size, _, _, rfl, hN, heap_alloc_new w.drew _, hge, hcm', ?_, ?_⟩⟩
      · simp only [Array.size_append, List.size_toArray, size_zeroCells, hzc, hlen]
        simp
        omega
      · simp only [Array.toList_append, zeroCells_one z hzc]
        have e1 : (xs ++ List.replicate m z).length = (n + m) * 1 := by simp [hlen]
        rw [← List.append_assoc, ← e1]
        exact List.take_left
    · exact ⟨rfl, rfl, rfl, by simp, fun x hx _ => Deep.blk_alloc_lt w.drew _ x hx⟩

end Go.Proofs.Ytmlboaejkmffjad
