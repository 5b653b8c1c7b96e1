/-
  What the document's own Three does, call by call; appends inside a statement that leaves its order open.
-/
import Derived.Test.YtniaffofeeieeadEOff
import Derived.Deep.RegionLaw
namespace Go.Proofs.Ytniaffofeeieead
open Go.RowKit

set_option maxHeartbeats 400000 in
theorem refThree_any (n : Nat) (w : World) (hn : n < 16777216) :
    Calls Try.prog 23 #[.int .i64 (n : Int)] w fun e w' => e = .returned (.slice (some ⟨w.heap.size, 0, none⟩) 3 3) ∧ w' = w.alloc (.cells #[.int .u8 ((n : Int) / 65536), .int .u8 ((n : Int) / 256 % 256), .int .u8 ((n : Int) % 256)] 5) := by
  go_enter Try.func23, Try.ntmps23
  go_wp2_with fail
  go_ret
  exact ⟨rfl, rfl⟩

/-- An append onto what the call owns, inside a region that draws its order. -/
theorem step_append_own {P : Program} {ops : Array Oper} {o : Oper} {a : Act} {w : World} {K : Act → World → Prop} {Q : Exit → Act → World → Prop} {E : Prop}
    (hg : o.guard = none) (s x : Operand) (t : TypeId) (hop : o.op = Op.call { callee := Callee.builtin Builtin.append, args := #[s, x], argTypes := #[t, t] })
    (base : Nat) (e : TypeId) (i : TypeInfo) (z : Value) (size bytes : Nat) (ht : P.underlying t = some (.slice e)) (hi : P.info? e = some i) (hz : i.zero = some z) (hsize : i.size = size) (hby : i.bytes = bytes) (hzs : z.cells.size = size) (hsz : 0 < size)
    (v : Value) (n : Nat) (xs : List Value) (hs : a.eval s = v) (hown : w.ownsRow base e size v n xs)
    (ad : Addr) (m c : Nat) (news : List Value) (hx : a.eval x = .slice (some ad) m c) (hl : news.length = m * size) (hnews : ∀ j u, news[j]? = some u → w.cell? (ad.add j) = some u) (h1 : ∀ u ∈ news, u.oneCell' = true)
    (h63 : n + m ≤ maxLen) (hbytes : (n + m) * bytes ≤ 140737488355328) (hbase : base ≤ w.heap.size)
    (hK : ∀ v' w', w'.ownsRow base e size v' (n + m) (xs ++ news) → w.grownBy w' v.ownBlock → K (a.put o.dst v') w') :
    if Region.wanted o (yielded ops a.tmps) = true then Oper.wp P o a w K Q else E := by
  have hw : Region.wanted o (yielded ops a.tmps) = true := by simp [Region.wanted, hg]
  rw [if_pos hw]
  exact wp_append_own w s x t hop base e i z size bytes ht hi hz hsize hby hzs hsz v n xs hs hown ad m c news hx hl hnews h1 h63 hbytes hbase (fun v' w' h2 h3 _ => hK v' w' h2 h3)

/-- Bytes as a list of cells. -/
def clB (bs : List Nat) : List Value := bs.map fun x => .int .u8 (x : Nat)
/-- Bytes that are appended to, as a list. -/
def BufL (w : World) (N : Nat) (v : Value) (bs : List Nat) : Prop := w.ownsRow N 5 1 v bs.length (clB bs)
theorem BufL.below {w w' : World} {N : Nat} {v : Value} {bs : List Nat} (h : BufL w N v bs) (hb : Below w.heap.size w w') : BufL w' N v bs := owns_below h hb
theorem BufL.off {S : Nat → Prop} {w w' : World} {N : Nat} {v : Value} {bs : List Nat} (h : BufL w N v bs) (ho : Off S w w') (hS : ∀ g, v.ownBlock = some g → ¬ S g) : BufL w' N v bs := owns_off h ho hS
theorem BufL.more {w : World} {N : Nat} {v : Value} {bs cs : List Nat} {ns : List Value} {m : Nat} (h : w.ownsRow N 5 1 v (bs.length + m) (clB bs ++ ns)) (hn : ns = clB cs) (hm : cs.length = m) : BufL w N v (bs ++ cs) := by
  unfold BufL
  rw [List.length_append, hm]
  unfold clB at hn h ⊢
  rw [List.map_append, ← hn]
  exact h
theorem BufL.byts {w : World} {N : Nat} {v : Value} {bs : List Nat} (h : BufL w N v bs) (hb : Evt.Bytes bs) : Byts w v bs.length (fun k => bs.getD k 0) := by
  have hbd : Bd (fun k => bs.getD k 0) := fun k => by
    show bs.getD k 0 < 256
    by_cases hk : k < bs.length
    · have : bs.getD k 0 ∈ bs := by simp [List.getD, hk]
      exact hb _ this
    · simp [List.getD, hk]
  by_cases hn : 1 ≤ bs.length
  · obtain ⟨g, cap, rfl, _, h1, h2, _, hc⟩ := owns_cells h hn
    refine ⟨hbd, some ⟨g, 0, none⟩, cap, rfl, h1, h2, fun i hi => ⟨g, 0, rfl, ?_⟩⟩
    rw [Nat.zero_add]
    refine hc i _ ?_
    simp [clB, List.getD, hi]
  · obtain rfl : bs = [] := List.eq_nil_of_length_eq_zero (by omega)
    rcases h.2 with ⟨rfl, _⟩ | ⟨g, cap, cur, rfl, _, _, hc, hm, _⟩
    · exact ⟨hbd, none, 0, rfl, Nat.le_refl _, Nat.zero_le _, fun i hi => absurd hi (Nat.not_lt_zero i)⟩
    · exact ⟨hbd, _, cap, rfl, hc, hm, fun i hi => absurd hi (Nat.not_lt_zero i)⟩

end Go.Proofs.Ytniaffofeeieead
