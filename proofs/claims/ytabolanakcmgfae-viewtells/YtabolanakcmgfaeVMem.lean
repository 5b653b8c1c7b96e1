/-
  Accounts as they lie in memory; names held against each other.
-/
import Derived.Test.YtabolanakcmgfaeVPure
import Derived.Test.YtabolanakcmgfaeOwn
namespace Go.Proofs.Ytabolanakcmgfae
open Go.RowKit

theorem less_list : ∀ a b : List UInt8, Op.bytesLess a b = Vw.lt (a.map fun x => x.toNat) (b.map fun x => x.toNat)
  | [], [] => rfl
  | _ :: _, [] => rfl
  | [], _ :: _ => rfl
  | a :: r, b :: s => by
    show (decide (a < b) || (a == b && Op.bytesLess r s)) = (decide (a.toNat < b.toNat) || (decide (a.toNat = b.toNat) && Vw.lt (r.map fun x => x.toNat) (s.map fun x => x.toNat)))
    rw [less_list r s]
    have h1 : decide (a < b) = decide (a.toNat < b.toNat) := decide_eq_decide.2 UInt8.lt_iff_toNat_lt
    have h2 : (a == b) = decide (a.toNat = b.toNat) := by
      rw [Bool.eq_iff_iff, beq_iff_eq, decide_eq_true_iff]
      exact UInt8.toNat_inj.symm
    rw [h1, h2]
theorem less_nb (s t : ByteArray) : Op.bytesLess s.toList t.toList = Vw.lt (nb s) (nb t) := by
  rw [less_list, ByteArray.toList_eq, ByteArray.toList_eq]
  rfl
theorem same_nb (s t : ByteArray) : (s.toList == t.toList) = decide (nb s = nb t) := by
  rw [Bool.eq_iff_iff, beq_iff_eq, decide_eq_true_iff]
  exact nb_inj.symm

/-- An account lies at (b, o). -/
def AcIn (w : World) (b o : Nat) (a : Vw.Acc) : Prop := ∃ s : ByteArray, s.size ≤ 9223372036854775807 ∧ nb s = a.name ∧ w.cell? ⟨b, o, none⟩ = some (.string s) ∧ w.cell? ⟨b, o + 1, none⟩ = some (.int .i64 a.sum) ∧ w.cell? ⟨b, o + 2, none⟩ = some (.int .i64 a.cnt) ∧ w.cell? ⟨b, o + 3, none⟩ = some (.bool a.opn)
theorem AcIn.below {w w' : World} {b o : Nat} {a : Vw.Acc} (h : AcIn w b o a) (hb : Below w.heap.size w w') : AcIn w' b o a := by
  obtain ⟨s, h1, h2, c0, c1, c2, c3⟩ := h
  have hp : b < w.heap.size := World.block_lt_of_cell? _ _ c0
  exact ⟨s, h1, h2, (hb.cell (p := ⟨b, o, none⟩) hp).trans c0, (hb.cell (p := ⟨b, o + 1, none⟩) hp).trans c1, (hb.cell (p := ⟨b, o + 2, none⟩) hp).trans c2, (hb.cell (p := ⟨b, o + 3, none⟩) hp).trans c3⟩
/-- A list of accounts. -/
def Accs (w : World) (v : Value) (l : List Vw.Acc) : Prop := ∃ A cap, v = .slice A l.length cap ∧ l.length ≤ cap ∧ cap ≤ maxLen ∧ ∀ i a, l[i]? = some a → ∃ b o, A = some ⟨b, o, none⟩ ∧ AcIn w b (o + i * 4) a
theorem Accs.below {w w' : World} {v : Value} {l : List Vw.Acc} (h : Accs w v l) (hb : Below w.heap.size w w') : Accs w' v l := by
  obtain ⟨A, cap, hv, h1, h2, h3⟩ := h
  refine ⟨A, cap, hv, h1, h2, fun i e he => ?_⟩
  obtain ⟨b, o, hA, hi⟩ := h3 i e he
  exact ⟨b, o, hA, hi.below hb⟩
theorem Accs.nil (w : World) : Accs w (.slice none 0 0) [] := ⟨none, 0, rfl, Nat.le_refl _, Nat.zero_le _, fun _ _ he => (by cases he)⟩
theorem Accs.shape {w : World} {v : Value} {l : List Vw.Acc} (h : Accs w v l) : ∃ A C, v = .slice A l.length C := by
  obtain ⟨A, C, hv, _⟩ := h
  exact ⟨A, C, hv⟩
theorem Accs.len {w : World} {v : Value} {l : List Vw.Acc} (h : Accs w v l) : l.length ≤ 9223372036854775807 := by
  obtain ⟨A, C, _, h1, h2, _⟩ := h
  unfold maxLen at h2
  omega
theorem Accs.some {w : World} {v : Value} {l : List Vw.Acc} (h : Accs w v l) (hn : 1 ≤ l.length) : ∃ b o cap, v = .slice (some ⟨b, o, none⟩) l.length cap ∧ l.length ≤ cap ∧ cap ≤ 9223372036854775807 ∧ ∀ i e, l[i]? = some e → AcIn w b (o + i * 4) e := by
  obtain ⟨A, cap, hv, h1, h2, h3⟩ := h
  obtain ⟨b, o, rfl, _⟩ := h3 0 l[0] (List.getElem?_eq_getElem hn)
  refine ⟨b, o, cap, hv, h1, h2, fun i e he => ?_⟩
  obtain ⟨b', o', e1, e2⟩ := h3 i e he
  cases e1
  exact e2
theorem Accs.off {S : Nat → Prop} {w w' : World} {v : Value} {l : List Vw.Acc} (h : Accs w v l) (ho : Off S w w') (hS : ∀ g, v.ownBlock = Option.some g → ¬ S g) : Accs w' v l := by
  obtain ⟨A, cap, rfl, h1, h2, h3⟩ := h
  refine ⟨A, cap, rfl, h1, h2, fun i e he => ?_⟩
  obtain ⟨b, o, rfl, s, q1, q2, c0, c1, c2, c3⟩ := h3 i e he
  have hp : b < w.heap.size := World.block_lt_of_cell? _ _ c0
  have hb := ho.block b hp (hS b rfl)
  exact ⟨b, o, rfl, s, q1, q2, (World.cell?_of_block (w := w) (a := ⟨b, o + i * 4, none⟩) hb).trans c0, (World.cell?_of_block (w := w) (a := ⟨b, o + i * 4 + 1, none⟩) hb).trans c1, (World.cell?_of_block (w := w) (a := ⟨b, o + i * 4 + 2, none⟩) hb).trans c2, (World.cell?_of_block (w := w) (a := ⟨b, o + i * 4 + 3, none⟩) hb).trans c3⟩
/-- A list that lies in no block below N. -/
def Past (N : Nat) (v : Value) : Prop := ∀ g, v.ownBlock = some g → N ≤ g
theorem past_nil (N : Nat) : Past N (.slice none 0 0) := fun _ hg => (by cases hg)
theorem Past.mono {N M : Nat} {v : Value} (h : Past N v) (hM : M ≤ N) : Past M v := fun g hg => Nat.le_trans hM (h g hg)
/-- An account as a value. -/
def AcV (v : Value) (a : Vw.Acc) : Prop := ∃ s : ByteArray, s.size ≤ 9223372036854775807 ∧ nb s = a.name ∧ v = .agg #[.string s, .int .i64 a.sum, .int .i64 a.cnt, .bool a.opn]

theorem Try.infoAccount : (Try.prog.info? 39).map (fun i => (i.zero, i.size, i.bytes)) = some (some (.agg #[.string ByteArray.empty, .int .i64 0, .int .i64 0, .bool false]), 4, 40) := by kernel_rfl
/-- An account's cells. -/
abbrev AcC := ByteArray × Int × Int × Bool
def acCells (e : AcC) : List Value := [.string e.1, .int .i64 e.2.1, .int .i64 e.2.2.1, .bool e.2.2.2]
def acOf (e : AcC) : Vw.Acc := ⟨nb e.1, e.2.1, e.2.2.1, e.2.2.2⟩
/-- Accounts of the call's own. -/
def ABuf (w : World) (N : Nat) (v : Value) (es : List AcC) : Prop := w.ownsRow N 39 4 v es.length (es.flatMap acCells) ∧ ∀ e, e ∈ es → e.1.size ≤ 9223372036854775807
theorem ABuf.nil (w : World) (N : Nat) : ABuf w N (.slice none 0 0) [] := ⟨World.ownsRow_nil w N _ 4, fun e he => by cases he⟩
theorem ABuf.below {w w' : World} {N : Nat} {v : Value} {es : List AcC} (h : ABuf w N v es) (hb : Below w.heap.size w w') : ABuf w' N v es := ⟨owns_below h.1 hb, h.2⟩
theorem ABuf.past {w : World} {N : Nat} {v : Value} {es : List AcC} (h : ABuf w N v es) : Past N v := fun g hg => (h.1.lt g hg).1
theorem ABuf.accs {w : World} {N : Nat} {v : Value} {es : List AcC} (h : ABuf w N v es) : Accs w v (es.map acOf) := by
  by_cases hn : 1 ≤ es.length
  · obtain ⟨g, cap, rfl, _, h1, h2, _, hc⟩ := owns_cells h.1 hn
    refine ⟨some ⟨g, 0, none⟩, cap, by rw [List.length_map], by rw [List.length_map]; exact h1, h2, fun i e he => ?_⟩
    rw [List.getElem?_map] at he
    obtain ⟨x, hx, rfl⟩ := Option.map_eq_some_iff.1 he
    have hf := fun t ht => flat_get acCells 4 es (fun _ _ => rfl) i t ht x hx
    exact ⟨g, 0, rfl, x.1, h.2 x (List.mem_of_getElem? hx), rfl, by rw [Nat.zero_add]; exact hc _ _ (hf 0 (by decide)), by rw [Nat.zero_add]; exact hc _ _ (hf 1 (by decide)), by rw [Nat.zero_add]; exact hc _ _ (hf 2 (by decide)), by rw [Nat.zero_add]; exact hc _ _ (hf 3 (by decide))⟩
  · obtain rfl : es = [] := List.eq_nil_of_length_eq_zero (by omega)
    rcases h.1.2 with ⟨rfl, _⟩ | ⟨g, cap, cur, rfl, _, _, hc, hm, _⟩
    · exact Accs.nil w
    · exact ⟨_, cap, rfl, hc, hm, fun i e he => by cases he⟩

theorem acc_equal (s s' : ByteArray) (k k' m m' : Int) (b b' : Bool) (w : World) : (Op.equalIn 10000 39 (.agg #[.string s, .int .i64 k, .int .i64 m, .bool b]) (.agg #[.string s', .int .i64 k', .int .i64 m', .bool b'])).run Try.prog w = .ok (s.toList == s'.toList && (k == k' && (m == m' && b == b'))) w := by
  have u3 := Try.underlying3
  have u9 := Try.underlying9
  have u4 := Try.underlying4
  have a3 := Try.isAgg3
  have z3 := Try.sizeOf3
  have a9 := Try.isAgg9
  have z9 := Try.sizeOf9
  have a4 := Try.isAgg4
  have z4 := Try.sizeOf4
  have hS : Try.prog.underlying 39 = some (.struct (Try.prog.fieldsOf 39)) := by kernel_rfl
  have hp : Try.prog.stoodInHeld 39 = false := by kernel_rfl
  rw [show (10000 : Nat) = 9999 + 1 from rfl, run_equalIn_agg w 9999 39 _ _ hS hp]
  simp only [Program.fieldsOf, Try.underlying39]
  go_simp
  by_cases h1 : s.toList = s'.toList <;> by_cases h2 : k = k' <;> by_cases h3 : m = m' <;> by_cases h4 : b = b' <;> simp [h1, h2, h3, h4]
/-- Accounts, held against each other. -/
theorem acc_eq {v v' : Value} {a a' : Vw.Acc} (h : AcV v a) (h' : AcV v' a') : ∃ y : Bool, (y = true ↔ a = a') ∧ (∀ w, (binOp .eql 39 v v').run Try.prog w = .ok (.bool y) w) ∧ ∀ w, (binOp .neq 39 v v').run Try.prog w = .ok (.bool !y) w := by
  obtain ⟨s, _, h2, rfl⟩ := h
  obtain ⟨s', _, h2', rfl⟩ := h'
  refine ⟨s.toList == s'.toList && (a.sum == a'.sum && (a.cnt == a'.cnt && a.opn == a'.opn)), ?_, fun w => ?_, fun w => ?_⟩
  · rw [Bool.and_eq_true, Bool.and_eq_true, Bool.and_eq_true, beq_iff_eq, beq_iff_eq, beq_iff_eq, beq_iff_eq, ← nb_inj, h2, h2']
    obtain ⟨n, k, m, b⟩ := a
    obtain ⟨n', k', m', b'⟩ := a'
    simp
  · rw [run_eql_struct, acc_equal]
    rfl
  · rw [run_neq_struct, acc_equal]
    rfl

theorem field_acc1 (s : ByteArray) (k m : Int) (b : Bool) (w : World) : (Instr.field 39 (.agg #[.string s, .int .i64 k, .int .i64 m, .bool b]) 1).run Try.prog w = .ok (.int .i64 k) w := by
  have u := Try.underlying39
  have a3 := Try.isAgg3
  have z3 := Try.sizeOf3
  unfold Instr.field
  simp [run_underlying u, asAgg, part, a3, z3]
theorem field_acc2 (s : ByteArray) (k m : Int) (b : Bool) (w : World) : (Instr.field 39 (.agg #[.string s, .int .i64 k, .int .i64 m, .bool b]) 2).run Try.prog w = .ok (.int .i64 m) w := by
  have u := Try.underlying39
  have a3 := Try.isAgg3
  have z3 := Try.sizeOf3
  unfold Instr.field
  simp [run_underlying u, asAgg, part, a3, z3]
theorem field_acc3 (s : ByteArray) (k m : Int) (b : Bool) (w : World) : (Instr.field 39 (.agg #[.string s, .int .i64 k, .int .i64 m, .bool b]) 3).run Try.prog w = .ok (.bool b) w := by
  have u := Try.underlying39
  have a3 := Try.isAgg4
  have z3 := Try.sizeOf4
  unfold Instr.field
  simp [run_underlying u, asAgg, part, a3, z3]
theorem field_fault (a b : Int) (w : World) : (Instr.field 36 (.agg #[.int .i64 a, .int .i64 b]) 0).run Try.prog w = .ok (.int .i64 a) w := by
  have u := Try.underlying36
  have a3 := Try.isAgg25
  have z3 := Try.sizeOf25
  unfold Instr.field
  simp [run_underlying u, asAgg, part, a3, z3]

/-- The four cells of an account's variable. -/
structure VarA (w : World) (p : Nat) (a b c d : Value) : Prop where
  c0 : w.cell? ⟨p, 0, none⟩ = some a
  c1 : w.cell? ⟨p, 1, none⟩ = some b
  c2 : w.cell? ⟨p, 2, none⟩ = some c
  c3 : w.cell? ⟨p, 3, none⟩ = some d
  fr : ∀ i, w.frozen? ⟨p, i, none⟩ = false
theorem varA_new (w : World) (t : TypeId) (a b c d : Value) : VarA (w.alloc (.cells #[a, b, c, d] t)) w.heap.size a b c d := by
  have hr := World.rowIs_alloc w #[a, b, c, d] t (fun k => #[a, b, c, d].getD k a) (fun i hi => by simp only [Array.getElem?_eq_getElem hi, Array.getD, hi, dif_pos]; rfl)
  exact ⟨hr.cell (i := 0) (by simp), hr.cell (i := 1) (by simp), hr.cell (i := 2) (by simp), hr.cell (i := 3) (by simp), fun i => hr.frozen i⟩
theorem VarA.below {w w' : World} {p : Nat} {a b c d : Value} (h : VarA w p a b c d) (hb : Below w.heap.size w w') : VarA w' p a b c d := by
  have hp : p < w.heap.size := World.block_lt_of_cell? _ _ h.c0
  exact ⟨(hb.cell (p := ⟨p, 0, none⟩) hp).trans h.c0, (hb.cell (p := ⟨p, 1, none⟩) hp).trans h.c1, (hb.cell (p := ⟨p, 2, none⟩) hp).trans h.c2, (hb.cell (p := ⟨p, 3, none⟩) hp).trans h.c3, fun i => by
    rw [← h.fr i]
    exact World.frozen?_of_block (hb.block p hp)⟩

end Go.Proofs.Ytabolanakcmgfae
