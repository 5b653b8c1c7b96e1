/-
  Texts of the proof, joined: Own, EThree, XNamed, XBatch.
-/
import Derived.Test.YtldjieplbeflfaaGreatX13
import Derived.Laws.OwnMore
import Derived.Deep.RegionLaw
import Derived.Test.YtldjieplbeflfaaGreatX12
namespace Go.Proofs.YtldjieplbeflfaaGreat
open Go.RowKit

theorem owns_off {S : Nat → Prop} {w w' : World} {N : Nat} {t : TypeId} {s : Nat} {v : Value} {n : Nat} {xs : List Value} (h : w.ownsRow N t s v n xs) (ho : Off S w w') (hS : ∀ g, v.ownBlock = some g → ¬ S g) : w'.ownsRow N t s v n xs := by
  have hlt := h.lt
  obtain ⟨hl, h⟩ := h
  refine ⟨hl, h.imp id ?_⟩
  rintro ⟨g, cap, cur, rfl, hN, hg, hr⟩
  refine ⟨g, cap, cur, rfl, hN, ?_, hr⟩
  rw [ho.block g (hlt g rfl).2 (hS g rfl)]
  exact hg
theorem owns_heap {w : World} {N : Nat} {t : TypeId} {s : Nat} {v : Value} {n g : Nat} {xs : List Value} (h : w.ownsRow N t s v n xs) (hg : v.ownBlock = some g) : ∃ cur, w.heap[g]? = some (.cells cur t (0, 0)) := by
  rcases h.2 with ⟨rfl, _⟩ | ⟨g', cap, cur, rfl, _, h1, _⟩
  · simp [Value.ownBlock] at hg
  · simp [Value.ownBlock] at hg
    subst hg
    exact ⟨cur, h1⟩
theorem EBuf.off {S : Nat → Prop} {w w' : World} {N : Nat} {v : Value} {es : List EvC} (h : EBuf w N v es) (ho : Off S w w') (hS : ∀ g, v.ownBlock = some g → ¬ S g) : EBuf w' N v es := ⟨owns_off h.1 ho hS, h.2⟩
theorem off_of_grown {w w' : World} {row : Option Nat} (h : w.grownBy w' row) : Off (fun k => row = some k) w w' := ⟨h.os, h.tape, h.output, h.size, fun k hk hn => h.block k hk (fun e => hn e.symm)⟩
theorem VarF.off {S : Nat → Prop} {w w' : World} {p : Nat} {a b : Value} (h : VarF w p a b) (ho : Off S w w') (hS : ¬ S p) : VarF w' p a b := by
  have hp : p < w.heap.size := World.block_lt_of_cell? _ _ h.c0
  have hb := ho.block p hp hS
  exact ⟨(World.cell?_of_block (w := w) (a := ⟨p, 0, none⟩) hb).trans h.c0, (World.cell?_of_block (w := w) (a := ⟨p, 1, none⟩) hb).trans h.c1, fun i => (World.frozen?_of_block (w := w) (a := ⟨p, i, none⟩) hb).trans (h.fr i)⟩

/-- The three cells of an event's variable, that may be written. -/
structure VarG (w : World) (p : Nat) (a b c : Value) : Prop where
  c0 : w.cell? ⟨p, 0, none⟩ = some a
  c1 : w.cell? ⟨p, 1, none⟩ = some b
  c2 : w.cell? ⟨p, 2, none⟩ = some c
  fr : ∀ i, w.frozen? ⟨p, i, none⟩ = false
theorem VarG.off {S : Nat → Prop} {w w' : World} {p : Nat} {a b c : Value} (h : VarG w p a b c) (ho : Off S w w') (hS : ¬ S p) : VarG w' p a b c := by
  have hp : p < w.heap.size := World.block_lt_of_cell? _ _ h.c0
  have hb := ho.block p hp hS
  exact ⟨(World.cell?_of_block (w := w) (a := ⟨p, 0, none⟩) hb).trans h.c0, (World.cell?_of_block (w := w) (a := ⟨p, 1, none⟩) hb).trans h.c1, (World.cell?_of_block (w := w) (a := ⟨p, 2, none⟩) hb).trans h.c2, fun i => (World.frozen?_of_block (w := w) (a := ⟨p, i, none⟩) hb).trans (h.fr i)⟩
theorem VarG.set0 {w : World} {p : Nat} {a b c : Value} (h : VarG w p a b c) (x : Value) : VarG (w.setCell ⟨p, 0, none⟩ x) p x b c := by
  have c0 := h.c0
  have c1 := h.c1
  have c2 := h.c2
  exact ⟨by go_simp, by go_simp, by go_simp, fun i => by have := h.fr i; go_simp⟩
theorem VarG.set1 {w : World} {p : Nat} {a b c : Value} (h : VarG w p a b c) (x : Value) : VarG (w.setCell ⟨p, 1, none⟩ x) p a x c := by
  have c0 := h.c0
  have c1 := h.c1
  have c2 := h.c2
  exact ⟨by go_simp, by go_simp, by go_simp, fun i => by have := h.fr i; go_simp⟩
theorem VarG.set2 {w : World} {p : Nat} {a b c : Value} (h : VarG w p a b c) (x : Value) : VarG (w.setCell ⟨p, 2, none⟩ x) p a b x := by
  have c0 := h.c0
  have c1 := h.c1
  have c2 := h.c2
  exact ⟨by go_simp, by go_simp, by go_simp, fun i => by have := h.fr i; go_simp⟩
theorem VarF.set1 {w : World} {p : Nat} {a b : Value} (h : VarF w p a b) (x : Value) : VarF (w.setCell ⟨p, 1, none⟩ x) p a x := by
  have c0 := h.c0
  have c1 := h.c1
  exact ⟨by go_simp, by go_simp, fun i => by have := h.fr i; go_simp⟩
/-- What lies beyond the old blocks is no matter. -/
theorem Off.past {S T : Nat → Prop} {a b c : World} (h : Off S a b) (k : Off T b c) (hT : ∀ y, T y → y < a.heap.size → S y) : Off S a c :=
  ⟨k.os.trans h.os, k.tape.trans h.tape, k.output.trans h.output, Nat.le_trans h.size k.size, fun i hi hs => (k.block i (Nat.lt_of_lt_of_le hi h.size) (fun q => hs (hT i q hi))).trans (h.block i hi hs)⟩
theorem off_set (w : World) (a : Addr) (x : Value) : Off (fun k => k = a.block) w (w.setCell a x) := (Off.refl (fun k => k = a.block) w).set (p := a) rfl x

/-- One of them is another one. -/
def upd {α : Type} (Q : Nat → α) (k : Nat) (e : α) (i : Nat) : α := if i = k then e else Q i
theorem upd_at {α : Type} (Q : Nat → α) (k : Nat) (e : α) : upd Q k e k = e := if_pos rfl
theorem upd_ne {α : Type} (Q : Nat → α) {k i : Nat} (e : α) (h : i ≠ k) : upd Q k e i = Q i := if_neg h
theorem addr_ne {g a b : Nat} (h : a ≠ b) : (⟨g, a, none⟩ : Addr) ≠ ⟨g, b, none⟩ := fun e => by
  cases e
  exact h rfl
theorem owns_frozen {w : World} {N : Nat} {t : TypeId} {s : Nat} {v : Value} {n g : Nat} {xs : List Value} (h : w.ownsRow N t s v n xs) (hg : v.ownBlock = some g) (i : Nat) : w.frozen? ⟨g, i, none⟩ = false := by
  obtain ⟨cur, e⟩ := owns_heap h hg
  have hr : w.rowIs g t cur.size (fun j => cur.getD j (.slice none 0 0)) := ⟨cur, e, rfl, fun i hi => by simp [hi]⟩
  exact hr.frozen i
theorem made_at (z : Array Value) (n j : Nat) (hj : j < n) (u : Value) (hu : z[j % z.size]! = u) : (madeCells z n).toList[j]? = some u := by
  simp [madeCells, hj, hu]

end Go.Proofs.YtldjieplbeflfaaGreat

namespace Go.Proofs.YtldjieplbeflfaaGreat
open Go.RowKit

/-- Bytes as a list of cells. -/
def clB (bs : List Nat) : List Value := bs.map fun x => .int .u8 (x : Nat)
/-- Bytes that are appended to, as a list. -/
def BufL (w : World) (N : Nat) (v : Value) (bs : List Nat) : Prop := w.ownsRow N 5 1 v bs.length (clB bs)
theorem BufL.below {w w' : World} {N : Nat} {v : Value} {bs : List Nat} (h : BufL w N v bs) (hb : Below w.heap.size w w') : BufL w' N v bs := owns_below h hb
theorem BufL.off {S : Nat → Prop} {w w' : World} {N : Nat} {v : Value} {bs : List Nat} (h : BufL w N v bs) (ho : Off S w w') (hS : ∀ g, v.ownBlock = some g → ¬ S g) : BufL w' N v bs := owns_off h ho hS
theorem BufL.more {w : World} {N : Nat} {v : Value} {bs cs : List Nat} {ns : List Value} {m : Nat} (h : w.ownsRow N 5 1 v (bs.length + m) (clB bs ++ ns)) (hn : ns = clB cs) (hm : cs.length = m) : BufL w N v (bs ++ cs) := by
  unfold BufL
  rw [List.length_append, hm]
  unfold clB at hn h ⊢
  rw [List.map_append, ← hn]
  exact h
theorem BufL.byts {w : World} {N : Nat} {v : Value} {bs : List Nat} (h : BufL w N v bs) (hb : Evt.Bytes bs) : Byts w v bs.length (fun k => bs.getD k 0) := by
  have hbd : Bd (fun k => bs.getD k 0) := fun k => by
    show bs.getD k 0 < 256
    by_cases hk : k < bs.length
    · have : bs.getD k 0 ∈ bs := by simp [List.getD, hk]
      exact hb _ this
    · simp [List.getD, hk]
  by_cases hn : 1 ≤ bs.length
  · obtain ⟨g, cap, rfl, _, h1, h2, _, hc⟩ := owns_cells h hn
    refine ⟨hbd, some ⟨g, 0, none⟩, cap, rfl, h1, h2, fun i hi => ⟨g, 0, rfl, ?_⟩⟩
    rw [Nat.zero_add]
    refine hc i _ ?_
    simp [clB, List.getD, hi]
  · obtain rfl : bs = [] := List.eq_nil_of_length_eq_zero (by omega)
    rcases h.2 with ⟨rfl, _⟩ | ⟨g, cap, cur, rfl, _, _, hc, hm, _⟩
    · exact ⟨hbd, none, 0, rfl, Nat.le_refl _, Nat.zero_le _, fun i hi => absurd hi (Nat.not_lt_zero i)⟩
    · exact ⟨hbd, _, cap, rfl, hc, hm, fun i hi => absurd hi (Nat.not_lt_zero i)⟩

end Go.Proofs.YtldjieplbeflfaaGreat

namespace Go.Proofs.YtldjieplbeflfaaGreat
open Go.RowKit

set_option maxHeartbeats 400000 in
theorem plain_any (x : Nat) (w : World) (hx : x < 256) : Calls Tryz.prog 80 #[.int .u8 (x : Int)] w fun e w' => Tell e (Evt.letter x = true) ∧ w' = w := by
  by_cases q0 : 97 ≤ x ∧ x ≤ 122
  · have H : Hid (Evt.letter x = true) := by
      show Evt.letter _ = true
      rw [Evt.letter_iff]
      omega
    have f1 : (97 : Int) ≤ (x : Int) := by omega
    have f2 : (x : Int) ≤ 122 := by omega
    go_enter Tryz.func80, Tryz.ntmps80
    go_wp2_with fail
    go_ret
    exact ⟨tell_yes H.out, rfl⟩
  by_cases q1 : 48 ≤ x ∧ x ≤ 57
  · have H : Hid (Evt.letter x = true) := by
      show Evt.letter _ = true
      rw [Evt.letter_iff]
      omega
    have f1 : ¬ (97 : Int) ≤ (x : Int) := by omega
    have f3 : (48 : Int) ≤ (x : Int) := by omega
    have f4 : (x : Int) ≤ 57 := by omega
    go_enter Tryz.func80, Tryz.ntmps80
    go_wp2_with fail
    go_ret
    exact ⟨tell_yes H.out, rfl⟩
  have H : Hid (¬ Evt.letter x = true) := by
    show ¬ Evt.letter _ = true
    rw [Evt.letter_iff]
    omega
  by_cases q2 : x < 48
  · have f1 : ¬ (97 : Int) ≤ (x : Int) := by omega
    have f3 : ¬ (48 : Int) ≤ (x : Int) := by omega
    go_enter Tryz.func80, Tryz.ntmps80
    go_wp2_with fail
    go_ret
    exact ⟨tell_no H.out, rfl⟩
  have f3 : (48 : Int) ≤ (x : Int) := by omega
  have f4 : ¬ (x : Int) ≤ 57 := by omega
  by_cases q3 : 122 < x
  · have f1 : (97 : Int) ≤ (x : Int) := by omega
    have f2 : ¬ (x : Int) ≤ 122 := by omega
    go_enter Tryz.func80, Tryz.ntmps80
    go_wp2_with fail
    go_ret
    exact ⟨tell_no H.out, rfl⟩
  · have f1 : ¬ (97 : Int) ≤ (x : Int) := by omega
    go_enter Tryz.func80, Tryz.ntmps80
    go_wp2_with fail
    go_ret
    exact ⟨tell_no H.out, rfl⟩

theorem ch_at (s : ByteArray) {k : Nat} (h : k < s.size) : ch s k = s[k].toNat := by
  have h' : k < s.data.size := h
  unfold ch
  have e : s.data.toList[k]? = some s.data[k] := by simp
  rw [List.getD_eq_getElem?_getD, e]
  rfl

set_option maxHeartbeats 400000 in
theorem named_any (s : ByteArray) (w : World) (hs : s.size ≤ 9223372036854775807) :
    Calls Tryz.prog 54 #[.string s] w fun e w' => Tell e (Evt.named (nb s)) ∧ w' = w := by
  by_cases p0 : s.size < 1
  · have HN : Hid (¬ Evt.named (nb s)) := fun q => by
      have := q.2.1
      rw [nb_len] at this
      omega
    have p0' : (s.size : Int) < 1 := by omega
    go_enter Tryz.func54, Tryz.ntmps54
    go_wp2_with fail
    go_ret
    exact ⟨tell_no HN.out, rfl⟩
  have p0' : ¬ (s.size : Int) < 1 := by omega
  by_cases p1 : 10 < s.size
  · have HN : Hid (¬ Evt.named (nb s)) := fun q => by
      have := q.2.2
      rw [nb_len] at this
      omega
    have p1' : (10 : Int) < (s.size : Int) := by omega
    go_enter Tryz.func54, Tryz.ntmps54
    go_wp2_with fail
    go_ret
    exact ⟨tell_no HN.out, rfl⟩
  have p1' : ¬ (10 : Int) < (s.size : Int) := by omega
  go_enter Tryz.func54, Tryz.ntmps54
  go_wp2_with fail
  go_loop [14] (fun x => ∃ k : Nat, k ≤ s.size ∧ x = .int .i64 k ∧ Hid (∀ j, j < k → Evt.letter (ch s j) = true)) (fun x => s.size - (intOf x).toNat)
  case atStart => exact ⟨0, Nat.zero_le _, rfl, fun j hj => absurd hj (Nat.not_lt_zero j)⟩
  case round =>
    obtain ⟨k, hk, rfl, HS⟩ := hrel
    by_cases hk2 : k < s.size
    · have hk3 : (k : Int) < (s.size : Int) := by omega
      have HC : Hid (ch s k = s[k].toNat) := ch_at s hk2
      have HP := plain_any s[k].toNat w (UInt8.toNat_lt _)
      by_cases hL : Evt.letter s[k].toNat = true
      · have HL : Hid (Evt.letter (ch s k) = true) := by
          show Evt.letter _ = true
          rw [HC.out]
          exact hL
        go_wp2_with fail
        refine HP.mono ?_
        rintro e w1 ⟨⟨y, rfl, hy⟩, rfl⟩
        obtain rfl : y = true := hy.2 hL
        clear hy HP hL
        go_wp2_with fail
        refine ⟨⟨k + 1, by omega, by go_num, fun j hj => ?_⟩, by simp [intOf]; omega⟩
        by_cases e : j = k
        · rw [e]; exact HL.out
        · exact HS.out j (by omega)
      · have HN : Hid (¬ Evt.named (nb s)) := not_named hk2 (by rw [HC.out]; exact hL)
        go_wp2_with fail
        refine HP.mono ?_
        rintro e w1 ⟨⟨y, rfl, hy⟩, rfl⟩
        obtain rfl : y = false := by cases y with | false => rfl | true => exact absurd (hy.1 rfl) hL
        clear hy HP hL
        go_wp2_with fail
        go_ret
        exact ⟨tell_no HN.out, rfl⟩
    · obtain rfl : k = s.size := by omega
      have HY : Hid (Evt.named (nb s)) := (named_iff s HS.out).2 ⟨by omega, by omega⟩
      go_wp2_with fail
      go_ret
      exact ⟨tell_yes HY.out, rfl⟩

/-- The most that N may be. -/
def mostV (k : Int) : Int := if k = 2 ∨ k = 3 then 1000000 else 0
set_option maxHeartbeats 400000 in
theorem most_any (k : Int) (w : World) : Calls Tryz.prog 64 #[.int .i64 k] w fun e w' => e = .returned (.tuple #[.int .i64 (mostV k), .bool (decide (1 ≤ k ∧ k ≤ 4))]) ∧ w' = w := by
  by_cases q1 : k = 1
  · subst q1
    go_enter Tryz.func64, Tryz.ntmps64
    go_wp2_with fail
    go_ret2
    exact ⟨rfl, rfl⟩
  by_cases q4 : k = 4
  · subst q4
    go_enter Tryz.func64, Tryz.ntmps64
    go_wp2_with fail
    go_ret2
    exact ⟨rfl, rfl⟩
  by_cases q2 : k = 2
  · subst q2
    go_enter Tryz.func64, Tryz.ntmps64
    go_wp2_with fail
    go_ret2
    exact ⟨rfl, rfl⟩
  by_cases q3 : k = 3
  · subst q3
    go_enter Tryz.func64, Tryz.ntmps64
    go_wp2_with fail
    go_ret2
    exact ⟨rfl, rfl⟩
  have e1 : (k == 1) = false := by rw [beq_eq_false_iff_ne]; exact q1
  have e2 : (k == 2) = false := by rw [beq_eq_false_iff_ne]; exact q2
  have e3 : (k == 3) = false := by rw [beq_eq_false_iff_ne]; exact q3
  have e4 : (k == 4) = false := by rw [beq_eq_false_iff_ne]; exact q4
  have HM : Hid (mostV k = 0) := if_neg (by omega)
  have HD : Hid (decide (1 ≤ k ∧ k ≤ 4) = false) := decide_eq_false (by omega)
  clear q1 q2 q3 q4
  go_enter Tryz.func64, Tryz.ntmps64
  go_wp2_with fail
  go_ret2
  exact ⟨by rw [HM.out, HD.out]; rfl, rfl⟩

set_option maxHeartbeats 1000000 in
theorem wrongE_any (s : ByteArray) (k m : Int) (w : World) (hs : s.size ≤ 9223372036854775807) :
    Calls Tryz.prog 45 #[.agg #[.string s, .int .i64 k, .int .i64 m]] w fun e w' => e = .returned (.int .i64 (Evt.wrongE ⟨nb s, k, m⟩ : Nat)) ∧ Below w.heap.size w w' := by
  have HN := fun w' => named_any s w' hs
  have HM := fun w' => most_any k w'
  have hb0 : Below w.heap.size w (w.alloc (.cells #[.string s, .int .i64 k, .int .i64 m] 59)) := (Below.refl _ _).alloc (Nat.le_refl _) _
  obtain ⟨c0, c1, c2⟩ := varE_new w (.string s) (.int .i64 k) (.int .i64 m)
  by_cases hn0 : Evt.named (nb s)
  case neg =>
    have hn : Hid (¬ Evt.named (nb s)) := hn0
    have H : Hid (Evt.wrongE ⟨nb s, k, m⟩ = 7) := Evt.wrongE_name hn0
    clear hn0
    go_enter Tryz.func45, Tryz.ntmps45
    go_wp2_with fail
    refine (HN _).mono ?_
    rintro e w1 ⟨⟨y, rfl, hy⟩, rfl⟩
    obtain rfl : y = false := by cases y with | false => rfl | true => exact absurd (hy.1 rfl) hn.out
    clear hy HN HM
    go_wp2_with fail
    go_ret
    exact ⟨ret_int (by rw [H.out]; rfl), hb0⟩
  have hn : Hid (Evt.named (nb s)) := hn0
  clear hn0
  by_cases q0 : k < 1 ∨ 4 < k
  · have H : Hid (Evt.wrongE ⟨nb s, k, m⟩ = 1) := Evt.wrongE_kind hn.out q0
    have hd : decide (1 ≤ k ∧ k ≤ 4) = false := decide_eq_false (by omega)
    rw [hd] at HM
    clear hd q0
    go_enter Tryz.func45, Tryz.ntmps45
    go_wp2_with fail
    refine (HN _).mono ?_
    rintro e w1 ⟨⟨y, rfl, hy⟩, rfl⟩
    obtain rfl : y = true := hy.2 hn.out
    clear hy HN
    go_wp2_with fail
    refine (HM _).mono ?_
    rintro e w1 ⟨rfl, rfl⟩
    clear HM
    go_wp2_with fail
    go_ret
    exact ⟨ret_int (by rw [H.out]; rfl), hb0⟩
  have hk : Hid (¬ (k < 1 ∨ 4 < k)) := q0
  have hd : decide (1 ≤ k ∧ k ≤ 4) = true := decide_eq_true (by omega)
  rw [hd] at HM
  clear hd q0
  have HQ : Hid ((m < 0 ∨ 1000000 < m ∨ (0 < m ∧ k ≠ 2 ∧ k ≠ 3)) ↔ (m < 0 ∨ mostV k < m)) := by
    show _ ↔ _
    unfold mostV
    by_cases e : k = 2 ∨ k = 3
    · rw [if_pos e]
      omega
    · rw [if_neg e]
      omega
  generalize mostV k = M at HM HQ
  by_cases q2 : m < 0
  · have H : Hid (Evt.wrongE ⟨nb s, k, m⟩ = 3) := Evt.wrongE_range hn.out hk.out (HQ.out.2 (Or.inl q2))
    go_enter Tryz.func45, Tryz.ntmps45
    go_wp2_with fail
    refine (HN _).mono ?_
    rintro e w1 ⟨⟨y, rfl, hy⟩, rfl⟩
    obtain rfl : y = true := hy.2 hn.out
    clear hy HN
    go_wp2_with fail
    refine (HM _).mono ?_
    rintro e w1 ⟨rfl, rfl⟩
    clear HM
    go_wp2_with fail
    go_ret
    exact ⟨ret_int (by rw [H.out]; rfl), hb0⟩
  by_cases q3 : M < m
  · have H : Hid (Evt.wrongE ⟨nb s, k, m⟩ = 3) := Evt.wrongE_range hn.out hk.out (HQ.out.2 (Or.inr q3))
    go_enter Tryz.func45, Tryz.ntmps45
    go_wp2_with fail
    refine (HN _).mono ?_
    rintro e w1 ⟨⟨y, rfl, hy⟩, rfl⟩
    obtain rfl : y = true := hy.2 hn.out
    clear hy HN
    go_wp2_with fail
    refine (HM _).mono ?_
    rintro e w1 ⟨rfl, rfl⟩
    clear HM
    go_wp2_with fail
    go_ret
    exact ⟨ret_int (by rw [H.out]; rfl), hb0⟩
  · have H : Hid (Evt.wrongE ⟨nb s, k, m⟩ = 0) := Evt.wrongE_ok hn.out hk.out (fun q => by have := HQ.out.1 q; omega)
    go_enter Tryz.func45, Tryz.ntmps45
    go_wp2_with fail
    refine (HN _).mono ?_
    rintro e w1 ⟨⟨y, rfl, hy⟩, rfl⟩
    obtain rfl : y = true := hy.2 hn.out
    clear hy HN
    go_wp2_with fail
    refine (HM _).mono ?_
    rintro e w1 ⟨rfl, rfl⟩
    clear HM
    go_wp2_with fail
    go_ret
    exact ⟨ret_int (by rw [H.out]; rfl), hb0⟩

end Go.Proofs.YtldjieplbeflfaaGreat

namespace Go.Proofs.YtldjieplbeflfaaGreat
open Go.RowKit

set_option maxHeartbeats 1000000 in
theorem wrongB_any (c : Int) (vs : Value) (es : List Evt.Ev) (w : World) (h : Evs w vs es) :
    Calls Tryz.prog 49 #[.agg #[.int .i64 c, vs]] w fun e w' => e = .returned (.agg #[.int .i64 ((Evt.wrongB ⟨c, es⟩).1 : Nat), .int .i64 ((Evt.wrongB ⟨c, es⟩).2 : Nat)]) ∧ Below w.heap.size w w' := by
  obtain ⟨A, C, rfl⟩ := h.shape
  have hb0 : Below w.heap.size w (w.alloc (.cells #[.int .i64 c, .slice A es.length C] 41)) := (Below.refl _ _).alloc (Nat.le_refl _) _
  have hb1 : Below w.heap.size w ((w.alloc (.cells #[.int .i64 c, .slice A es.length C] 41)).alloc (.cells #[.int .i64 0, .int .i64 0] 62)) := hb0.alloc hb0.size _
  by_cases q0 : c < 1
  · have H : Hid (Evt.wrongB ⟨c, es⟩ = (3, 0)) := Evt.wrongB_range (Or.inl q0)
    go_enter Tryz.func49, Tryz.ntmps49
    go_wp2_with fail
    refine bodyPost_ret (v := .agg #[.int .i64 3, .int .i64 0]) (by simp [results, Tryz.results49, go_sem]) rfl ⟨by rw [H.out]; rfl, ?_⟩
    exact hb0.alloc hb0.size _
  by_cases q1 : 1000000 < c
  · have H : Hid (Evt.wrongB ⟨c, es⟩ = (3, 0)) := Evt.wrongB_range (Or.inr q1)
    go_enter Tryz.func49, Tryz.ntmps49
    go_wp2_with fail
    refine bodyPost_ret (v := .agg #[.int .i64 3, .int .i64 0]) (by simp [results, Tryz.results49, go_sem]) rfl ⟨by rw [H.out]; rfl, ?_⟩
    exact hb0.alloc hb0.size _
  have hk : Hid (¬ (c < 1 ∨ 1000000 < c)) := show ¬ (_ ∨ _) by omega
  by_cases q2 : es.length = 0
  · have H : Hid (Evt.wrongB ⟨c, es⟩ = (5, 0)) := Evt.wrongB_many hk.out (Or.inl q2)
    have g2 : (es.length : Int) < 1 := by omega
    clear q2
    go_enter Tryz.func49, Tryz.ntmps49
    go_wp2_with fail
    refine bodyPost_ret (v := .agg #[.int .i64 5, .int .i64 0]) (by simp [results, Tryz.results49, go_sem]) rfl ⟨by rw [H.out]; rfl, ?_⟩
    exact hb0.alloc hb0.size _
  have g2 : ¬ (es.length : Int) < 1 := by omega
  by_cases q3 : 10 < es.length
  · have H : Hid (Evt.wrongB ⟨c, es⟩ = (5, 0)) := Evt.wrongB_many hk.out (Or.inr q3)
    have g3 : (10 : Int) < (es.length : Int) := by omega
    go_enter Tryz.func49, Tryz.ntmps49
    go_wp2_with fail
    refine bodyPost_ret (v := .agg #[.int .i64 5, .int .i64 0]) (by simp [results, Tryz.results49, go_sem]) rfl ⟨by rw [H.out]; rfl, ?_⟩
    exact hb0.alloc hb0.size _
  have g3 : ¬ (10 : Int) < (es.length : Int) := by omega
  have HE : Hid (Evt.wrongB ⟨c, es⟩ = Evt.firstE es 0) := Evt.wrongB_else hk.out (show ¬ (es.length = 0 ∨ 10 < es.length) by omega)
  obtain ⟨b, o, C', hv, hc1, hc2, hc⟩ := h.some (by omega)
  cases hv
  have VF := varF_new (w.alloc (.cells #[.int .i64 c, .slice (some ⟨b, o, none⟩) es.length C] 41)) 62 (.int .i64 0) (.int .i64 0)
  have szx : (w.alloc (.cells #[.int .i64 c, .slice (some ⟨b, o, none⟩) es.length C] 41)).heap.size = w.heap.size + 1 := by simp
  rw [szx] at VF
  clear szx
  go_enter Tryz.func49, Tryz.ntmps49
  go_wp2_with fail
  generalize (w.alloc (.cells #[.int .i64 c, .slice (some ⟨b, o, none⟩) es.length C] 41)).alloc (.cells #[.int .i64 0, .int .i64 0] 62) = W0 at hb1 VF ⊢
  go_loopw [29] (fun x wr => ∃ k : Nat, k ≤ es.length ∧ x = .int .i64 k ∧ Hid (∀ j, j < k → ∃ e, es[j]? = some e ∧ Evt.wrongE e = 0) ∧ Below W0.heap.size W0 wr) (fun x _ => es.length - (intOf x).toNat)
  case atStart => exact ⟨0, Nat.zero_le _, rfl, fun j hj => absurd hj (Nat.not_lt_zero j), Below.refl _ _⟩
  case round =>
    obtain ⟨k, hkl, rfl, HS, hbr⟩ := hrel
    have bz := bt hb1 hbr
    by_cases hlt : k < es.length
    · have hlt' : (k : Int) < (es.length : Int) := by omega
      obtain ⟨ev, hev⟩ : ∃ ev, es[k]? = some ev := ⟨es[k], List.getElem?_eq_getElem hlt⟩
      have HEV : Hid (es[k]? = some ev) := hev
      obtain ⟨s, hs1, hs2, d0, d1, d2⟩ := (hc k ev hev).below bz
      have HNM : Hid (nb s = ev.name) := hs2
      have HW := wrongE_any s ev.kind ev.num (wr.alloc (.cells #[.string s, .int .i64 ev.kind, .int .i64 ev.num] 59)) hs1
      have HQ : Hid (Evt.wrongE ⟨nb s, ev.kind, ev.num⟩ = Evt.wrongE ev) := by
        show Evt.wrongE _ = _
        rw [hs2]
      clear hev hs2 hc
      rw [HQ.out] at HW
      have bA : Below wr.heap.size wr (wr.alloc (.cells #[.string s, .int .i64 ev.kind, .int .i64 ev.num] 59)) := (Below.refl _ _).alloc (Nat.le_refl _) _
      by_cases hE : Evt.wrongE ev = 0
      · have HE0 : Hid (Evt.wrongE ev = 0) := hE
        rw [hE] at HW
        clear hE
        go_wp2_with fail
        refine HW.mono ?_
        rintro e w1 ⟨rfl, b1⟩
        have b1 := bt bA b1
        clear HW
        go_wp2_with fail
        refine ⟨⟨k + 1, by omega, by go_num, fun j hj => ?_, bt hbr b1⟩, by simp [intOf]; omega⟩
        by_cases e : j = k
        · rw [e]; exact ⟨ev, HEV.out, HE0.out⟩
        · exact HS.out j (by omega)
      · have HE1 : Hid (Evt.firstE es 0 = (Evt.wrongE ev, k)) := Evt.firstE_some es k ev HEV.out hE HS.out
        generalize Evt.wrongE ev = x at HW HE1 hE
        have hx' : ((x : Int) == 0) = false := by rw [beq_eq_false_iff_ne]; omega
        have hxn : ((x : Int) != 0) = true := by rw [bne, hx']; rfl
        clear hE
        go_wp2_with fail
        refine HW.mono ?_
        rintro e w1 ⟨rfl, b1⟩
        have b1 := bt bA b1
        obtain ⟨c0, c1, fr⟩ := (VF.below hbr).below b1
        have f0 := fr 0
        have f1 := fr 1
        clear HW
        go_wp2_with fail
        refine bodyPost_ret (v := .agg #[.int .i64 (x : Nat), .int .i64 (k : Nat)]) (by simp [results, Tryz.results49, go_sem, c0, c1]) rfl ⟨by rw [HE.out, HE1.out], ?_⟩
        exact ((bt bz b1).setCell (Nat.le_succ _) _).setCell (Nat.le_succ _) _
    · obtain rfl : k = es.length := by omega
      have HZ : Hid (Evt.firstE es 0 = (0, 0)) := Evt.firstE_none es 0 (fun e he => by
        obtain ⟨j, hj, rfl⟩ := List.mem_iff_getElem.1 he
        obtain ⟨e', h1, h2⟩ := HS.out j hj
        rw [List.getElem?_eq_getElem hj, Option.some.injEq] at h1
        rw [h1]
        exact h2)
      obtain ⟨c0, c1, fr⟩ := VF.below hbr
      have f0 := fr 0
      have f1 := fr 1
      clear hc
      go_wp2_with fail
      refine bodyPost_ret (v := .agg #[.int .i64 0, .int .i64 0]) (by simp [results, Tryz.results49, go_sem, c0, c1]) rfl ⟨by rw [HE.out, HZ.out]; rfl, ?_⟩
      exact (bz.setCell (Nat.le_succ _) _).setCell (Nat.le_succ _) _

theorem Bats.shape {w : World} {v : Value} {l : List Evt.Bat} (h : Bats w v l) : ∃ A C, v = .slice A l.length C := by
  obtain ⟨A, C, hv, _⟩ := h
  exact ⟨A, C, hv⟩
theorem Bats.len {w : World} {v : Value} {l : List Evt.Bat} (h : Bats w v l) : l.length ≤ 9223372036854775807 := by
  obtain ⟨A, C, hv, h1, h2, _⟩ := h
  unfold maxLen at h2
  omega
theorem wrongL_many {l : List Evt.Bat} (h : 150 < l.length) : Evt.wrongL l = (5, 0) := if_pos h
theorem wrongL_else {l : List Evt.Bat} (h : ¬ 150 < l.length) : Evt.wrongL l = Evt.firstB l 0 := if_neg h

set_option maxHeartbeats 1000000 in
theorem wrongL_any (v : Value) (l : List Evt.Bat) (w : World) (h : Bats w v l) :
    Calls Tryz.prog 91 #[v] w fun e w' => e = .returned (.agg #[.int .i64 ((Evt.wrongL l).1 : Nat), .int .i64 ((Evt.wrongL l).2 : Nat)]) ∧ Below w.heap.size w w' := by
  obtain ⟨A, C, rfl⟩ := h.shape
  have hl := h.len
  have hb1 : Below w.heap.size w (w.alloc (.cells #[.int .i64 0, .int .i64 0] 62)) := (Below.refl _ _).alloc (Nat.le_refl _) _
  by_cases q3 : 150 < l.length
  · have H : Hid (Evt.wrongL l = (5, 0)) := wrongL_many q3
    have g3 : (150 : Int) < (l.length : Int) := by omega
    go_enter Tryz.func91, Tryz.ntmps91
    go_wp2_with fail
    refine bodyPost_ret (v := .agg #[.int .i64 5, .int .i64 0]) (by simp [results, Tryz.results91, go_sem]) rfl ⟨by rw [H.out]; rfl, ?_⟩
    exact (Below.refl _ _).alloc (Nat.le_refl _) _
  have g3 : ¬ (150 : Int) < (l.length : Int) := by omega
  have HE : Hid (Evt.wrongL l = Evt.firstB l 0) := wrongL_else q3
  have VF := varF_new w 62 (.int .i64 0) (.int .i64 0)
  have hc : Hid (∀ i x, l[i]? = some x → ∃ b o, A = some ⟨b, o, none⟩ ∧ BatIn w b (o + i * 2) x) := by
    obtain ⟨A', C', hv, _, _, hc⟩ := h
    cases hv
    exact hc
  clear h
  go_enter Tryz.func91, Tryz.ntmps91
  go_wp2_with fail
  generalize w.alloc (.cells #[.int .i64 0, .int .i64 0] 62) = W0 at hb1 VF ⊢
  go_loopw [12] (fun x wr => ∃ k : Nat, k ≤ l.length ∧ x = .int .i64 k ∧ Hid (∀ j, j < k → ∃ e, l[j]? = some e ∧ (Evt.wrongB e).1 = 0) ∧ Below W0.heap.size W0 wr) (fun x _ => l.length - (intOf x).toNat)
  case atStart => exact ⟨0, Nat.zero_le _, rfl, fun j hj => absurd hj (Nat.not_lt_zero j), Below.refl _ _⟩
  case round =>
    obtain ⟨k, hkl, rfl, HS, hbr⟩ := hrel
    have bz := bt hb1 hbr
    by_cases hlt : k < l.length
    · have hlt' : (k : Int) < (l.length : Int) := by omega
      obtain ⟨x, hx⟩ : ∃ x, l[k]? = some x := ⟨l[k], List.getElem?_eq_getElem hlt⟩
      have HEV : Hid (l[k]? = some x) := hx
      obtain ⟨b, o, rfl, hin⟩ := hc.out k x hx
      obtain ⟨vs, d0, d1, he⟩ := hin.below bz
      have bA : Below wr.heap.size wr (wr.alloc (.cells #[.int .i64 x.cmd, vs] 41)) := (Below.refl _ _).alloc (Nat.le_refl _) _
      have HW := wrongB_any x.cmd vs x.evs _ (he.below bA)
      have HQ : Hid (Evt.wrongB ⟨x.cmd, x.evs⟩ = Evt.wrongB x) := rfl
      rw [HQ.out] at HW
      obtain ⟨As, Cs, rfl⟩ := he.shape
      clear hx hin he
      by_cases hE : (Evt.wrongB x).1 = 0
      · have HE0 : Hid ((Evt.wrongB x).1 = 0) := hE
        rw [hE] at HW
        generalize (Evt.wrongB x).2 = y at HW
        clear hE
        go_wp2_with fail
        refine HW.mono ?_
        rintro e w1 ⟨rfl, b1⟩
        have b1 := bt bA b1
        have b2 : Below wr.heap.size wr (w1.alloc (.cells #[.int .i64 0, .int .i64 (y : Nat)] 62)) := b1.alloc b1.size _
        clear HW
        go_wp2_with fail
        refine ⟨⟨k + 1, by omega, by go_num, fun j hj => ?_, bt hbr b2⟩, by simp [intOf]; omega⟩
        by_cases e : j = k
        · rw [e]; exact ⟨x, HEV.out, HE0.out⟩
        · exact HS.out j (by omega)
      · have HE1 : Hid (Evt.firstB l 0 = ((Evt.wrongB x).1, k)) := Evt.firstB_some l k x HEV.out hE HS.out
        generalize (Evt.wrongB x).1 = x1 at HW HE1 hE
        generalize (Evt.wrongB x).2 = y at HW
        have hx' : ((x1 : Int) == 0) = false := by rw [beq_eq_false_iff_ne]; omega
        have hxn : ((x1 : Int) != 0) = true := by rw [bne, hx']; rfl
        clear hE
        go_wp2_with fail
        refine HW.mono ?_
        rintro e w1 ⟨rfl, b1⟩
        have b1 := bt bA b1
        have b2 : Below wr.heap.size wr (w1.alloc (.cells #[.int .i64 (x1 : Nat), .int .i64 (y : Nat)] 62)) := b1.alloc b1.size _
        obtain ⟨c0, c1, fr⟩ := (VF.below hbr).below b2
        have f0 := fr 0
        have f1 := fr 1
        clear HW
        go_wp2_with fail
        refine bodyPost_ret (v := .agg #[.int .i64 (x1 : Nat), .int .i64 (k : Nat)]) (by simp [results, Tryz.results91, go_sem, c0, c1]) rfl ⟨by rw [HE.out, HE1.out], ?_⟩
        exact ((bt bz b2).setCell (Nat.le_refl _) _).setCell (Nat.le_refl _) _
    · obtain rfl : k = l.length := by omega
      have HZ : Hid (Evt.firstB l 0 = (0, 0)) := Evt.firstB_none l 0 (fun e he => by
        obtain ⟨j, hj, rfl⟩ := List.mem_iff_getElem.1 he
        obtain ⟨e', h1, h2⟩ := HS.out j hj
        rw [List.getElem?_eq_getElem hj, Option.some.injEq] at h1
        rw [h1]
        exact h2)
      obtain ⟨c0, c1, fr⟩ := VF.below hbr
      have f0 := fr 0
      have f1 := fr 1
      go_wp2_with fail
      refine bodyPost_ret (v := .agg #[.int .i64 0, .int .i64 0]) (by simp [results, Tryz.results91, go_sem, c0, c1]) rfl ⟨by rw [HE.out, HZ.out]; rfl, ?_⟩
      exact (bz.setCell (Nat.le_refl _) _).setCell (Nat.le_refl _) _

end Go.Proofs.YtldjieplbeflfaaGreat
