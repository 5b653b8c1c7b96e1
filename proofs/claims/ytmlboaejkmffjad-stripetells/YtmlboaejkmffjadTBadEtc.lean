/-
  What stripe.Mend does with whatever it is handed.
-/
import Derived.Test.YtmlboaejkmffjadLlsEtc
import Derived.Laws.CopyOwn
import Derived.Lib.MinMax
import Derived.Lib.AppendZerosOnto
namespace Go.Proofs.Ytmlboaejkmffjad
open Go.RowKit

/-- What parseRight tells. -/
def RightO (w : World) (N : Nat) (v : Value) (y : Bool) (P : Prop) (n : Nat) (g : Nat → Nat) : Prop :=
  (P ∧ y = true ∧ ∃ d, v = .agg #[.int .i64 (g 1 : Nat), .int .i64 (g 2 : Nat), .int .i64 (g 3 * 256 + g 4 : Nat), d] ∧ Made w N d (n - 11) (fun k => g (k + 7))) ∨
  (¬ P ∧ y = false ∧ v = .agg #[.int .i64 0, .int .i64 0, .int .i64 0, .slice none 0 0])

set_option maxHeartbeats 400000 in
set_option maxRecDepth 100000 in
theorem parseRight_any (v : Value) (n : Nat) (g : Nat → Nat) (s : Int) (i : Nat) (w : World) (h : Byts w v n g) :
    Calls Try.prog 48 #[v, .int .i64 s, .int .i64 (i : Int)] w fun e w' => ∃ v' y, e = .returned (.tuple #[v', .bool y]) ∧ RightO w' w.heap.size v' y (Crc.parseE g n = 0 ∧ ((g 1 : Nat) : Int) = s ∧ g 2 = i) n g ∧ Below w.heap.size w w' := by
  obtain ⟨A0, C0, rfl⟩ := h.shape
  have bA : Below w.heap.size w (w.alloc (.cells #[.int .i64 0, .int .i64 0, .int .i64 0, .slice none 0 0] 75)) := (Below.refl _ _).alloc (Nat.le_refl _) _
  have V0 := varB_new w (.int .i64 0) (.int .i64 0) (.int .i64 0) (.slice none 0 0)
  by_cases hE : Crc.parseE g n = 0
  · have H1 := parse_made _ n g _ (h.below bA) hE
    clear h
    have HE : Hid (Crc.parseE g n = 0) := hE
    generalize hz : g 3 * 256 + g 4 = z at H1
    have HZ : Hid (g 3 * 256 + g 4 = z) := hz
    clear hz
    by_cases h1 : ((g 1 : Nat) : Int) = s
    · by_cases h2 : g 2 = i
      · have t1 : (((g 1 : Nat) : Int) == s) = true := by rw [beq_iff_eq]; exact h1
        have t2 : (((g 2 : Nat) : Int) == (i : Int)) = true := by rw [beq_iff_eq]; omega
        have n1 : (((g 1 : Nat) : Int) != s) = false := by rw [bne, t1]; rfl
        have n2 : (((g 2 : Nat) : Int) != (i : Int)) = false := by rw [bne, t2]; rfl
        have HY : Hid (Crc.parseE g n = 0 ∧ ((g 1 : Nat) : Int) = s ∧ g 2 = i) := ⟨hE, h1, h2⟩
        clear hE h1 h2
        go_enter Try.func48, Try.ntmps48
        go_wp2_with fail
        refine H1.mono ?_
        rintro e w1 ⟨d, rfl, hd, b1⟩
        obtain ⟨g5, c5, rfl, hg5, hc5, hm5, R5⟩ := hd
        have V1 := V0.below b1
        have bz := bt bA b1
        have bX : Below w1.heap.size w1 (w1.alloc (.cells #[.int .i64 (g 1 : Nat), .int .i64 (g 2 : Nat), .int .i64 (z : Nat), .slice (some ⟨g5, 0, none⟩) (n - 11) c5] 75)) := (Below.refl _ _).alloc (Nat.le_refl _) _
        obtain ⟨c0, c1, c2, c3, fr⟩ := V1.below bX
        have f0 := fr 0
        have f1 := fr 1
        have f2 := fr 2
        have f3 := fr 3
        have R6 := R5.below bX
        have bz := bt bz bX
        have hgw : w.heap.size < g5 := Nat.lt_of_lt_of_le (by simp) hg5
        clear H1 V0 V1 R5 bX b1
        go_wp2_with fail
        refine bodyPost_ret (v := .tuple #[.agg #[.int .i64 (g 1 : Nat), .int .i64 (g 2 : Nat), .int .i64 (z : Nat), .slice (some ⟨g5, 0, none⟩) (n - 11) c5], .bool true]) (by simp [results, Try.results48, go_sem, c0, c1, c2, c3]) rfl ⟨_, _, rfl, Or.inl ⟨HY.out, rfl, _, by rw [HZ.out], ⟨g5, c5, rfl, by omega, hc5, hm5, row4 R6 (by omega)⟩⟩, ?_⟩
        exact (((bz.setCell (Nat.le_refl _) _).setCell (Nat.le_refl _) _).setCell (Nat.le_refl _) _).setCell (Nat.le_refl _) _
      · have t1 : (((g 1 : Nat) : Int) == s) = true := by rw [beq_iff_eq]; exact h1
        have t2 : (((g 2 : Nat) : Int) == (i : Int)) = false := by rw [beq_eq_false_iff_ne]; omega
        have n1 : (((g 1 : Nat) : Int) != s) = false := by rw [bne, t1]; rfl
        have n2 : (((g 2 : Nat) : Int) != (i : Int)) = true := by rw [bne, t2]; rfl
        have HN : Hid (¬ (Crc.parseE g n = 0 ∧ ((g 1 : Nat) : Int) = s ∧ g 2 = i)) := fun q => h2 q.2.2
        clear hE h1 h2
        go_enter Try.func48, Try.ntmps48
        go_wp2_with fail
        refine H1.mono ?_
        rintro e w1 ⟨d, rfl, hd, b1⟩
        obtain ⟨g5, c5, rfl, _, _, _, _⟩ := hd
        have V1 := V0.below b1
        have bz := bt bA b1
        have bX : Below w1.heap.size w1 (w1.alloc (.cells #[.int .i64 (g 1 : Nat), .int .i64 (g 2 : Nat), .int .i64 (z : Nat), .slice (some ⟨g5, 0, none⟩) (n - 11) c5] 75)) := (Below.refl _ _).alloc (Nat.le_refl _) _
        obtain ⟨c0, c1, c2, c3, fr⟩ := V1.below bX
        have f0 := fr 0
        have f1 := fr 1
        have f2 := fr 2
        have f3 := fr 3
        have bz := bt bz bX
        clear H1 V0 V1 bX b1
        go_wp2_with fail
        refine bodyPost_ret (v := .tuple #[.agg #[.int .i64 0, .int .i64 0, .int .i64 0, .slice none 0 0], .bool false]) (by simp [results, Try.results48, go_sem, c0, c1, c2, c3]) rfl ⟨_, _, rfl, Or.inr ⟨HN.out, rfl, rfl⟩, ?_⟩
        exact (((bz.setCell (Nat.le_refl _) _).setCell (Nat.le_refl _) _).setCell (Nat.le_refl _) _).setCell (Nat.le_refl _) _
    · have t1 : (((g 1 : Nat) : Int) == s) = false := by rw [beq_eq_false_iff_ne]; exact h1
      have n1 : (((g 1 : Nat) : Int) != s) = true := by rw [bne, t1]; rfl
      have HN : Hid (¬ (Crc.parseE g n = 0 ∧ ((g 1 : Nat) : Int) = s ∧ g 2 = i)) := fun q => h1 q.2.1
      clear hE h1
      go_enter Try.func48, Try.ntmps48
      go_wp2_with fail
      refine H1.mono ?_
      rintro e w1 ⟨d, rfl, hd, b1⟩
      obtain ⟨g5, c5, rfl, _, _, _, _⟩ := hd
      have V1 := V0.below b1
      have bz := bt bA b1
      have bX : Below w1.heap.size w1 (w1.alloc (.cells #[.int .i64 (g 1 : Nat), .int .i64 (g 2 : Nat), .int .i64 (z : Nat), .slice (some ⟨g5, 0, none⟩) (n - 11) c5] 75)) := (Below.refl _ _).alloc (Nat.le_refl _) _
      obtain ⟨c0, c1, c2, c3, fr⟩ := V1.below bX
      have f0 := fr 0
      have f1 := fr 1
      have f2 := fr 2
      have f3 := fr 3
      have bz := bt bz bX
      clear H1 V0 V1 bX b1
      go_wp2_with fail
      refine bodyPost_ret (v := .tuple #[.agg #[.int .i64 0, .int .i64 0, .int .i64 0, .slice none 0 0], .bool false]) (by simp [results, Try.results48, go_sem, c0, c1, c2, c3]) rfl ⟨_, _, rfl, Or.inr ⟨HN.out, rfl, rfl⟩, ?_⟩
      exact (((bz.setCell (Nat.le_refl _) _).setCell (Nat.le_refl _) _).setCell (Nat.le_refl _) _).setCell (Nat.le_refl _) _
  · have HN : Hid (¬ (Crc.parseE g n = 0 ∧ ((g 1 : Nat) : Int) = s ∧ g 2 = i)) := fun q => hE q.1
    have H1 := parse_any _ n g _ (h.below bA)
    rw [pk_no hE, pk_no hE, pk_no hE, pk_no hE] at H1
    have hx' : (((Crc.parseE g n : Nat) : Int) == 0) = false := by rw [beq_eq_false_iff_ne]; omega
    have hxn : (((Crc.parseE g n : Nat) : Int) != 0) = true := by rw [bne, hx']; rfl
    obtain ⟨P, hP⟩ : ∃ P : Prop, P = (Crc.parseE g n = 0 ∧ ((g 1 : Nat) : Int) = s ∧ g 2 = i) := ⟨_, rfl⟩
    rw [← hP] at HN ⊢
    clear hP h
    generalize Crc.parseE g n = E at H1 hx' hxn
    clear hE
    go_enter Try.func48, Try.ntmps48
    go_wp2_with fail
    refine H1.mono ?_
    rintro e w1 ⟨v1, rfl, ⟨d, rfl, hd⟩, b1⟩
    obtain ⟨A, C, rfl⟩ := hd.shape
    have V1 := V0.below b1
    have bz := bt bA b1
    have bX : Below w1.heap.size w1 (w1.alloc (.cells #[.int .i64 0, .int .i64 0, .int .i64 0, .slice A 0 C] 75)) := (Below.refl _ _).alloc (Nat.le_refl _) _
    obtain ⟨c0, c1, c2, c3, fr⟩ := V1.below bX
    have f0 := fr 0
    have f1 := fr 1
    have f2 := fr 2
    have f3 := fr 3
    have bz := bt bz bX
    clear hd
    clear H1 V0 V1 bX b1
    go_wp2_with fail
    refine bodyPost_ret (v := .tuple #[.agg #[.int .i64 0, .int .i64 0, .int .i64 0, .slice none 0 0], .bool false]) (by simp [results, Try.results48, go_sem, c0, c1, c2, c3]) rfl ⟨_, _, rfl, Or.inr ⟨HN.out, rfl, rfl⟩, ?_⟩
    exact (((bz.setCell (Nat.le_refl _) _).setCell (Nat.le_refl _) _).setCell (Nat.le_refl _) _).setCell (Nat.le_refl _) _

set_option maxHeartbeats 400000 in
set_option maxRecDepth 100000 in
theorem bad_any (v : Value) (N : Nat) (L : Nat → Nat) (g : Nat → Nat → Nat) (s : Int) (w : World) (h : Lls w v N L g) (hN : (N + 1) * 8 ≤ 140737488355328) :
    Calls Try.prog 24 #[v, .int .i64 s] w fun e w' => ∃ v', e = .returned v' ∧ Nums w' w.heap.size v' (Seg.badL s L g N) ∧ Below w.heap.size w w' := by
  obtain ⟨i1, hi1, hh1⟩ := Option.map_eq_some_iff.1 Try.infoInt
  simp only [Prod.mk.injEq] at hh1
  obtain ⟨hy0, hy1, hy2⟩ := hh1
  obtain ⟨A, C, rfl⟩ := h.shape
  have HL : Hid (∀ w', Below w.heap.size w w' → ∀ r, r < N → ∃ b o R K, A = some ⟨b, o, none⟩ ∧ w'.cell? ⟨b, o + r, none⟩ = some (.slice R (L r) K) ∧ Byts w' (.slice R (L r) K) (L r) (g r)) := fun w' hb r hr => (h.below hb).at hr
  clear h
  go_enter Try.func24, Try.ntmps24
  go_wp2_with fail
  go_loopw [5, 12] (fun y x wr => ∃ k : Nat, k ≤ N ∧ x = .int .i64 k ∧ Nums wr w.heap.size y (Seg.badL s L g k) ∧ Below w.heap.size w wr) (fun _ x _ => N - (intOf x).toNat)
  case atStart => exact ⟨0, Nat.zero_le _, rfl, Nums.nil _ _, Below.refl _ _⟩
  case round =>
    obtain ⟨k, hk, rfl, BN, hb⟩ := hrel
    by_cases hlt : k < N
    · have hlt' : (k : Int) < (N : Int) := by omega
      obtain ⟨b, o, R, K, rfl, d0, hy⟩ := HL.out wr hb k hlt
      have HR := parseRight_any _ _ (g k) s k wr hy
      have hln := badL_len s L g k
      obtain ⟨P, hP⟩ : ∃ P : Prop, P = (Crc.parseE (g k) (L k) = 0 ∧ ((g k 1 : Nat) : Int) = s ∧ g k 2 = k) := ⟨_, rfl⟩
      have HPy : Hid (P → Seg.badL s L g (k + 1) = Seg.badL s L g k) := fun q => Seg.badL_no (by rw [hP] at q; exact q)
      have HPn : Hid (¬ P → Seg.badL s L g (k + 1) = Seg.badL s L g k ++ [k]) := fun q => Seg.badL_yes (fun r => q (by rw [hP]; exact r))
      rw [← hP] at HR
      clear hy hP
      go_wp2_with fail
      refine HR.mono ?_
      rintro e w1 ⟨v1, y, rfl, hO, b1⟩
      have BN := BN.below b1
      have b1 := bt hb b1
      rcases hO with ⟨hp, rfl, d, rfl, g5, c5, rfl, _⟩ | ⟨hp, rfl, rfl⟩
      · have bX : Below w1.heap.size w1 (w1.alloc (.cells #[.int .i64 (g k 1 : Nat), .int .i64 (g k 2 : Nat), .int .i64 (g k 3 * 256 + g k 4 : Nat), .slice (some ⟨g5, 0, none⟩) (L k - 11) c5] 75)) := (Below.refl _ _).alloc (Nat.le_refl _) _
        have BN := BN.below bX
        have b1 := bt b1 bX
        rw [← HPy.out hp] at BN
        clear HR hp bX
        go_wp2_with fail
        exact ⟨⟨k + 1, by omega, by go_num, BN, b1⟩, by simp [intOf]; omega⟩
      · have HPP : Hid (¬ P) := hp
        have bV : Below w1.heap.size w1 (w1.alloc (.cells #[.int .i64 0, .int .i64 0, .int .i64 0, .slice none 0 0] 75)) := (Below.refl _ _).alloc (Nat.le_refl _) _
        have BN := BN.below bV
        have b1 := bt b1 bV
        have hsz : (w1.alloc (.cells #[.int .i64 0, .int .i64 0, .int .i64 0, .slice none 0 0] 75)).heap.size = w1.heap.size + 1 := by simp
        have bX := (Below.refl (w1.alloc (.cells #[.int .i64 0, .int .i64 0, .int .i64 0, .slice none 0 0] 75)).heap.size (w1.alloc (.cells #[.int .i64 0, .int .i64 0, .int .i64 0, .slice none 0 0] 75))).alloc (Nat.le_refl _) (.cells #[.int .i64 (k : Int)] 3)
        have BX : ((w1.alloc (.cells #[.int .i64 0, .int .i64 0, .int .i64 0, .slice none 0 0] 75)).alloc (.cells #[.int .i64 (k : Int)] 3)).ownsRow w.heap.size 3 1 u5 (Seg.badL s L g k).length ((Seg.badL s L g k).map fun x : Nat => Value.int .i64 (x : Int)) := BN.below bX
        have b2 := bt b1 bX
        have cn : ∀ j u, [Value.int .i64 (k : Int)][j]? = some u → ((w1.alloc (.cells #[.int .i64 0, .int .i64 0, .int .i64 0, .slice none 0 0] 75)).alloc (.cells #[.int .i64 (k : Int)] 3)).cell? ((⟨w1.heap.size + 1, 0, none⟩ : Addr).add j) = some u := by
          have q := cells_new (w1.alloc (.cells #[.int .i64 0, .int .i64 0, .int .i64 0, .slice none 0 0] 75)) #[.int .i64 (k : Int)] 3
          rw [hsz] at q
          exact q
        have HLT := BX.lt
        clear HR hp bV BN bX hsz
        go_wp2_with (at_builtin; go_loud (refine wpList_append_own _ rfl (.tmp 26) (.tmp 28) 47 rfl w.heap.size 3 i1 (.int .i64 0) 1 8 Try.underlying47 hi1 hy0 hy1 hy2 rfl (by decide) _ _ _ rfl BX ⟨w1.heap.size + 1, 0, none⟩ 1 1 [.int .i64 (k : Int)] rfl rfl cn (by intro u hu; simp at hu; rw [hu]; rfl) (by unfold maxLen; omega) (by omega) b2.size ?_; intro v3 w3 hown3 hgrow3 _))
        have B3 := Nums.one hown3
        rw [← HPn.out HPP.out] at B3
        have b3 : Below w.heap.size w w3 := b2.grown hgrow3 b2.size (fun y hy => (HLT y hy).1)
        exact ⟨⟨k + 1, by omega, by go_num, B3, b3⟩, by simp [intOf]; omega⟩
    · obtain rfl : k = N := by omega
      go_wp2_with fail
      go_ret
      exact ⟨_, rfl, BN, hb⟩

end Go.Proofs.Ytmlboaejkmffjad

namespace Go.Proofs.Ytmlboaejkmffjad
open Go.RowKit

theorem layN_max {L d : Nat} (hd : 1 ≤ d) : Nat.max 1 ((L + d - 1) / d) = Seg.layN L d := by
  show max 1 ((L + d - 1) / d) = _
  unfold Seg.layN
  split
  · rename_i h
    have : (L + d - 1) / d < 2 := by
      rw [Nat.div_lt_iff_lt_mul (by omega)]
      omega
    omega
  · rename_i h
    have : 1 ≤ (L + d - 1) / d := by
      rw [Nat.le_div_iff_mul_le (by omega)]
      omega
    omega
/-- What is spread: r, noughts behind it. -/
def spr (r : Nat → Nat) (L k : Nat) : Nat := if k < L then r k else 0
theorem row_spr {w : World} {g n m : Nat} {F : Nat → Nat} (hmn : n ≤ m) (h : w.heap[g]? = some (.cells (splice (madeCells #[.int .u8 0] m).toList 0 (cellsOf F n)).toArray 5 (0, 0))) : RowC w g 5 m (fun j => .int .u8 (spr F n j : Nat)) := by
  have hl : (cellsOf F n).length = n := by simp [cellsOf]
  have hml : (madeCells #[Value.int .u8 0] m).toList.length = m := by simp [madeCells]
  refine rowC_of ⟨_, h, ?_, fun i hi => ?_⟩
  · rw [List.size_toArray, length_splice _ _ _ (by rw [hl, hml]; omega), hml]
  · have hi : i < m := hi
    simp only [List.getElem?_toArray, splice, List.take_zero, List.nil_append, Nat.zero_add]
    unfold spr
    by_cases hlt : i < n
    · rw [if_pos hlt, List.getElem?_append_left (by rw [hl]; exact hlt)]
      simp [cellsOf, hlt]
    · rw [if_neg hlt, List.getElem?_append_right (by rw [hl]; omega), List.getElem?_drop, hl, show n + (i - n) = i by omega]
      simp [madeCells, hi, Nat.mod_one]
theorem layD_spr {r : Nat → Nat} {L n i k : Nat} (hk : k < n) : Seg.layD r L n i k = spr r L (i * n + k) := by
  unfold Seg.layD spr
  by_cases h : i * n + k < L
  · rw [if_pos ⟨hk, h⟩, if_pos h]
  · rw [if_neg (fun q => h q.2), if_neg h]

set_option maxHeartbeats 400000 in
set_option maxRecDepth 100000 in
theorem spread_any (v : Value) (L : Nat) (r : Nat → Nat) (d : Nat) (w : World) (h : Byts w v L r) (h1 : 1 ≤ d) (h2 : d ≤ 8) (h5 : L ≤ 400 * d) :
    Calls Try.prog 42 #[v, .int .i64 (d : Int)] w fun e w' => ∃ v' U, e = .returned v' ∧ Pcs w' w.heap.size v' d U (fun _ => Seg.layN L d) (Seg.layD r L (Seg.layN L d)) ∧ Below w.heap.size w w' := by
  have hn1 := Seg.layN_pos L d h1
  have hn2 := Seg.layN_le h1 h5
  have hrm := Seg.layN_room L d h1
  obtain ⟨A, C, rfl⟩ := h.shape
  have hL := h.len
  obtain ⟨q, hq⟩ : ∃ q, q = (L + d - 1) / d := ⟨_, rfl⟩
  have hdn : q ≤ 400 * 8 + 8 := by
    have := Nat.div_le_self (L + d - 1) d
    omega
  have hdiv : (((L : Int) + (d : Int) - 1).tdiv (d : Int)) = (q : Int) := by
    rw [show (L : Int) + (d : Int) - 1 = ((L + d - 1 : Nat) : Int) by omega, hq]
    rfl
  have hwr : IntKind.i64.wrap (q : Int) = (q : Int) := by rw [IntKind.wrap_i64]; omega
  have hmax : max (1 : Int) (q : Int) = ((Seg.layN L d : Nat) : Int) := by
    have := layN_max (L := L) h1
    rw [← hq] at this
    have e : Nat.max 1 q = max 1 q := rfl
    omega
  have hd0 : ¬ (d : Int) = 0 := by omega
  have hl1 : (L : Int) + (d : Int) ≤ 9223372036854775807 := by omega
  clear hq
  generalize hnn : Seg.layN L d = n at *
  have hm8 : d * n ≤ 8 * 400 := Nat.mul_le_mul h2 hn2
  obtain ⟨m, hm⟩ : ∃ m, m = d * n := ⟨_, rfl⟩
  have hLm : L ≤ m := by rw [hm, Nat.mul_comm]; exact hrm
  have hdm : (d : Int) * (n : Int) = (m : Int) := by rw [hm, Int.natCast_mul]
  have HIN : Hid (∀ i, i < d → i * n + n ≤ m) := fun i hi => by
    have := Nat.mul_le_mul_right n (show i + 1 ≤ d by omega)
    rw [Nat.succ_mul] at this
    rw [hm]
    exact this
  have HDD : Hid (Bd (fun k => spr r L k)) := fun k => by
    show spr r L k < 256
    unfold spr
    split
    · exact h.bd k
    · decide
  rw [← hm] at hm8
  have hmk := run_make_row' (P := Try.prog) 25 5 (.int .u8 0) 1 Try.underlying25 Try.infoByte rfl .i64 .i64 m (by omega) (by omega)
  have hsz : (Try.prog.info? 5).map (·.size) = some 1 := by
    obtain ⟨i1, hi1, hh1⟩ := Option.map_eq_some_iff.1 Try.infoByte
    simp only [Prod.mk.injEq] at hh1
    rw [hi1]
    simp [hh1.2.1]
  have hlc : (cellsOf r L).length = Nat.min L m := by
    rw [show Nat.min L m = L from Nat.min_eq_left hLm]
    simp [cellsOf]
  have h1c := cellsOf_one r L
  have hcs : 0 < (cellsOf r L).length → ∃ ad, A = some ad ∧ ∀ j v, (cellsOf r L)[j]? = some v → (w.alloc (.cells (madeCells #[.int .u8 0] m) 5)).cell? (ad.add j) = some v := fun h0 => by
    have hL0 : 0 < L := by simpa [cellsOf] using h0
    obtain ⟨b, o, cap, hv, _, _, hc⟩ := h.some hL0
    cases hv
    refine ⟨_, rfl, fun j v hj => ?_⟩
    rcases Nat.lt_or_ge j L with h | h
    · simp [cellsOf, h] at hj
      rw [WideShapes.add_plain, ((Below.refl w.heap.size w).alloc (Nat.le_refl _) _).cell (p := ⟨b, o + j, none⟩) (World.block_lt_of_cell? _ _ (hc j h)), hc j h, ← hj]
    · simp [List.getElem?_eq_none (show (cellsOf r L).length ≤ j by simpa [cellsOf] using h)] at hj
  have hgn : (w.alloc (.cells (madeCells #[.int .u8 0] m) 5)).heap[w.heap.size]? = some (.cells (madeCells #[.int .u8 0] m).toList.toArray 5 (0, 0)) := by
    rw [Array.toArray_toList]
    exact Deep.blk_alloc_new _ _
  have hfit : 0 + (cellsOf r L).length ≤ (madeCells #[Value.int .u8 0] m).toList.length := by
    have h6 : (madeCells #[Value.int .u8 0] m).toList.length = m := by simp [madeCells]
    have h7 : (cellsOf r L).length = L := by simp [cellsOf]
    omega
  have by3 := (Below.refl w.heap.size w).alloc (Nat.le_refl _) (.cells (madeCells #[.int .u8 0] m) 5)
  have HR : Hid (L ≤ m) := hLm
  obtain ⟨i0, hi0, hh⟩ := Option.map_eq_some_iff.1 Try.infoRow
  simp only [Prod.mk.injEq] at hh
  obtain ⟨hz0, hz1, hz2⟩ := hh
  clear hrm h hm hLm
  go_enter Try.func42, Try.ntmps42
  go_upto_region 3 with fail
  clear hdiv hwr hmax hl1
  go_wp2_with (refine wpList_copy_splice rfl (.tmp 21) (.tmp 22) 25 25 rfl 5 Try.underlying25 hsz _ _ _ _ _ _ rfl rfl w.heap.size 0 _ _ hgn _ hlc (fun h0 => ⟨rfl, hcs h0⟩) hfit h1c w.heap.size w by3 (Nat.le_refl _) ?_; intro u3 HG b3)
  have R3 : RowC u3 w.heap.size 5 m (fun j => .int .u8 (spr r L j : Nat)) := row_spr HR.out HG.out
  clear HG hgn hfit hcs hmk hsz hlc h1c by3
  go_loopw [7, 25] (fun y x wr => ∃ (i : Nat) (U : Nat → Value), i ≤ d ∧ x = .int .i64 i ∧ Pcs wr w.heap.size y i U (fun _ => n) (Seg.layD r L n) ∧ RowC wr w.heap.size 5 m (fun j => .int .u8 (spr r L j : Nat)) ∧ Below w.heap.size w wr) (fun _ x _ => d - (intOf x).toNat)
  case atStart => exact ⟨0, fun _ => .slice none 0 0, Nat.zero_le _, rfl, Pcs.start _ _ _ _ _, R3, b3⟩
  case round =>
    obtain ⟨i, U, hi, rfl, hP, hR, hb⟩ := hrel
    by_cases hlt : i < d
    · have hlt' : (i : Int) < (d : Int) := by omega
      have hin := HIN.out i hlt
      obtain ⟨p, hp⟩ : ∃ p, i * n = p := ⟨_, rfl⟩
      rw [hp] at hin
      have q1 : (i : Int) * (n : Int) = (p : Int) := by rw [← hp, Int.natCast_mul]
      have q2 : ((i : Int) + 1) * (n : Int) = (p : Int) + (n : Int) := by rw [Int.add_mul, q1, Int.one_mul]
      have hpc : Pce wr w.heap.size (.slice (some ⟨w.heap.size, p, none⟩) n (m - p)) n (Seg.layD r L n i) := by
        refine ⟨⟨fun k => ?_, _, _, rfl, by omega, by unfold maxLen; omega, fun k hk => ⟨w.heap.size, p, rfl, ?_⟩⟩, Or.inr ⟨_, p, _, _, _, rfl, Nat.le_refl _, hR⟩⟩
        · by_cases e : k < n
          · rw [layD_spr e]; exact HDD.out _
          · show Seg.layD r L n i k < 256
            unfold Seg.layD
            rw [if_neg (fun q => e q.1)]
            decide
        · rw [hR.cell (by omega), layD_spr hk, hp]
      have hbX := (Below.refl wr.heap.size wr).alloc (Nat.le_refl _) (.cells #[.slice (some ⟨w.heap.size, p, none⟩) n (m - p)] 25)
      have hP := hP.below hbX
      have hpc := hpc.below hbX
      have hR := hR.below hbX
      have bX := bt hb hbX
      have HLT := hP.own.lt
      have HPO := hP.own
      clear hbX
      go_wp2_with (at_builtin; go_loud (refine wpList_append_own _ rfl (.tmp 28) (.tmp 38) 43 rfl w.heap.size 25 i0 (.slice none 0 0) 1 24 Try.underlying43 hi0 hz0 hz1 hz2 rfl (by decide) _ _ _ rfl HPO ⟨wr.heap.size, 0, none⟩ 1 1 [.slice (some ⟨w.heap.size, p, none⟩) n (m - p)] rfl rfl cell_one (by intro u hu; simp at hu; subst hu; rfl) (by unfold maxLen; omega) (by omega) bX.size ?_; intro v7 w7 hown1 hgrow1 _))
      have b7 : Below w.heap.size w w7 := bX.grown hgrow1 bX.size (fun x hx => (HLT x hx).1)
      have hP7 := hP.step hpc hown1 hgrow1
      have hR7 : RowC w7 w.heap.size 5 m (fun j => .int .u8 (spr r L j : Nat)) := hR.of_block (hgrow1.block _ hR.lt (fun e => by
        obtain ⟨F2, h2⟩ := owns_block hP.own e.symm
        exact hR.ne h2 (by decide) rfl))
      exact ⟨⟨i + 1, _, by omega, by go_num, hP7, hR7, b7⟩, by simp [intOf]; omega⟩
    · obtain rfl : i = d := by omega
      go_wp2_with fail
      go_ret
      exact ⟨_, _, rfl, hP, hb⟩

theorem owns_lower {w : World} {N M : Nat} {t : TypeId} {v : Value} {n : Nat} {xs : List Value} (h : w.ownsRow N t 1 v n xs) (hM : M ≤ N) : w.ownsRow M t 1 v n xs :=
  ⟨h.1, h.2.imp id (fun ⟨g, cap, cur, e, hg, r⟩ => ⟨g, cap, cur, e, Nat.le_trans hM hg, r⟩)⟩
theorem Pcs.congr {w : World} {N k : Nat} {v : Value} {U : Nat → Value} {L : Nat → Nat} {f f' : Nat → Nat → Nat} (h : Pcs w N v k U L f) (e : ∀ i, i < k → f i = f' i) : Pcs w N v k U L f' :=
  ⟨h.own, fun i hi => by rw [← e i hi]; exact h.row i hi⟩

set_option maxHeartbeats 400000 in
set_option maxRecDepth 100000 in
theorem blocks_any (v : Value) (m n : Nat) (F : Nat → Nat → Nat) (seg L : Nat) (w : World) (h : Lls w v m (fun _ => n) F) (hm : m ≤ 12) (hW : ∀ j, j < m → Crc.wrongB seg j L n = 0) :
    Calls Try.prog 44 #[v, .int .i64 (seg : Int), .int .i64 (L : Int)] w fun e w' => ∃ v' U, e = .returned (.tuple #[v', .int .i64 0]) ∧ Pcs w' w.heap.size v' m U (fun _ => n + 11) (fun j => Crc.enc seg j L n (F j)) ∧ Below w.heap.size w w' := by
  obtain ⟨A, C, rfl⟩ := h.shape
  have bd := h.bd
  have HL : Hid (∀ w', Below w.heap.size w w' → ∀ r, r < m → ∃ b o R K, A = some ⟨b, o, none⟩ ∧ w'.cell? ⟨b, o + r, none⟩ = some (.slice R n K) ∧ Byts w' (.slice R n K) n (F r)) := fun w' hb r hr => (h.below hb).at hr
  have HW : Hid (∀ j, j < m → Crc.wrongB seg j L n = 0) := hW
  have HE : Hid (∀ j : Nat, encI (seg : Int) (j : Int) (L : Int) n (F j) = Crc.enc seg j L n (F j)) := fun j => rfl
  have HBD : Hid (∀ j, j < m → Bd (Crc.enc seg j L n (F j))) := fun j hj => encI_bd (s := (seg : Int)) (h := (j : Int)) (z := (L : Int)) (bd j) (hW j hj)
  obtain ⟨i0, hi0, hh⟩ := Option.map_eq_some_iff.1 Try.infoRow
  simp only [Prod.mk.injEq] at hh
  obtain ⟨hz0, hz1, hz2⟩ := hh
  clear h hW
  go_enter Try.func44, Try.ntmps44
  go_wp2_with fail
  go_loopw [8, 15] (fun y x wr => ∃ (j : Nat) (U : Nat → Value), j ≤ m ∧ x = .int .i64 j ∧ Pcs wr w.heap.size y j U (fun _ => n + 11) (fun j => Crc.enc seg j L n (F j)) ∧ Below w.heap.size w wr) (fun _ x _ => m - (intOf x).toNat)
  case atStart => exact ⟨0, fun _ => .slice none 0 0, Nat.zero_le _, rfl, Pcs.start _ _ _ _ _, Below.refl _ _⟩
  case round =>
    obtain ⟨j, U, hj, rfl, hP, hb⟩ := hrel
    by_cases hlt : j < m
    · have hlt' : (j : Int) < (m : Int) := by omega
      obtain ⟨b9, o9, R9, K9, rfl, t9, y9⟩ := HL.out wr hb j hlt
      have HBB := bytes_any (.agg #[.int .i64 (seg : Int), .int .i64 (j : Int), .int .i64 (L : Int), .slice R9 n K9]) seg j L n (F j) wr ⟨_, rfl, y9⟩
      rw [HW.out j hlt, HE.out j] at HBB
      clear y9
      go_wp2_with fail
      refine HBB.mono ?_
      rintro e w6 ⟨v6, rfl, O6, b6⟩
      have hM6 : Made w6 wr.heap.size v6 (n + 11) (Crc.enc seg j L n (F j)) := by
        rcases O6 with ⟨_, q⟩ | ⟨q, _⟩
        · exact q
        · exact absurd rfl q
      have hpc := (hM6.pce (HBD.out j hlt)).lower hb.size
      obtain ⟨g6, c6, rfl, _⟩ := hM6
      have hbX := (Below.refl w6.heap.size w6).alloc (Nat.le_refl _) (.cells #[.slice (some ⟨g6, 0, none⟩) (n + 11) c6] 25)
      have hP := (hP.below b6).below hbX
      have hpc := hpc.below hbX
      have bX := bt (bt hb b6) hbX
      have HLT := hP.own.lt
      have HPO := hP.own
      clear HBB O6 hbX
      go_wp2_with (at_builtin; go_loud (refine wpList_append_own _ rfl (.tmp 32) (.tmp 34) 43 rfl w.heap.size 25 i0 (.slice none 0 0) 1 24 Try.underlying43 hi0 hz0 hz1 hz2 rfl (by decide) _ _ _ rfl HPO ⟨w6.heap.size, 0, none⟩ 1 1 [.slice (some ⟨g6, 0, none⟩) (n + 11) c6] rfl rfl cell_one (by intro u hu; simp at hu; subst hu; rfl) (by unfold maxLen; omega) (by omega) bX.size ?_; intro v7 w7 hown1 hgrow1 _))
      have b7 : Below w.heap.size w w7 := bX.grown hgrow1 bX.size (fun x hx => (HLT x hx).1)
      have hP7 := hP.step hpc hown1 hgrow1
      exact ⟨⟨j + 1, _, by omega, by go_num, hP7, b7⟩, by simp [intOf]; omega⟩
    · obtain rfl : j = m := by omega
      go_wp2_with fail
      go_ret2
      exact ⟨_, _, rfl, hP, hb⟩

/-- Lists appended to those that the call has made, of the call's own both. -/
theorem app_pcs (w : World) (N : Nat) (v : Value) (d s n : Nat) (U U' : Nat → Value) (f f' : Nat → Nat → Nat) (b cap : Nat) (hds : d + s ≤ 1000) (hN : N ≤ w.heap.size) (hP : Pcs w N v d U (fun _ => n) f) (hc : ∀ r, r < s → w.cell? ⟨b, 0 + r, none⟩ = some (U' r)) (hQ : ∀ r, r < s → Pce w N (U' r) n (f' r)) :
    ∃ v' w', (Builtin.append_ #[43, 43] 43 #[v, .slice (some ⟨b, 0, none⟩) s cap]).run Try.prog w = .ok v' w' ∧ Below N w w' ∧ Pcs w' N v' (d + s) (fun i => if i < d then U i else U' (i - d)) (fun _ => n) (fun i => if i < d then f i else f' (i - d)) := by
  obtain ⟨i0, hi, hh⟩ := Option.map_eq_some_iff.1 Try.infoRow
  simp only [Prod.mk.injEq] at hh
  obtain ⟨hz0, hz1, hz2⟩ := hh
  obtain ⟨v', w', hrun, ho, hg, _⟩ := run_append_own (P := Try.prog) w N 43 43 25 i0 (.slice none 0 0) 1 24 Try.underlying43 hi hz0 hz1 hz2 rfl (by decide) v d _ hP.own ⟨b, 0, none⟩ s cap ((List.range s).map U') (by simp) (fun j u hj => by
    rcases Nat.lt_or_ge j s with h | h
    · simp [h] at hj
      rw [WideShapes.add_plain, hc j h, ← hj]
    · simp [List.getElem?_eq_none (show ((List.range s).map U').length ≤ j by simpa using h)] at hj) (fun u hu => by
    obtain ⟨r, hr, rfl⟩ := List.mem_map.1 hu
    obtain ⟨_, A, C, e, _⟩ := (hQ r (List.mem_range.1 hr)).byts
    rw [e]
    rfl) (by unfold maxLen; omega) (by omega) hN
  refine ⟨v', w', hrun, (Below.refl N w).grown hg hN (fun x hx => (hP.own.lt x hx).1), ?_, fun i hi => ?_⟩
  · have e : (List.range (d + s)).map (fun i => if i < d then U i else U' (i - d)) = (List.range d).map U ++ (List.range s).map U' := by
      rw [List.range_add, List.map_append, List.map_map]
      refine congr (congrArg _ ?_) ?_
      · refine List.map_congr_left (fun i hi => ?_)
        rw [if_pos (List.mem_range.1 hi)]
      · refine List.map_congr_left (fun i _ => ?_)
        show (if d + i < d then U (d + i) else U' (d + i - d)) = _
        rw [if_neg (by omega), Nat.add_sub_cancel_left]
    rw [e]
    exact ho
  · by_cases e : i < d
    · simp only [if_pos e]
      exact (hP.row i e).kept (by decide) hP.own hg
    · simp only [if_neg e]
      exact (hQ (i - d) (by omega)).kept (by decide) hP.own hg

/-- code.Spare, and what comes of its answer behind the data. -/
theorem spare_join (N : Nat) (v : Value) (d s n : Nat) (U : Nat → Value) (D : Nat → Nat → Nat) (w : World) (hP : Pcs w N v d U (fun _ => n) D) (bd : Gf.Bd2 D) (h1 : 1 ≤ d) (h2 : d ≤ 8) (h3 : s ≤ 4) (hn1 : 1 ≤ n) (hn2 : n ≤ 400) (hN : N ≤ w.heap.size) :
    Calls Try.prog 43 #[v, .int .i64 (s : Int)] w fun e w' => ∃ vm v9 w5, e = .returned (.tuple #[vm, .int .i64 0]) ∧ (Builtin.append_ #[43, 43] 43 #[v, vm]).run Try.prog w' = .ok v9 w5 ∧ Lls w5 v9 (d + s) (fun _ => n) (Gf.mm d (Gf.rowF d) D) ∧ Below N w w5 := by
  have hA := (hP.lls bd).arg
  have hx : wrongE d (fun _ => n) = 0 := wrongE_ok h1 (by omega) hn1 hn2 (fun _ _ => rfl)
  have hbd := Gf.mm_bd (Gf.rowF_bd d) d D
  have hM := hA.mx hx
  by_cases hs : 1 ≤ s
  · refine (spare_own v d s n D w hM h2 hs h3).mono ?_
    rintro e w' ⟨b, G, rfl, ho, hb⟩
    have ho := ho.lower hN
    obtain ⟨v9, w5, r9, b9, A9⟩ := app_pcs w' N v d s n U (fun r => .slice (some ⟨G r, 0, none⟩) n n) D (Gf.mm d (spareF d) D) b s (by omega) (Nat.le_trans hN hb.size) (hP.below hb) (fun r hr => by rw [Nat.zero_add]; exact ho.top.cell hr) (fun r hr => ⟨byts_of_row (Gf.mm_bd (spareF_bd d) d D r) (rowC_of (ho.row r hr)) (Nat.le_refl _) (by unfold maxLen; omega), Or.inr ⟨_, _, _, _, _, rfl, ho.low r hr, rowC_of (ho.row r hr)⟩⟩)
    refine ⟨_, v9, w5, rfl, r9, ?_, (hb.mono hN).trans b9⟩
    refine lls_congr (A9.lls (fun i k => ?_)) hbd (fun i hi k _ => ?_)
    · show (if i < d then D i else Gf.mm d (spareF d) D (i - d)) k < 256
      by_cases e : i < d
      · rw [if_pos e]; exact bd i k
      · rw [if_neg e]; exact Gf.mm_bd (spareF_bd d) d D (i - d) k
    · show (if i < d then D i else Gf.mm d (spareF d) D (i - d)) k = _
      by_cases e : i < d
      · rw [if_pos e, shard_data bd e]
      · rw [if_neg e]
        have e2 : spareF d (i - d) = Gf.rowF d i := by
          show Gf.rowF d (d + (i - d)) = _
          rw [show d + (i - d) = i by omega]
        show Gf.dot d (spareF d (i - d)) _ = Gf.dot d (Gf.rowF d i) _
        rw [e2]
  · obtain rfl : s = 0 := by omega
    refine (spare_none v d (fun _ => n) D w hA h1 h2 hx).mono ?_
    rintro e w' ⟨rfl, hb⟩
    obtain ⟨g, cap, rfl, _, hcap, _⟩ := rowC_owns hP.own h1
    refine ⟨_, _, _, rfl, app_nil w' 43 43 Try.underlying43 Try.underlying43 g 0 d cap hcap 43, ?_, hb.mono hN⟩
    exact lls_congr ((hP.below hb).lls bd) hbd (fun i hi k _ => (shard_data bd hi k).symm)

set_option maxHeartbeats 400000 in
set_option maxRecDepth 100000 in
theorem lay_ok (v : Value) (L : Nat) (r : Nat → Nat) (seg d s : Nat) (w : World) (h : Byts w v L r) (h1 : 1 ≤ d) (h2 : d ≤ 8) (h3 : s ≤ 4) (h4 : seg ≤ 39) (h5 : L ≤ 400 * d) :
    Calls Try.prog 21 #[v, .int .i64 (seg : Int), .int .i64 (d : Int), .int .i64 (s : Int)] w fun e w' => ∃ v' U, e = .returned (.tuple #[v', .int .i64 0]) ∧ Pcs w' w.heap.size v' (d + s) U (fun _ => Seg.layN L d + 11) (Seg.blk r L seg d) ∧ Below w.heap.size w w' := by
  have HW := fun w' => codeWrong_any (d : Int) (s : Int) w'
  rw [wrongC_ok (by omega)] at HW
  have hL := h.len
  have HSP : Hid (∀ w', Below w.heap.size w w' → Calls Try.prog 42 #[v, .int .i64 (d : Int)] w' fun e w2 => ∃ v' U, e = .returned v' ∧ Pcs w2 w'.heap.size v' d U (fun _ => Seg.layN L d) (Seg.layD r L (Seg.layN L d)) ∧ Below w'.heap.size w' w2) := fun w' hb => spread_any v L r d w' (h.below hb) h1 h2 h5
  have hn1 := Seg.layN_pos L d h1
  have hn2 := Seg.layN_le h1 h5
  have HBD : Hid (Gf.Bd2 (Seg.layD r L (Seg.layN L d))) := Seg.layD_bd h.bd L _
  have HWB : Hid (∀ j, j < d + s → Crc.wrongB seg j L (Seg.layN L d) = 0) := fun j hj => Crc.wrongB_ok (by omega) (by omega)
  have HBF : Hid (∀ j, j < d + s → Crc.enc seg j L (Seg.layN L d) (Gf.mm d (Gf.rowF d) (Seg.layD r L (Seg.layN L d)) j) = Seg.blk r L seg d j) := fun j hj => by
    rw [Seg.blk_in (by omega)]
    rfl
  obtain ⟨A, C, rfl⟩ := h.shape
  have q1 : ¬ 40 ≤ (seg : Int) := by omega
  have q2 : ¬ 400 * (d : Int) < (L : Int) := by omega
  have q3 : ¬ (d : Int) * 400 < (L : Int) := by omega
  clear h h5
  go_enter Try.func21, Try.ntmps21
  go_wp2_with fail
  refine (HW _).mono ?_
  rintro e w1 ⟨rfl, b1⟩
  clear HW
  go_wp2_with fail
  refine (HSP.out _ b1).mono ?_
  rintro e w2 ⟨v2, U2, rfl, P2, b2⟩
  have HJ := spare_join w1.heap.size v2 d s _ U2 _ w2 P2 HBD.out h1 h2 h3 hn1 hn2 b2.size
  clear HSP P2
  go_wp2_with fail
  refine HJ.mono ?_
  rintro e w3 ⟨vm, v9, w5, rfl, r9, L9, b5⟩
  have HB := blocks_any v9 (d + s) (Seg.layN L d) _ seg L w5 L9 (by omega) HWB.out
  have b5 := bt b1 (b2.trans b5)
  clear HJ L9
  go_wp2_with (at_builtin; refine Lib.wpList_append_run _ rfl (.tmp 43) (.tmp 44) 43 43 rfl _ _ rfl rfl _ _ r9 ?_)
  refine HB.mono ?_
  rintro e w6 ⟨v6, U6, rfl, P6, b6⟩
  have P6 := P6.congr HBF.out
  have bz := bt b5 b6
  have P6 : Pcs w6 w.heap.size v6 (d + s) U6 (fun _ => Seg.layN L d + 11) (Seg.blk r L seg d) := ⟨owns_lower P6.own b5.size, fun i hi => (P6.row i hi).lower b5.size⟩
  clear HB r9
  go_wp2_with fail
  go_ret2
  exact ⟨_, _, rfl, P6, bz⟩

set_option maxHeartbeats 400000 in
set_option maxRecDepth 100000 in
theorem lay_any (v : Value) (L : Nat) (r : Nat → Nat) (seg d s : Int) (w : World) (h : Byts w v L r) :
    Calls Try.prog 21 #[v, .int .i64 seg, .int .i64 d, .int .i64 s] w fun e w' => ∃ v', e = .returned (.tuple #[v', .int .i64 (Seg.layE L seg d s : Nat)]) ∧ LayO w' (Seg.layE L seg d s) v' (d.toNat + s.toNat) (Seg.layN L d.toNat + 11) (Seg.blk r L seg.toNat d.toNat) ∧ Below w.heap.size w w' := by
  have hL := h.len
  have HW := fun w' => codeWrong_any d s w'
  by_cases q1 : d < 1 ∨ 8 < d ∨ s < 0 ∨ 4 < s
  · have HE : Hid (Seg.layE L seg d s = 5) := if_pos q1
    rw [wrongC_bad q1] at HW
    clear q1
    go_enter Try.func21, Try.ntmps21
    go_wp2_with fail
    refine (HW _).mono ?_
    rintro e w1 ⟨rfl, b1⟩
    clear HW
    go_wp2_with fail
    go_ret2
    exact ⟨_, by rw [HE.out]; rfl, Or.inr ⟨by rw [HE.out]; decide, rfl⟩, b1⟩
  rw [wrongC_ok q1] at HW
  by_cases q2 : seg < 0 ∨ 39 < seg
  · have HE : Hid (Seg.layE L seg d s = 3) := by
      show Seg.layE L seg d s = 3
      unfold Seg.layE
      rw [if_neg q1, if_pos q2]
    by_cases q3 : seg < 0
    · clear q1 q2
      go_enter Try.func21, Try.ntmps21
      go_wp2_with fail
      refine (HW _).mono ?_
      rintro e w1 ⟨rfl, b1⟩
      clear HW
      go_wp2_with fail
      go_ret2
      exact ⟨_, by rw [HE.out]; rfl, Or.inr ⟨by rw [HE.out]; decide, rfl⟩, b1⟩
    · have q4 : 40 ≤ seg := by omega
      clear q1 q2
      go_enter Try.func21, Try.ntmps21
      go_wp2_with fail
      refine (HW _).mono ?_
      rintro e w1 ⟨rfl, b1⟩
      clear HW
      go_wp2_with fail
      go_ret2
      exact ⟨_, by rw [HE.out]; rfl, Or.inr ⟨by rw [HE.out]; decide, rfl⟩, b1⟩
  by_cases q3 : 400 * d < (L : Int)
  · have HE : Hid (Seg.layE L seg d s = 4) := by
      show Seg.layE L seg d s = 4
      unfold Seg.layE
      rw [if_neg q1, if_neg q2, if_pos q3]
    obtain ⟨A, C, rfl⟩ := h.shape
    have p1 : ¬ seg < 0 := by omega
    have p2 : ¬ 40 ≤ seg := by omega
    have p5 : d * 400 < (L : Int) := by omega
    have p3 : 1 ≤ d := by omega
    have p4 : d ≤ 8 := by omega
    clear q1 q2 h
    go_enter Try.func21, Try.ntmps21
    go_wp2_with fail
    refine (HW _).mono ?_
    rintro e w1 ⟨rfl, b1⟩
    clear HW
    go_wp2_with fail
    go_ret2
    exact ⟨_, by rw [HE.out]; rfl, Or.inr ⟨by rw [HE.out]; decide, rfl⟩, b1⟩
  · obtain ⟨d', rfl⟩ := Int.eq_ofNat_of_zero_le (show 0 ≤ d by omega)
    obtain ⟨s', rfl⟩ := Int.eq_ofNat_of_zero_le (show 0 ≤ s by omega)
    obtain ⟨g', rfl⟩ := Int.eq_ofNat_of_zero_le (show 0 ≤ seg by omega)
    have HE : Seg.layE L g' d' s' = 0 := layE_ok (by omega) (by omega) (by omega) (by omega) (by omega)
    refine (lay_ok v L r g' d' s' w h (by omega) (by omega) (by omega) (by omega) (by omega)).mono ?_
    rintro e w' ⟨v', U, rfl, hl, hb⟩
    exact ⟨v', by rw [HE]; rfl, Or.inl ⟨HE, hl.lls (Seg.blk_bd (by omega) (by omega) (by omega) (by omega))⟩, hb⟩

end Go.Proofs.Ytmlboaejkmffjad

namespace Go.Proofs.Ytmlboaejkmffjad
open Go.RowKit

set_option maxHeartbeats 400000 in
set_option maxRecDepth 100000 in
theorem grow_any (m : Nat) (F : Nat → Nat) (w : World) (h1 : 1 ≤ m) (h2 : m ≤ 100000) :
    Calls Try.prog 74 #[.slice none 0 0, .int .i64 (m : Int)] w fun e w' => ∃ v', e = .returned v' ∧ Buf w' w.heap.size v' 0 F ∧ Below w.heap.size w w' := by
  obtain ⟨i1, hi1, hh1⟩ := Option.map_eq_some_iff.1 Try.infoByte
  simp only [Prod.mk.injEq] at hh1
  obtain ⟨hy0, hy1, hy2⟩ := hh1
  have hg := Lib.run_append_grow_zeros (P := Try.prog) w 25 3 25 5 i1 (.int .u8 0) .i64 .i64 Try.underlying25 Try.underlying3 hi1 hy0 none 0 0 [] (run_firstCells_none w.drew i1.size 0 0 0) m (by omega) (by omega) (by omega) (by omega) (by rw [hy2]; omega) (by
    have := growslice_fits (need := 0 + m) (old := 0) (bytes := i1.bytes) (by omega) (by rw [hy2]; omega)
    exact this)
  have hG := grownCap_ge w (0 + m) 0 5
  have hGm := grownCap_le_maxLen w (0 + m) 0 5 (by unfold maxLen; omega)
  obtain ⟨K, hK⟩ : ∃ K, K = grownCap w (0 + m) 0 5 := ⟨_, rfl⟩
  rw [← hK] at hg hG hGm
  obtain ⟨c, hc⟩ : ∃ c, c = (([] : List Value).toArray ++ Builtin.zeroCells (Value.int .u8 0).cells m ++ Builtin.zeroCells (Value.int .u8 0).cells (K - (0 + m))) := ⟨_, rfl⟩
  have hcs : c.size = K := by
    rw [hc]
    simp [Builtin.zeroCells, Value.cells]
    omega
  rw [← hc] at hg
  have HB : Hid (Buf (w.drew.alloc (.cells c 5)) w.heap.size (.slice (some ⟨w.heap.size, 0, none⟩) 0 K) 0 F) := World.ownsRow_made w.drew c K (Nat.le_refl _) hGm (by omega)
  have hbl : Below w.heap.size w (w.drew.alloc (.cells c 5)) := (Below.refl w.heap.size w).drew.alloc (Nat.le_refl _) _
  have hm0 : ¬ (m : Int) < 0 := by omega
  have hm1 : (0 : Int) < (m : Int) := by omega
  have hKi : K ≤ 9223372036854775807 := hGm
  clear hc hK hcs hGm hi1
  rw [Nat.zero_add] at hg hG
  go_enter Try.func74, Try.ntmps74
  go_wp2_with (at_builtin; go_loud (refine Lib.wpList_append_run _ rfl (.tmp 20) (.tmp 21) 25 3 rfl _ _ rfl rfl _ _ hg ?_))
  go_ret
  exact ⟨_, rfl, HB.out, hbl⟩

theorem cat_step {f : Nat → Nat → Nat} {c k : Nat} (hc : 1 ≤ c) : cellsOf (fun j => f (j / c) (j % c)) (k * c + c) = cellsOf (fun j => f (j / c) (j % c)) (k * c) ++ cellsOf (f k) c := by
  rw [cellsOf_add]
  refine congrArg _ (cellsOf_congr (fun j hj => ?_))
  show f ((k * c + j) / c) ((k * c + j) % c) = f k j
  rw [Nat.mul_comm, Nat.mul_add_div (by omega), Nat.mul_add_mod, Nat.div_eq_of_lt hj, Nat.mod_eq_of_lt hj, Nat.add_zero]

set_option maxHeartbeats 400000 in
set_option maxRecDepth 100000 in
theorem concat_any (b o n cap c : Nat) (G O K : Nat → Nat) (f : Nat → Nat → Nat) (w : World) (h : MatAt w b o n c G O K f) (bd : Gf.Bd2 f) (h1 : 1 ≤ n) (h2 : n ≤ 12) (h3 : 1 ≤ c) (h4 : c ≤ 400) :
    Calls Try.prog 54 #[.slice (some ⟨b, o, none⟩) n cap] w fun e w' => ∃ v', e = .returned v' ∧ Made w' w.heap.size v' (n * c) (fun j => f (j / c) (j % c)) ∧ Below w.heap.size w w' := by
  have hmm : n * c ≤ 12 * 400 := Nat.mul_le_mul h2 h4
  have hm1 : 1 * 1 ≤ n * c := Nat.mul_le_mul h1 h3
  have HIN : Hid (∀ k, k < n → k * c + c ≤ n * c) := fun k hk => by
    have := Nat.mul_le_mul_right c (show k + 1 ≤ n by omega)
    rw [Nat.succ_mul] at this
    exact this
  have HT : Hid (∀ w', Below w.heap.size w w' → ∀ k, k < n → w'.cell? ⟨b, o + k, none⟩ = some (.slice (some ⟨G k, O k, none⟩) c (K k))) := fun w' hb k hk => (h.below hb).top k hk
  have HR : Hid (∀ w', Below w.heap.size w w' → ∀ k, k < n → ∀ j u, (cellsOf (f k) c)[j]? = some u → w'.cell? ((⟨G k, O k, none⟩ : Addr).add j) = some u) := fun w' hb k hk j u hj => by
    rcases Nat.lt_or_ge j c with q | q
    · simp [cellsOf, q] at hj
      rw [WideShapes.add_plain, (h.below hb).row k hk j q, ← hj]
    · simp [List.getElem?_eq_none (show (cellsOf (f k) c).length ≤ j by simpa [cellsOf] using q)] at hj
  have HBD : Hid (Bd (fun j => f (j / c) (j % c))) := fun j => bd _ _
  obtain ⟨i1, hi1, hh1⟩ := Option.map_eq_some_iff.1 Try.infoByte
  simp only [Prod.mk.injEq] at hh1
  obtain ⟨hy0, hy1, hy2⟩ := hh1
  clear h bd
  go_enter Try.func54, Try.ntmps54
  go_wp2_with fail
  go_loopw [3, 11] (fun z x wr => ∃ (k : Nat), k ≤ n ∧ x = .int .i64 k ∧ z = .int .i64 ((k * c : Nat) : Int) ∧ Below w.heap.size w wr) (fun _ x _ => n - (intOf x).toNat)
  case atStart => exact ⟨0, Nat.zero_le _, rfl, by rw [Nat.zero_mul]; rfl, Below.refl _ _⟩
  case round =>
    obtain ⟨k, hk, rfl, rfl, hb⟩ := hrel
    by_cases hlt : k < n
    · have hlt' : (k : Int) < (n : Int) := by omega
      have t1 := HT.out wr hb k hlt
      have hin := HIN.out k hlt
      have e1 : (k + 1) * c = k * c + c := Nat.succ_mul k c
      have HE1 : Hid ((((k + 1) * c : Nat) : Int) = ((k * c : Nat) : Int) + (c : Int)) := by
        show (((k + 1) * c : Nat) : Int) = ((k * c : Nat) : Int) + (c : Int)
        omega
      clear e1
      generalize hp : k * c = p at *
      have hn0 : ¬ (p : Int) + (c : Int) < 0 := by omega
      go_wp2_with fail
      exact ⟨⟨k + 1, by omega, by go_num, by rw [HE1.out], hb⟩, by simp [intOf]; omega⟩
    · obtain rfl : k = n := by omega
      obtain ⟨m, hm⟩ : ∃ m, k * c = m := ⟨_, rfl⟩
      have HM : Hid (k * c = m) := hm
      rw [hm] at hmm hm1 ⊢
      have HG := grow_any m (fun j => f (j / c) (j % c)) wr (by omega) (by omega)
      clear hm
      obtain ⟨wo, rfl⟩ : ∃ x, x = wr := ⟨wr, rfl⟩
      go_wp2_with fail
      refine HG.mono ?_
      rintro e w2 ⟨v2, rfl, B2, b2⟩
      have b2 := bt hb b2
      have hwr := hb.size
      clear HG
      go_wp2_with fail
      go_loopw [6, 27] (fun y x wq => ∃ (q : Nat), q ≤ k ∧ x = .int .i64 q ∧ Buf wq w.heap.size y (q * c) (fun j => f (j / c) (j % c)) ∧ Below w.heap.size w wq) (fun _ x _ => k - (intOf x).toNat)
      case atStart => exact ⟨0, Nat.zero_le _, rfl, by rw [Nat.zero_mul]; exact owns_lower B2 hwr, b2⟩
      case round =>
        obtain ⟨q, hq, rfl, BQ, hbq⟩ := hrel
        by_cases hlt : q < k
        · have hlt' : (q : Int) < (k : Int) := by omega
          have hin := HIN.out q hlt
          rw [HM.out] at hin
          obtain ⟨p, hp⟩ : ∃ p, q * c = p := ⟨_, rfl⟩
          have HPP : Hid (cellsOf (fun j => f (j / c) (j % c)) ((q + 1) * c) = cellsOf (fun j => f (j / c) (j % c)) p ++ cellsOf (f q) c) := by
            show cellsOf (fun j => f (j / c) (j % c)) ((q + 1) * c) = cellsOf (fun j => f (j / c) (j % c)) p ++ cellsOf (f q) c
            rw [Nat.succ_mul, cat_step h3, hp]
          have HPL : Hid ((q + 1) * c = p + c) := by
            show (q + 1) * c = p + c
            rw [Nat.succ_mul, hp]
          rw [hp] at BQ hin
          have t1 := HT.out wr hbq q hlt
          have cs := HR.out wr hbq q hlt
          have hlen : (cellsOf (f q) c).length = c * 1 := by simp [cellsOf]
          have h1c := cellsOf_one (f q) c
          have HLT := World.ownsRow.lt BQ
          have BX : wr.ownsRow w.heap.size 5 1 u6 p (cellsOf (fun j => f (j / c) (j % c)) p) := BQ
          clear hp BQ
          go_wp2_with (at_builtin; go_loud (refine wpList_append_own _ rfl (.tmp 31) (.tmp 32) 25 rfl w.heap.size 5 i1 (.int .u8 0) 1 1 Try.underlying25 hi1 hy0 hy1 hy2 rfl (by decide) _ _ _ rfl BX ⟨G q, O q, none⟩ c (K q) (cellsOf (f q) c) rfl hlen cs h1c (by unfold maxLen; omega) (by omega) hbq.size ?_; intro v3 w3 hown3 hgrow3 _))
          have b3 : Below w.heap.size w w3 := hbq.grown hgrow3 hbq.size (fun y hy => (HLT y hy).1)
          refine ⟨⟨q + 1, by omega, by go_num, ?_, b3⟩, by simp [intOf]; omega⟩
          unfold Buf
          rw [HPP.out, HPL.out]
          exact hown3
        · obtain rfl : q = k := by omega
          have hqc : 1 ≤ q * c := by
            have := HM.out
            omega
          go_wp2_with fail
          go_ret
          exact ⟨_, rfl, Buf.made BQ HBD.out hqc, hbq⟩

set_option maxHeartbeats 400000 in
set_option maxRecDepth 100000 in
theorem indexI_any (g n cap : Nat) (A : Option Addr) (l : Value) (V : Nat → Value) (p : Nat → Bool) (w : World) (eg : ∀ args w, (callFunc g args).run Try.prog w = .ok (.enter g args) w)
    (hc : ∀ r, r < n → ∃ b o, A = some ⟨b, o, none⟩ ∧ w.cell? ⟨b, o + r, none⟩ = some (V r)) (hp : PredOn g l n V p w) (hn : n ≤ 10000) :
    Calls Try.prog 70 #[.slice A n cap, .func (.func g) #[] #[l]] w fun e w' => ∃ i : Int, e = .returned (.int .i64 i) ∧ FirstAt n p i ∧ Below w.heap.size w w' := by
  have HC : Hid (∀ w', Below w.heap.size w w' → ∀ r, r < n → ∃ b o, A = some ⟨b, o, none⟩ ∧ w'.cell? ⟨b, o + r, none⟩ = some (V r)) := fun w' hb r hr => by
    obtain ⟨b, o, e1, e2⟩ := hc r hr
    exact ⟨b, o, e1, (hb.cell (p := ⟨b, o + r, none⟩) (World.block_lt_of_cell? _ _ e2)).trans e2⟩
  clear hc
  go_enter Try.func70, Try.ntmps70
  go_wp2_with fail
  go_loopw [8] (fun i wr => ∃ k : Nat, k ≤ n ∧ i = .int .i64 k ∧ Hid (∀ s, s < k → p s = false) ∧ Below w.heap.size w wr) (fun i _ => n - (intOf i).toNat)
  case atStart => exact ⟨0, Nat.zero_le _, rfl, fun s hs => absurd hs (Nat.not_lt_zero s), Below.refl _ _⟩
  case round =>
    obtain ⟨k, hk, rfl, HS, hb⟩ := hrel
    by_cases hlt : k < n
    · have hlt' : (k : Int) < (n : Int) := by omega
      obtain ⟨b, o, rfl, hcw⟩ := HC.out wr hb k hlt
      have hpk := hp k hlt wr hb
      by_cases hy : p k = true
      · rw [hy] at hpk
        go_wp2_with fail
        refine hpk.mono ?_
        rintro e w1 ⟨rfl, hb1⟩
        go_wp2_with fail
        go_ret
        exact ⟨_, rfl, Or.inr ⟨k, hlt, rfl, hy, HS.out⟩, hb.trans (hb1.mono hb.size)⟩
      · have hy' : p k = false := by simpa using hy
        rw [hy'] at hpk
        clear hy
        go_wp2_with fail
        refine hpk.mono ?_
        rintro e w1 ⟨rfl, hb1⟩
        go_wp2_with fail
        refine ⟨⟨k + 1, by omega, by go_num, fun s hs => ?_, hb.trans (hb1.mono hb.size)⟩, by simp [intOf]; omega⟩
        by_cases e : s = k
        · rw [e]; exact hy'
        · exact HS.out s (by omega)
    · have e8 : k = n := by omega
      subst e8
      go_wp2_with fail
      go_ret
      exact ⟨_, rfl, Or.inl ⟨rfl, HS.out⟩, hb⟩

set_option maxHeartbeats 400000 in
set_option maxRecDepth 100000 in
theorem containsI_any (g n cap : Nat) (A : Option Addr) (l : Value) (V : Nat → Value) (p : Nat → Bool) (w : World) (eg : ∀ args w, (callFunc g args).run Try.prog w = .ok (.enter g args) w)
    (hc : ∀ r, r < n → ∃ b o, A = some ⟨b, o, none⟩ ∧ w.cell? ⟨b, o + r, none⟩ = some (V r)) (hp : PredOn g l n V p w) (hn : n ≤ 10000) :
    Calls Try.prog 51 #[.slice A n cap, .func (.func g) #[] #[l]] w fun e w' => ∃ y : Bool, e = .returned (.bool y) ∧ (y = true ↔ ∃ r, r < n ∧ p r = true) ∧ Below w.heap.size w w' := by
  go_enter Try.func51, Try.ntmps51
  go_wp2_with fail
  refine (indexI_any g n cap A l V p w eg hc hp hn).mono ?_
  rintro e w1 ⟨i, rfl, hi, hb⟩
  clear hc hp
  go_wp2_with fail
  go_ret
  refine ⟨_, rfl, ?_, hb⟩
  rcases hi with ⟨rfl, h⟩ | ⟨r, hr, rfl, h, _⟩
  · exact ⟨fun e => absurd e (by decide), fun ⟨r, hr, he⟩ => by rw [h r hr] at he; exact absurd he (by decide)⟩
  · exact ⟨fun _ => ⟨r, hr, h⟩, fun _ => by simp⟩

set_option maxHeartbeats 400000 in
set_option maxRecDepth 100000 in
theorem other_any (x y n cap B b o : Nat) (w : World) (h0 : 0 < n) (hc : w.cell? ⟨B, 0, none⟩ = some (.slice (some ⟨b, o, none⟩) n cap)) (hd : w.cell? ⟨b, o, none⟩ = some (.int .i64 (y : Int))) :
    Calls Try.prog 52 #[.int .i64 (x : Int), .pointer (some ⟨B, 0, none⟩)] w fun e w' => e = .returned (.bool (decide (x ≠ y))) ∧ Below w.heap.size w w' := by
  by_cases h : x = y
  · subst h
    have H : Hid (decide (x ≠ x) = false) := by show decide (x ≠ x) = false; simp
    go_enter Try.func52, Try.ntmps52
    go_wp2_with fail
    go_ret
    exact ⟨ret_bool (by rw [H.out]), Below.refl _ _⟩
  · have H : Hid (decide (x ≠ y) = true) := by show decide (x ≠ y) = true; simpa using h
    have h' : ((x : Int) == (y : Int)) = false := by rw [beq_eq_false_iff_ne]; omega
    clear h
    go_enter Try.func52, Try.ntmps52
    go_wp2_with fail
    go_ret
    exact ⟨ret_bool (by rw [H.out]; simp [bne, h']), Below.refl _ _⟩
theorem Try.enters_other : ∀ args w, (callFunc 52 args).run Try.prog w = .ok (.enter 52 args) w := enters_of Try.func52 (by kernel_rfl) rfl

end Go.Proofs.Ytmlboaejkmffjad

namespace Go.Proofs.Ytmlboaejkmffjad
open Go.RowKit

/-- The Sizes that the right ones among the first k tell. -/
def szL (seg : Int) (L : Nat → Nat) (g : Nat → Nat → Nat) (k : Nat) : List Nat := ((List.range k).filter (fun i => decide (Seg.right seg L g i))).map (Seg.rz g)
theorem szL_yes {seg : Int} {L : Nat → Nat} {g : Nat → Nat → Nat} {k : Nat} (h : Seg.right seg L g k) : szL seg L g (k + 1) = szL seg L g k ++ [Seg.rz g k] := by
  unfold szL
  rw [List.range_succ, List.filter_append, List.map_append]
  have e : List.filter (fun i => decide (Seg.right seg L g i)) [k] = [k] := List.filter_cons_of_pos (p := fun i => decide (Seg.right seg L g i)) (decide_eq_true h)
  rw [e]
  rfl
theorem szL_no {seg : Int} {L : Nat → Nat} {g : Nat → Nat → Nat} {k : Nat} (h : ¬ Seg.right seg L g k) : szL seg L g (k + 1) = szL seg L g k := by
  unfold szL
  rw [List.range_succ, List.filter_append, List.map_append]
  have e : List.filter (fun i => decide (Seg.right seg L g i)) [k] = [] := List.filter_cons_of_neg (p := fun i => decide (Seg.right seg L g i)) (fun q => h (of_decide_eq_true q))
  rw [e]
  exact List.append_nil _
theorem szL_mem {seg : Int} {L : Nat → Nat} {g : Nat → Nat → Nat} {k x : Nat} : x ∈ szL seg L g k ↔ ∃ i, i < k ∧ Seg.right seg L g i ∧ Seg.rz g i = x := by
  unfold szL
  rw [List.mem_map]
  constructor
  · rintro ⟨i, hi, e⟩
    rw [List.mem_filter, List.mem_range] at hi
    exact ⟨i, hi.1, of_decide_eq_true hi.2, e⟩
  · rintro ⟨i, h1, h2, e⟩
    exact ⟨i, by rw [List.mem_filter, List.mem_range]; exact ⟨h1, decide_eq_true h2⟩, e⟩
theorem szL_len (seg : Int) (L : Nat → Nat) (g : Nat → Nat → Nat) (k : Nat) : (szL seg L g k).length ≤ k := by
  unfold szL
  rw [List.length_map]
  exact Nat.le_trans (List.length_filter_le _ _) (by simp)
/-- One of them is another one than the first: just where not all have one Size. -/
theorem szL_sizes {seg : Int} {L : Nat → Nat} {g : Nat → Nat → Nat} {N : Nat} : (∃ r, r < (szL seg L g N).length ∧ decide ((szL seg L g N).getD r 0 ≠ (szL seg L g N).getD 0 0) = true) ↔ ¬ Seg.sizes seg L g N := by
  constructor
  · rintro ⟨r, hr, h⟩ hs
    have h := of_decide_eq_true h
    have m1 : (szL seg L g N).getD r 0 ∈ szL seg L g N := by simp [List.getD, hr]
    have m0 : (szL seg L g N).getD 0 0 ∈ szL seg L g N := by simp [List.getD, show 0 < (szL seg L g N).length by omega]
    obtain ⟨i, i1, i2, i3⟩ := szL_mem.1 m1
    obtain ⟨j, j1, j2, j3⟩ := szL_mem.1 m0
    exact h (by rw [← i3, ← j3]; exact hs i i1 j j1 i2 j2)
  · intro hn
    refine Classical.byContradiction fun q => hn (fun i hi j hj r1 r2 => ?_)
    have each : ∀ x, x ∈ szL seg L g N → x = (szL seg L g N).getD 0 0 := fun x hx => by
      obtain ⟨r, hr, e⟩ := List.mem_iff_getElem.1 hx
      refine Classical.byContradiction fun ne => q ⟨r, hr, decide_eq_true ?_⟩
      rw [show (szL seg L g N).getD r 0 = x by simp [List.getD, hr, e]]
      exact ne
    rw [each _ (szL_mem.2 ⟨i, hi, r1, rfl⟩), each _ (szL_mem.2 ⟨j, hj, r2, rfl⟩)]
theorem nums_cells {w : World} {N : Nat} {v : Value} {l : List Nat} (h : Nums w N v l) : ∃ A cap, v = .slice A l.length cap ∧ ∀ r, r < l.length → ∃ b o, A = some ⟨b, o, none⟩ ∧ w.cell? ⟨b, o + r, none⟩ = some (.int .i64 ((l.getD r 0 : Nat) : Int)) := by
  have h' : w.ownsRow N 3 1 v l.length (l.map fun x : Nat => Value.int .i64 (x : Int)) := h
  rcases h'.2 with ⟨rfl, h0⟩ | ⟨g, cap, cur, rfl, _, _, _, _, _, _⟩
  · exact ⟨none, 0, by rw [h0], fun r hr => absurd hr (by omega)⟩
  · refine ⟨some ⟨g, 0, none⟩, cap, rfl, fun r hr => ⟨g, 0, rfl, ?_⟩⟩
    have := h'.cells (g := g) rfl r (.int .i64 ((l.getD r 0 : Nat) : Int)) (by simp [List.getD, hr])
    rw [WideShapes.add_plain] at this
    exact this

set_option maxHeartbeats 800000 in
set_option maxRecDepth 100000 in
theorem rightOnes_any (v : Value) (N : Nat) (L : Nat → Nat) (g : Nat → Nat → Nat) (s : Int) (w : World) (h : Lls w v N L g) (hN : N ≤ 100) :
    Calls Try.prog 50 #[v, .int .i64 s] w fun e w' => ∃ v' z, e = .returned (.tuple #[v', z]) ∧ Lls w' v' N (Seg.rl s L g) (Seg.rf g) ∧ Nums w' w.heap.size z (szL s L g N) ∧ Below w.heap.size w w' := by
  obtain ⟨i0, hi0, hh⟩ := Option.map_eq_some_iff.1 Try.infoRow
  simp only [Prod.mk.injEq] at hh
  obtain ⟨hz0, hz1, hz2⟩ := hh
  obtain ⟨i1, hi1, hh1⟩ := Option.map_eq_some_iff.1 Try.infoInt
  simp only [Prod.mk.injEq] at hh1
  obtain ⟨hy0, hy1, hy2⟩ := hh1
  obtain ⟨A, C, rfl⟩ := h.shape
  have HL : Hid (∀ w', Below w.heap.size w w' → ∀ r, r < N → ∃ b o R K, A = some ⟨b, o, none⟩ ∧ w'.cell? ⟨b, o + r, none⟩ = some (.slice R (L r) K) ∧ Byts w' (.slice R (L r) K) (L r) (g r)) := fun w' hb r hr => (h.below hb).at hr
  have HBD : Hid (Gf.Bd2 (Seg.rf g)) := fun i k => h.bd i (k + 7)
  clear h
  go_enter Try.func50, Try.ntmps50
  go_wp2_with fail
  go_loopw [4, 5, 12] (fun y z x wr => ∃ (k : Nat) (U : Nat → Value), k ≤ N ∧ x = .int .i64 k ∧ Pcs wr w.heap.size y k U (Seg.rl s L g) (Seg.rf g) ∧ Nums wr w.heap.size z (szL s L g k) ∧ Below w.heap.size w wr) (fun _ _ x _ => N - (intOf x).toNat)
  case atStart => exact ⟨0, fun _ => .slice none 0 0, Nat.zero_le _, rfl, Pcs.start _ _ _ _ _, Nums.nil _ _, Below.refl _ _⟩
  case round =>
    obtain ⟨k, U, hk, rfl, hP, BN, hb⟩ := hrel
    by_cases hlt : k < N
    · have hlt' : (k : Int) < (N : Int) := by omega
      obtain ⟨b, o, R, K, rfl, d0, hy⟩ := HL.out wr hb k hlt
      have HR := parseRight_any _ _ (g k) s k wr hy
      have hln := szL_len s L g k
      obtain ⟨P, hP'⟩ : ∃ P : Prop, P = Seg.right s L g k := ⟨_, rfl⟩
      have hP2 : P = (Crc.parseE (g k) (L k) = 0 ∧ ((g k 1 : Nat) : Int) = s ∧ g k 2 = k) := hP'
      have HPy : Hid (P → szL s L g (k + 1) = szL s L g k ++ [Seg.rz g k]) := fun q => szL_yes (by rw [← hP']; exact q)
      have HPn : Hid (¬ P → szL s L g (k + 1) = szL s L g k) := fun q => szL_no (fun r => q (by rw [hP']; exact r))
      have HLy : Hid (P → Seg.rl s L g k = L k - 11) := fun q => Seg.rl_yes (by rw [← hP']; exact q)
      have HLn : Hid (¬ P → Seg.rl s L g k = 0) := fun q => Seg.rl_no (fun r => q (by rw [hP']; exact r))
      rw [← hP2] at HR
      clear hy hP' hP2
      go_wp2_with fail
      refine HR.mono ?_
      rintro e w1 ⟨v1, y, rfl, hO, b1⟩
      have BN := BN.below b1
      have hP := hP.below b1
      have hN1 : w.heap.size ≤ wr.heap.size := hb.size
      have b1 := bt hb b1
      rcases hO with ⟨hp, rfl, d, rfl, hM⟩ | ⟨hp, rfl, rfl⟩
      · have hpc : Pce w1 w.heap.size d (L k - 11) (Seg.rf g k) := (hM.pce (fun j => HBD.out k j)).lower hN1
        obtain ⟨g5, c5, rfl, _⟩ := hM
        have hz : g k 3 * 256 + g k 4 = Seg.rz g k := rfl
        rw [hz]
        have bV : Below w1.heap.size w1 (w1.alloc (.cells #[.int .i64 (g k 1 : Nat), .int .i64 (g k 2 : Nat), .int .i64 (Seg.rz g k : Nat), .slice (some ⟨g5, 0, none⟩) (L k - 11) c5] 75)) := (Below.refl _ _).alloc (Nat.le_refl _) _
        obtain ⟨V0, V1, V2, V3, VF⟩ := varB_new w1 (.int .i64 (g k 1 : Nat)) (.int .i64 (g k 2 : Nat)) (.int .i64 (Seg.rz g k : Nat)) (.slice (some ⟨g5, 0, none⟩) (L k - 11) c5)
        have HLT1 := hP.own.lt
        have hszA : (w1.alloc (.cells #[.int .i64 (g k 1 : Nat), .int .i64 (g k 2 : Nat), .int .i64 (Seg.rz g k : Nat), .slice (some ⟨g5, 0, none⟩) (L k - 11) c5] 75)).heap.size = w1.heap.size + 1 := by simp
        have bX := (Below.refl (w1.alloc (.cells #[.int .i64 (g k 1 : Nat), .int .i64 (g k 2 : Nat), .int .i64 (Seg.rz g k : Nat), .slice (some ⟨g5, 0, none⟩) (L k - 11) c5] 75)).heap.size (w1.alloc (.cells #[.int .i64 (g k 1 : Nat), .int .i64 (g k 2 : Nat), .int .i64 (Seg.rz g k : Nat), .slice (some ⟨g5, 0, none⟩) (L k - 11) c5] 75))).alloc (Nat.le_refl _) (.cells #[.slice (some ⟨g5, 0, none⟩) (L k - 11) c5] 25)
        have hP := (hP.below bV).below bX
        have hpc := (hpc.below bV).below bX
        have BN := (BN.below bV).below bX
        have b2 := bt (bt b1 bV) bX
        have cx : ∀ j u, [Value.slice (some ⟨g5, 0, none⟩) (L k - 11) c5][j]? = some u → ((w1.alloc (.cells #[.int .i64 (g k 1 : Nat), .int .i64 (g k 2 : Nat), .int .i64 (Seg.rz g k : Nat), .slice (some ⟨g5, 0, none⟩) (L k - 11) c5] 75)).alloc (.cells #[.slice (some ⟨g5, 0, none⟩) (L k - 11) c5] 25)).cell? ((⟨w1.heap.size + 1, 0, none⟩ : Addr).add j) = some u := by
          have q := fun j u => cell_one (w := (w1.alloc (.cells #[.int .i64 (g k 1 : Nat), .int .i64 (g k 2 : Nat), .int .i64 (Seg.rz g k : Nat), .slice (some ⟨g5, 0, none⟩) (L k - 11) c5] 75))) (v := .slice (some ⟨g5, 0, none⟩) (L k - 11) c5) (t := 25) j u
          rw [hszA] at q
          exact q
        have HPO := hP.own
        have V2' := (bX.cell (p := ⟨w1.heap.size, 2, none⟩) (by rw [hszA]; exact Nat.lt_succ_self _)).trans V2
        clear HR V0 V1 V2 VF bV bX
        go_upto_region 6 with (at_builtin; go_loud (refine wpList_append_own _ rfl (.tmp 24) (.tmp 27) 43 rfl w.heap.size 25 i0 (.slice none 0 0) 1 24 Try.underlying43 hi0 hz0 hz1 hz2 rfl (by decide) _ _ _ rfl HPO ⟨w1.heap.size + 1, 0, none⟩ 1 1 [.slice (some ⟨g5, 0, none⟩) (L k - 11) c5] rfl rfl cx (by intro u hu; simp at hu; subst hu; rfl) (by unfold maxLen; omega) (by omega) b2.size ?_; intro v4 w4 hown4 hgrow4 _))
        have b4 : Below w.heap.size w w4 := b2.grown hgrow4 b2.size (fun x hx => (HLT1 x hx).1)
        have hP4 := hP.step (by rw [HLy.out hp]; exact hpc) hown4 hgrow4
        have B4 := BN.kept (by decide) HPO hgrow4
        have V4 := hgrow4.cell V2' (fun e => Nat.lt_irrefl _ (HLT1 _ e.symm).2)
        clear hP hpc BN HPO hown4 hgrow4 V2' V3 cx
        have bY := (Below.refl w4.heap.size w4).alloc (Nat.le_refl _) (.cells #[.int .i64 (Seg.rz g k : Nat)] 3)
        have hP4 := hP4.below bY
        have b5 := bt b4 bY
        have BX : (w4.alloc (.cells #[.int .i64 (Seg.rz g k : Nat)] 3)).ownsRow w.heap.size 3 1 u5 (szL s L g k).length ((szL s L g k).map fun x : Nat => Value.int .i64 (x : Int)) := B4.below bY
        have cn : ∀ j u, [Value.int .i64 (Seg.rz g k : Nat)][j]? = some u → (w4.alloc (.cells #[.int .i64 (Seg.rz g k : Nat)] 3)).cell? ((⟨w4.heap.size, 0, none⟩ : Addr).add j) = some u := cells_new w4 #[.int .i64 (Seg.rz g k : Nat)] 3
        have HLT5 := BX.lt
        have HPZ : Hid (szL s L g (k + 1) = szL s L g k ++ [Seg.rz g k]) := HPy.out hp
        clear bY B4 hp
        generalize Seg.rz g k = zk at *
        go_wp2_with (at_builtin; go_loud (refine wpList_append_own _ rfl (.tmp 30) (.tmp 33) 47 rfl w.heap.size 3 i1 (.int .i64 0) 1 8 Try.underlying47 hi1 hy0 hy1 hy2 rfl (by decide) _ _ _ rfl BX ⟨w4.heap.size, 0, none⟩ 1 1 [.int .i64 (zk : Nat)] rfl rfl cn (by intro u hu; simp at hu; rw [hu]; rfl) (by unfold maxLen; omega) (by omega) b5.size ?_; intro v6 w6 hown6 hgrow6 _))
        have B6 := Nums.one hown6
        rw [← HPZ.out] at B6
        have b6 : Below w.heap.size w w6 := b5.grown hgrow6 b5.size (fun y hy => (HLT5 y hy).1)
        have hP6 := hP4.kept (by decide) (by decide) BX hgrow6
        exact ⟨⟨k + 1, _, by omega, by go_num, hP6, B6, b6⟩, by simp [intOf]; omega⟩
      · have hpc : Pce w1 w.heap.size (.slice none 0 0) 0 (Seg.rf g k) := Pce.nil _ _ (fun j => HBD.out k j)
        have bV : Below w1.heap.size w1 (w1.alloc (.cells #[.int .i64 0, .int .i64 0, .int .i64 0, .slice none 0 0] 75)) := (Below.refl _ _).alloc (Nat.le_refl _) _
        have HLT1 := hP.own.lt
        have hszA : (w1.alloc (.cells #[.int .i64 0, .int .i64 0, .int .i64 0, .slice none 0 0] 75)).heap.size = w1.heap.size + 1 := by simp
        have bX := (Below.refl (w1.alloc (.cells #[.int .i64 0, .int .i64 0, .int .i64 0, .slice none 0 0] 75)).heap.size (w1.alloc (.cells #[.int .i64 0, .int .i64 0, .int .i64 0, .slice none 0 0] 75))).alloc (Nat.le_refl _) (.cells #[.slice none 0 0] 25)
        have hP := (hP.below bV).below bX
        have hpc := (hpc.below bV).below bX
        have BN := (BN.below bV).below bX
        have b2 := bt (bt b1 bV) bX
        have cx : ∀ j u, [Value.slice none 0 0][j]? = some u → ((w1.alloc (.cells #[.int .i64 0, .int .i64 0, .int .i64 0, .slice none 0 0] 75)).alloc (.cells #[.slice none 0 0] 25)).cell? ((⟨w1.heap.size + 1, 0, none⟩ : Addr).add j) = some u := by
          have q := fun j u => cell_one (w := (w1.alloc (.cells #[.int .i64 0, .int .i64 0, .int .i64 0, .slice none 0 0] 75))) (v := .slice none 0 0) (t := 25) j u
          rw [hszA] at q
          exact q
        have HPO := hP.own
        have HLZ : Hid (Seg.rl s L g k = 0) := HLn.out hp
        have HPZ : Hid (szL s L g (k + 1) = szL s L g k) := HPn.out hp
        clear HR bV bX hp
        go_upto_region 6 with (at_builtin; go_loud (refine wpList_append_own _ rfl (.tmp 24) (.tmp 27) 43 rfl w.heap.size 25 i0 (.slice none 0 0) 1 24 Try.underlying43 hi0 hz0 hz1 hz2 rfl (by decide) _ _ _ rfl HPO ⟨w1.heap.size + 1, 0, none⟩ 1 1 [.slice none 0 0] rfl rfl cx (by intro u hu; simp at hu; subst hu; rfl) (by unfold maxLen; omega) (by omega) b2.size ?_; intro v4 w4 hown4 hgrow4 _))
        have b4 : Below w.heap.size w w4 := b2.grown hgrow4 b2.size (fun x hx => (HLT1 x hx).1)
        have hP4 := hP.step (by rw [HLZ.out]; exact hpc) hown4 hgrow4
        have B4 := BN.kept (by decide) HPO hgrow4
        rw [← HPZ.out] at B4
        clear hP hpc BN HPO hown4 hgrow4 cx
        go_wp2_with fail
        exact ⟨⟨k + 1, _, by omega, by go_num, hP4, B4, b4⟩, by simp [intOf]; omega⟩
    · obtain rfl : k = N := by omega
      have HLL := hP.lls HBD.out
      go_wp2_with fail
      go_ret2
      exact ⟨_, _, rfl, HLL, BN, hb⟩

theorem byts_take {w : World} {g n m cap : Nat} {f : Nat → Nat} (h : Byts w (.slice (some ⟨g, 0, none⟩) n cap) n f) (hm : m ≤ n) : Byts w (.slice (some ⟨g, 0, none⟩) m cap) m f := by
  obtain ⟨bd, A, C, hv, h1, h2, hc⟩ := h
  cases hv
  exact ⟨bd, _, _, rfl, by omega, h2, fun k hk => hc k (by omega)⟩

set_option maxHeartbeats 800000 in
set_option maxRecDepth 100000 in
theorem read_ok (A : Option Addr) (cap n s : Nat) (L : Nat → Nat) (g : Nat → Nat → Nat) (seg : Int) (w : World) (h : Lls w (.slice A (n + s) cap) (n + s) L g) (h1 : 1 ≤ n) (h2 : n ≤ 8) (h3 : s ≤ 4) :
    Calls Try.prog 26 #[.slice A (n + s) cap, .int .i64 seg, .int .i64 (n : Int)] w fun e w' => ∃ v', e = .returned (.tuple #[v', .int .i64 (readE seg n (n + s) L g : Nat)]) ∧ ReadO w' (readE seg n (n + s) L g) v' n (n + s) (Seg.rl seg L g) (Seg.rf g) (Seg.rz g (thr (Seg.rl seg L g) (n + s) 0)) ∧ Below w.heap.size w w' := by
  have hsub : (n : Int) + (s : Int) - (n : Int) = (s : Int) := by omega
  have HW := fun w' => codeWrong_any (n : Int) (s : Int) w'
  rw [wrongC_ok (by omega)] at HW
  have hns : ¬ n + s = 0 := by omega
  have HEW : Hid (wrongC (n : Int) (((n + s : Nat) : Int) - (n : Int)) = 0) := wrongC_ok (by omega)
  have HRO : Hid (∀ w', Below w.heap.size w w' → Calls Try.prog 50 #[.slice A (n + s) cap, .int .i64 seg] w' fun e w2 => ∃ v' z, e = .returned (.tuple #[v', z]) ∧ Lls w2 v' (n + s) (Seg.rl seg L g) (Seg.rf g) ∧ Nums w2 w'.heap.size z (szL seg L g (n + s)) ∧ Below w'.heap.size w' w2) := fun w' hb => rightOnes_any _ (n + s) L g seg w' (h.below hb) (by omega)
  clear h
  go_enter Try.func26, Try.ntmps26
  go_wp2_with fail
  refine (HW _).mono ?_
  rintro e w1 ⟨rfl, b1⟩
  clear HW
  go_wp2_with fail
  refine (HRO.out _ b1).mono ?_
  rintro e w2 ⟨vs, vz, rfl, LS, NZ, b2⟩
  have b2 := bt b1 b2
  obtain ⟨Az, Cz, rfl, hz⟩ := nums_cells NZ
  have hln := szL_len seg L g (n + s)
  have HSZ : Hid ((∃ r, r < (szL seg L g (n + s)).length ∧ decide ((szL seg L g (n + s)).getD r 0 ≠ (szL seg L g (n + s)).getD 0 0) = true) ↔ ¬ Seg.sizes seg L g (n + s)) := szL_sizes
  have HME : Hid (∀ x, x ∈ szL seg L g (n + s) ↔ ∃ i, i < n + s ∧ Seg.right seg L g i ∧ Seg.rz g i = x) := fun x => szL_mem
  generalize szL seg L g (n + s) = l at NZ hz hln HSZ HME
  have bV := (Below.refl w2.heap.size w2).alloc (Nat.le_refl _) (.cells #[.slice Az l.length Cz] 47)
  have HZC : Hid (∀ W, Below w2.heap.size w2 W → ∀ r, r < l.length → ∃ b o, Az = some ⟨b, o, none⟩ ∧ W.cell? ⟨b, o + r, none⟩ = some (.int .i64 ((l.getD r 0 : Nat) : Int))) := fun W hW r hr => by
    obtain ⟨b, o, e1, e2⟩ := hz r hr
    exact ⟨b, o, e1, (hW.cell (p := ⟨b, o + r, none⟩) (World.block_lt_of_cell? _ _ e2)).trans e2⟩
  have HV : Hid (∀ W, Below (w2.alloc (.cells #[.slice Az l.length Cz] 47)).heap.size (w2.alloc (.cells #[.slice Az l.length Cz] 47)) W → W.cell? ⟨w2.heap.size, 0, none⟩ = some (.slice Az l.length Cz)) := fun W hW => by
    rw [hW.cell (p := ⟨w2.heap.size, 0, none⟩) (by simp)]
    simp
  have HC := containsI_any 52 l.length Cz Az (.pointer (some ⟨w2.heap.size, 0, none⟩)) (fun r => .int .i64 ((l.getD r 0 : Nat) : Int)) (fun r => decide (l.getD r 0 ≠ l.getD 0 0)) _ Try.enters_other (HZC.out _ bV) (fun r hr W hW => by
    obtain ⟨b, o, e1, e2⟩ := HZC.out W (bt bV hW) 0 (by omega)
    have e3 := HV.out W hW
    subst e1
    exact other_any (l.getD r 0) (l.getD 0 0) l.length Cz w2.heap.size b o W (by omega) e3 (by simpa using e2)) (by omega)
  have LS := LS.below bV
  have b3 := bt b2 bV
  clear hz NZ
  go_wp2_with fail
  refine HC.mono ?_
  rintro e w4 ⟨y, rfl, hy, b4⟩
  have HY : Hid (y = true ↔ ∃ r, r < l.length ∧ decide (l.getD r 0 ≠ l.getD 0 0) = true) := hy
  have HV4 := HV.out w4 b4
  have HZ4 : Hid (∀ W, Below w4.heap.size w4 W → ∀ r, r < l.length → ∃ b o, Az = some ⟨b, o, none⟩ ∧ W.cell? ⟨b, o + r, none⟩ = some (.int .i64 ((l.getD r 0 : Nat) : Int))) := fun W hW => HZC.out W (bt (bt bV b4) hW)
  have LS := LS.below b4
  have b4 := bt b3 b4
  clear HC hy HV HZC bV
  cases y with
  | true =>
    have HE : Hid (readE seg n (n + s) L g = 8) := by
      show readE seg n (n + s) L g = 8
      unfold readE
      rw [if_neg (fun q => q HEW.out), if_pos (HSZ.out.1 (HY.out.1 rfl))]
    clear LS HV4
    go_wp2_with fail
    go_ret2
    exact ⟨_, by rw [HE.out]; rfl, Or.inr ⟨by rw [HE.out]; decide, rfl⟩, b4⟩
  | false =>
    have HS : Hid (Seg.sizes seg L g (n + s)) := Classical.byContradiction fun q => by
      have := HY.out.2 (HSZ.out.2 q)
      cases this
    have HM := mendO vs (n + s) (Seg.rl seg L g) (Seg.rf g) (n : Int) w4 LS.arg (by unfold maxLen; omega)
    by_cases hE : mendE (n : Int) (n + s) (Seg.rl seg L g) = 0
    case neg =>
      have HE : Hid (readE seg n (n + s) L g = mendE (n : Int) (n + s) (Seg.rl seg L g)) := by
        show readE seg n (n + s) L g = _
        unfold readE
        rw [if_neg (fun q => q HEW.out), if_neg (fun q => q HS.out), if_pos hE]
      have HN : Hid (mendE (n : Int) (n + s) (Seg.rl seg L g) ≠ 0) := hE
      have hx' : (((mendE (n : Int) (n + s) (Seg.rl seg L g) : Nat) : Int) == 0) = false := by rw [beq_eq_false_iff_ne]; omega
      have hxn : (((mendE (n : Int) (n + s) (Seg.rl seg L g) : Nat) : Int) != 0) = true := by rw [bne, hx']; rfl
      clear hE LS HV4
      go_wp2_with fail
      refine HM.mono ?_
      rintro e w5 ⟨vm, r, rfl, _, _, _, b5⟩
      have b5 := bt b4 b5
      clear HM
      go_wp2_with fail
      go_ret2
      exact ⟨_, by rw [HE.out]; rfl, Or.inr ⟨by rw [HE.out]; exact HN.out, rfl⟩, b5⟩
    case pos =>
      have hlen : n ≤ (there (Seg.rl seg L g) (n + s)).length := by
        refine Nat.le_of_not_lt fun q => ?_
        unfold mendE at hE
        rw [if_neg (fun q => q HEW.out), if_pos (by rw [Int.toNat_natCast]; exact q)] at hE
        cases hE
      obtain ⟨t1, t2⟩ := thr_mem (show 0 < (there (Seg.rl seg L g) (n + s)).length by omega)
      have t3 := Seg.rl_right t2
      have hl0 : 0 < l.length := by
        have := (HME.out (Seg.rz g (thr (Seg.rl seg L g) (n + s) 0))).2 ⟨_, t1, t3, rfl⟩
        exact List.length_pos_of_mem this
      have hfirst : l.getD 0 0 = Seg.rz g (thr (Seg.rl seg L g) (n + s) 0) := by
        have m0 : l.getD 0 0 ∈ l := by simp [List.getD, hl0]
        obtain ⟨i, i1, i2, i3⟩ := (HME.out _).1 m0
        rw [← i3]
        exact HS.out i i1 _ t1 i2 t3
      have HE0 : Hid (∀ b : Prop, (b ↔ n * Seg.rl seg L g (thr (Seg.rl seg L g) (n + s) 0) < Seg.rz g (thr (Seg.rl seg L g) (n + s) 0)) → (b → readE seg n (n + s) L g = 8) ∧ (¬ b → readE seg n (n + s) L g = 0)) := fun b hb => by
        have e : readE seg n (n + s) L g = if ((n : Int).toNat * Seg.rl seg L g (thr (Seg.rl seg L g) (n + s) 0) < Seg.rz g (thr (Seg.rl seg L g) (n + s) 0)) then 8 else 0 := by
          unfold readE
          rw [if_neg (fun q => q HEW.out), if_neg (fun q => q HS.out), if_neg (fun q => q hE)]
        rw [Int.toNat_natCast] at e
        constructor
        · intro q
          rw [e, if_pos (hb.1 q)]
        · intro q
          rw [e, if_neg (fun z => q (hb.2 z))]
      rw [hE] at HM
      have HF : Hid (l.getD 0 0 = Seg.rz g (thr (Seg.rl seg L g) (n + s) 0)) := hfirst
      obtain ⟨c, hc⟩ : ∃ c, c = Seg.rl seg L g (thr (Seg.rl seg L g) (n + s) 0) := ⟨_, rfl⟩
      rw [← hc] at HE0
      clear hE LS hlen t1 t2 t3 hfirst
      go_wp2_with fail
      refine HM.mono ?_
      rintro e w5 ⟨vm, r, rfl, hcap, hr, hO, b5⟩
      obtain ⟨hr1, hr2⟩ := hr trivial
      rw [Int.toNat_natCast] at hr2 hO
      have mx : Mx w5 vm (n + s) c (Gf.mm n (Gf.rowF n) (Gf.mm n r (fun p => Seg.rf g (thr (Seg.rl seg L g) (n + s) p)))) := by
        rw [hc]
        rcases hO with ⟨_, q⟩ | ⟨q, _⟩
        · exact q
        · rcases q with q | q
          · exact absurd rfl q
          · exact absurd q hns
      have bdF := mx.bd
      obtain ⟨d1, d2, d3, d4⟩ := mx.dim
      obtain ⟨b, o, p, G, O, K, rfl, hm⟩ := mx.lies
      have hcp : n + s ≤ p := by
        obtain ⟨A', n', p', e1, e2⟩ := hcap
        cases e1
        exact e2
      have HCT := concat_any b o n p c G O K _ w5 ⟨fun r hr => hm.top r (by omega), fun r hr => hm.row r (by omega)⟩ bdF h1 (by omega) d3 d4
      have q1 : n ≤ p := by omega
      have q2 : (n : Int) ≤ (p : Int) := by omega
      have HV5 := (b5.cell (p := ⟨w2.heap.size, 0, none⟩) (World.block_lt_of_cell? _ _ HV4)).trans HV4
      have HZ5 : Hid (∀ W, Below w5.heap.size w5 W → ∀ r, r < l.length → ∃ b o, Az = some ⟨b, o, none⟩ ∧ W.cell? ⟨b, o + r, none⟩ = some (.int .i64 ((l.getD r 0 : Nat) : Int))) := fun W hW => HZ4.out W (bt b5 hW)
      have HRR : Hid (Gf.Bd2 r ∧ Gf.Und n (fun p => Gf.rowF n (thr (Seg.rl seg L g) (n + s) p)) r) := ⟨hr1, hr2⟩
      have b5 := bt b4 b5
      have HNC : Hid (n * c ≤ 8 * 400) := Nat.mul_le_mul h2 d4
      have HCC : Hid (c = Seg.rl seg L g (thr (Seg.rl seg L g) (n + s) 0)) := hc
      clear HM HV4 hcap hm mx hr1 hr2 hc hO HZ4
      go_wp2_with fail
      refine HCT.mono ?_
      rintro e w6 ⟨v6, rfl, M6, b6⟩
      have HV6 := (b6.cell (p := ⟨w2.heap.size, 0, none⟩) (World.block_lt_of_cell? _ _ HV5)).trans HV5
      obtain ⟨bz, oz, rfl, cz⟩ := HZ5.out w6 b6 0 hl0
      rw [Nat.add_zero] at cz
      have b6 := bt b5 b6
      have YF := M6.byts (fun j => bdF _ _)
      obtain ⟨g6, c6, rfl, hg6, hc6, hm6, R6⟩ := M6
      have HNC := HNC.out
      have HE9 := HE0.out (n * c < l.getD 0 0) (by rw [HF.out])
      rw [HF.out] at cz HE9
      have HF9 : Hid (l.getD 0 0 = Seg.rz g (thr (Seg.rl seg L g) (n + s) 0)) := HF.out
      have HGO : Hid (∀ z, z = Seg.rz g (thr (Seg.rl seg L g) (n + s) 0) → z ≤ n * c → readE seg n (n + s) L g = 0 → ReadO w6 (readE seg n (n + s) L g) (.slice (some ⟨g6, 0, none⟩) z c6) n (n + s) (Seg.rl seg L g) (Seg.rf g) (Seg.rz g (thr (Seg.rl seg L g) (n + s) 0))) := fun z hz hzc he => by
        refine Or.inl ⟨he, r, HRR.out.1, HRR.out.2, ?_⟩
        rw [← hz, ← HCC.out]
        exact byts_take YF hzc
      have hm6' : c6 ≤ 9223372036854775807 := hm6
      have hl0' : (0 : Int) < (l.length : Int) := by omega
      clear HCT HV5 R6 YF HZ5
      generalize hzz : Seg.rz g (thr (Seg.rl seg L g) (n + s) 0) = z at *
      generalize n * c = m at *
      by_cases hlt : m < z
      · have hlt' : (m : Int) < (z : Int) := by omega
        have HE8 : Hid (readE seg n (n + s) L g = 8) := HE9.1 hlt
        clear HE9
        go_wp2_with fail
        go_ret2
        exact ⟨_, by rw [HE8.out]; rfl, Or.inr ⟨by rw [HE8.out]; decide, rfl⟩, b6⟩
      · have hlt' : ¬ (m : Int) < (z : Int) := by omega
        have HE8 : Hid (readE seg n (n + s) L g = 0) := HE9.2 hlt
        have HGX := HGO.out z rfl (by omega) HE8.out
        have HGH : Hid (ReadO w6 (readE seg n (n + s) L g) (.slice (some ⟨g6, 0, none⟩) z c6) n (n + s) (Seg.rl seg L g) (Seg.rf g) z) := HGX
        have hzc : z ≤ c6 := by omega
        have hzc' : (z : Int) ≤ (c6 : Int) := by omega
        clear HE9 HGX HGO
        go_wp2_with fail
        go_ret2
        exact ⟨_, by rw [HE8.out]; rfl, by rw [hzz]; exact HGH.out, b6⟩

set_option maxHeartbeats 400000 in
set_option maxRecDepth 100000 in
theorem read_bad (A : Option Addr) (N cap : Nat) (seg d : Int) (w : World) (hN : N ≤ maxLen) (h : wrongC d ((N : Int) - d) ≠ 0) :
    Calls Try.prog 26 #[.slice A N cap, .int .i64 seg, .int .i64 d] w fun e w' => e = .returned (.tuple #[.slice none 0 0, .int .i64 5]) ∧ Below w.heap.size w w' := by
  unfold maxLen at hN
  have H : Hid (∀ w, Calls Try.prog 41 #[.int .i64 d, .int .i64 (wrap64 ((N : Int) - d))] w fun e w' => e = .returned (.int .i64 5) ∧ Below w.heap.size w w') := fun w => by
    have := codeWrong_any d (wrap64 ((N : Int) - d)) w
    rw [wrongC_bad (by
      unfold wrongC at h
      split at h
      · rename_i hb
        unfold wrap64
        omega
      · exact absurd rfl h)] at this
    exact this
  clear h hN
  go_enter Try.func26, Try.ntmps26
  go_wp2_with fail
  refine (H.out _).mono ?_
  rintro e w1 ⟨rfl, b1⟩
  go_wp2_with fail
  go_ret2
  exact ⟨rfl, b1⟩

/-- What Read tells of whatever blocks. -/
theorem read_any (v : Value) (N : Nat) (L : Nat → Nat) (g : Nat → Nat → Nat) (seg d : Int) (w : World) (h : Lls w v N L g) :
    Calls Try.prog 26 #[v, .int .i64 seg, .int .i64 d] w fun e w' => ∃ v', e = .returned (.tuple #[v', .int .i64 (readE seg d N L g : Nat)]) ∧ ReadO w' (readE seg d N L g) v' d.toNat N (Seg.rl seg L g) (Seg.rf g) (Seg.rz g (thr (Seg.rl seg L g) N 0)) ∧ Below w.heap.size w w' := by
  have hN := h.len
  obtain ⟨A, C, rfl⟩ := h.shape
  by_cases hw : wrongC d ((N : Int) - d) = 0
  · have hb : ¬ (d < 1 ∨ 8 < d ∨ (N : Int) - d < 0 ∨ 4 < (N : Int) - d) := fun q => by rw [wrongC_bad q] at hw; cases hw
    obtain ⟨n, rfl⟩ := Int.eq_ofNat_of_zero_le (show 0 ≤ d by omega)
    obtain ⟨s, rfl⟩ : ∃ s, N = n + s := ⟨N - n, by omega⟩
    exact read_ok A C n s L g seg w h (by omega) (by omega) (by omega)
  · have hE : readE seg d N L g = 5 := if_pos hw
    refine (read_bad A N C seg d w (by unfold maxLen; omega) hw).mono ?_
    rintro e w' ⟨rfl, hb⟩
    exact ⟨_, by rw [hE]; rfl, Or.inr ⟨by rw [hE]; decide, rfl⟩, hb⟩

end Go.Proofs.Ytmlboaejkmffjad

namespace Go.Proofs.Ytmlboaejkmffjad
open Go.RowKit

set_option maxHeartbeats 400000 in
set_option maxRecDepth 100000 in
theorem smend_any (v : Value) (N : Nat) (L : Nat → Nat) (g : Nat → Nat → Nat) (seg d : Int) (w : World) (h : Lls w v N L g) :
    Calls Try.prog 28 #[v, .int .i64 seg, .int .i64 d] w fun e w' => SMendP seg d N L g e w' ∧ Below w.heap.size w w' := by
  have HR := read_any v N L g seg d w h
  have hN := h.len
  obtain ⟨A, C, rfl⟩ := h.shape
  by_cases hE : readE seg d N L g = 0
  case neg =>
    have HE : Hid (readE seg d N L g ≠ 0) := hE
    have HP : Hid (∀ w', SMendP seg d N L g (.returned (.tuple #[.slice none 0 0, .int .i64 (readE seg d N L g : Nat)])) w') := fun w' => Or.inl ⟨hE, rfl⟩
    have hx' : (((readE seg d N L g : Nat) : Int) == 0) = false := by rw [beq_eq_false_iff_ne]; omega
    have hxn : (((readE seg d N L g : Nat) : Int) != 0) = true := by rw [bne, hx']; rfl
    clear hE h
    go_enter Try.func28, Try.ntmps28
    go_wp2_with fail
    refine HR.mono ?_
    rintro e w1 ⟨v1, rfl, _, b1⟩
    clear HR
    go_wp2_with fail
    go_ret2
    exact ⟨HP.out _, b1⟩
  case pos =>
    have hw : wrongC d ((N : Int) - d) = 0 := by
      refine Classical.byContradiction fun q => ?_
      rw [show readE seg d N L g = 5 from if_pos q] at hE
      cases hE
    have hb : ¬ (d < 1 ∨ 8 < d ∨ (N : Int) - d < 0 ∨ 4 < (N : Int) - d) := fun q => by rw [wrongC_bad q] at hw; cases hw
    have p1 : 1 ≤ d := by omega
    have p2 : d ≤ 8 := by omega
    have p3 : (0 : Int) ≤ (N : Int) - d := by omega
    have p4 : (N : Int) - d ≤ 4 := by omega
    have HE : Hid (readE seg d N L g = 0) := hE
    rw [hE] at HR
    clear hE hw hb h
    go_enter Try.func28, Try.ntmps28
    go_wp2_with fail
    refine HR.mono ?_
    rintro e w1 ⟨v1, rfl, hO, b1⟩
    obtain ⟨r, hr1, hr2, hy⟩ : ∃ r, Gf.Bd2 r ∧ Gf.Und d.toNat (fun p => Gf.rowF d.toNat (thr (Seg.rl seg L g) N p)) r ∧ Byts w1 v1 (Seg.rz g (thr (Seg.rl seg L g) N 0)) (readF d.toNat N (Seg.rl seg L g) (Seg.rf g) r) := by
      rcases hO with ⟨_, q⟩ | ⟨q, _⟩
      · exact q
      · exact absurd rfl q
    have HL := lay_any v1 _ _ seg d ((N : Int) - d) w1 hy
    have HP : Hid (∀ e w', (∃ v', e = .returned (.tuple #[v', .int .i64 (Seg.layE (Seg.rz g (thr (Seg.rl seg L g) N 0)) seg d ((N : Int) - d) : Nat)]) ∧ LayO w' (Seg.layE (Seg.rz g (thr (Seg.rl seg L g) N 0)) seg d ((N : Int) - d)) v' (d.toNat + ((N : Int) - d).toNat) (Seg.layN (Seg.rz g (thr (Seg.rl seg L g) N 0)) d.toNat + 11) (Seg.blk (readF d.toNat N (Seg.rl seg L g) (Seg.rf g) r) (Seg.rz g (thr (Seg.rl seg L g) N 0)) seg.toNat d.toNat)) → SMendP seg d N L g e w') := fun e w' ⟨v', q1, q2⟩ => Or.inr ⟨HE.out, v', r, hr1, hr2, q1, q2⟩
    obtain ⟨A1, C1, rfl⟩ := hy.shape
    clear HR hO hy
    go_wp2_with fail
    refine HL.mono ?_
    rintro e w2 ⟨v2, rfl, O2, b2⟩
    have HP := HP.out _ w2 ⟨v2, rfl, O2⟩
    have HPH : Hid (SMendP seg d N L g (.returned (.tuple #[v2, .int .i64 (Seg.layE (Seg.rz g (thr (Seg.rl seg L g) N 0)) seg d ((N : Int) - d) : Nat)])) w2) := HP
    have b2 := bt b1 b2
    clear HL O2 HP
    go_wp2_with fail
    go_ret2
    exact ⟨HPH.out, b2⟩

end Go.Proofs.Ytmlboaejkmffjad
