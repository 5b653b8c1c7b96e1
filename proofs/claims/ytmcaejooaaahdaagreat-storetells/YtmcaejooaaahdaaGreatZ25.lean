/-
  Texts of the proof, joined: TBad.
-/
import Derived.Test.YtmcaejooaaahdaaGreatZ24
namespace Go.Proofs.YtmcaejooaaahdaaGreat
open Go.RowKit

/-- What parseRight tells. -/
def RightO (w : World) (N : Nat) (v : Value) (y : Bool) (P : Prop) (n : Nat) (g : Nat → Nat) : Prop :=
  (P ∧ y = true ∧ ∃ d, v = .agg #[.int .i64 (g 1 : Nat), .int .i64 (g 2 : Nat), .int .i64 (g 3 * 256 + g 4 : Nat), d] ∧ Made w N d (n - 11) (fun k => g (k + 7))) ∨
  (¬ P ∧ y = false ∧ v = .agg #[.int .i64 0, .int .i64 0, .int .i64 0, .slice none 0 0])

set_option maxHeartbeats 400000 in
set_option maxRecDepth 100000 in
theorem parseRight_any (v : Value) (n : Nat) (g : Nat → Nat) (s : Int) (i : Nat) (w : World) (h : Byts w v n g) :
    Calls Tryz.prog 90 #[v, .int .i64 s, .int .i64 (i : Int)] w fun e w' => ∃ v' y, e = .returned (.tuple #[v', .bool y]) ∧ RightO w' w.heap.size v' y (Crc.parseE g n = 0 ∧ ((g 1 : Nat) : Int) = s ∧ g 2 = i) n g ∧ Below w.heap.size w w' := by
  obtain ⟨A0, C0, rfl⟩ := h.shape
  have bA : Below w.heap.size w (w.alloc (.cells #[.int .i64 0, .int .i64 0, .int .i64 0, .slice none 0 0] 137)) := (Below.refl _ _).alloc (Nat.le_refl _) _
  have V0 := varB_new w (.int .i64 0) (.int .i64 0) (.int .i64 0) (.slice none 0 0)
  by_cases hE : Crc.parseE g n = 0
  · have H1 := parse_made _ n g _ (h.below bA) hE
    clear h
    have HE : Hid (Crc.parseE g n = 0) := hE
    generalize hz : g 3 * 256 + g 4 = z at H1
    have HZ : Hid (g 3 * 256 + g 4 = z) := hz
    clear hz
    by_cases h1 : ((g 1 : Nat) : Int) = s
    · by_cases h2 : g 2 = i
      · have t1 : (((g 1 : Nat) : Int) == s) = true := by rw [beq_iff_eq]; exact h1
        have t2 : (((g 2 : Nat) : Int) == (i : Int)) = true := by rw [beq_iff_eq]; omega
        have n1 : (((g 1 : Nat) : Int) != s) = false := by rw [bne, t1]; rfl
        have n2 : (((g 2 : Nat) : Int) != (i : Int)) = false := by rw [bne, t2]; rfl
        have HY : Hid (Crc.parseE g n = 0 ∧ ((g 1 : Nat) : Int) = s ∧ g 2 = i) := ⟨hE, h1, h2⟩
        clear hE h1 h2
        go_enter Tryz.func90, Tryz.ntmps90
        go_wp2_with fail
        refine H1.mono ?_
        rintro e w1 ⟨d, rfl, hd, b1⟩
        obtain ⟨g5, c5, rfl, hg5, hc5, hm5, R5⟩ := hd
        have V1 := V0.below b1
        have bz := bt bA b1
        have bX : Below w1.heap.size w1 (w1.alloc (.cells #[.int .i64 (g 1 : Nat), .int .i64 (g 2 : Nat), .int .i64 (z : Nat), .slice (some ⟨g5, 0, none⟩) (n - 11) c5] 137)) := (Below.refl _ _).alloc (Nat.le_refl _) _
        obtain ⟨c0, c1, c2, c3, fr⟩ := V1.below bX
        have f0 := fr 0
        have f1 := fr 1
        have f2 := fr 2
        have f3 := fr 3
        have R6 := R5.below bX
        have bz := bt bz bX
        have hgw : w.heap.size < g5 := Nat.lt_of_lt_of_le (by simp) hg5
        clear H1 V0 V1 R5 bX b1
        go_wp2_with fail
        refine bodyPost_ret (v := .tuple #[.agg #[.int .i64 (g 1 : Nat), .int .i64 (g 2 : Nat), .int .i64 (z : Nat), .slice (some ⟨g5, 0, none⟩) (n - 11) c5], .bool true]) (by simp [results, Tryz.results90, go_sem, c0, c1, c2, c3]) rfl ⟨_, _, rfl, Or.inl ⟨HY.out, rfl, _, by rw [HZ.out], ⟨g5, c5, rfl, by omega, hc5, hm5, row4 R6 (by omega)⟩⟩, ?_⟩
        exact (((bz.setCell (Nat.le_refl _) _).setCell (Nat.le_refl _) _).setCell (Nat.le_refl _) _).setCell (Nat.le_refl _) _
      · have t1 : (((g 1 : Nat) : Int) == s) = true := by rw [beq_iff_eq]; exact h1
        have t2 : (((g 2 : Nat) : Int) == (i : Int)) = false := by rw [beq_eq_false_iff_ne]; omega
        have n1 : (((g 1 : Nat) : Int) != s) = false := by rw [bne, t1]; rfl
        have n2 : (((g 2 : Nat) : Int) != (i : Int)) = true := by rw [bne, t2]; rfl
        have HN : Hid (¬ (Crc.parseE g n = 0 ∧ ((g 1 : Nat) : Int) = s ∧ g 2 = i)) := fun q => h2 q.2.2
        clear hE h1 h2
        go_enter Tryz.func90, Tryz.ntmps90
        go_wp2_with fail
        refine H1.mono ?_
        rintro e w1 ⟨d, rfl, hd, b1⟩
        obtain ⟨g5, c5, rfl, _, _, _, _⟩ := hd
        have V1 := V0.below b1
        have bz := bt bA b1
        have bX : Below w1.heap.size w1 (w1.alloc (.cells #[.int .i64 (g 1 : Nat), .int .i64 (g 2 : Nat), .int .i64 (z : Nat), .slice (some ⟨g5, 0, none⟩) (n - 11) c5] 137)) := (Below.refl _ _).alloc (Nat.le_refl _) _
        obtain ⟨c0, c1, c2, c3, fr⟩ := V1.below bX
        have f0 := fr 0
        have f1 := fr 1
        have f2 := fr 2
        have f3 := fr 3
        have bz := bt bz bX
        clear H1 V0 V1 bX b1
        go_wp2_with fail
        refine bodyPost_ret (v := .tuple #[.agg #[.int .i64 0, .int .i64 0, .int .i64 0, .slice none 0 0], .bool false]) (by simp [results, Tryz.results90, go_sem, c0, c1, c2, c3]) rfl ⟨_, _, rfl, Or.inr ⟨HN.out, rfl, rfl⟩, ?_⟩
        exact (((bz.setCell (Nat.le_refl _) _).setCell (Nat.le_refl _) _).setCell (Nat.le_refl _) _).setCell (Nat.le_refl _) _
    · have t1 : (((g 1 : Nat) : Int) == s) = false := by rw [beq_eq_false_iff_ne]; exact h1
      have n1 : (((g 1 : Nat) : Int) != s) = true := by rw [bne, t1]; rfl
      have HN : Hid (¬ (Crc.parseE g n = 0 ∧ ((g 1 : Nat) : Int) = s ∧ g 2 = i)) := fun q => h1 q.2.1
      clear hE h1
      go_enter Tryz.func90, Tryz.ntmps90
      go_wp2_with fail
      refine H1.mono ?_
      rintro e w1 ⟨d, rfl, hd, b1⟩
      obtain ⟨g5, c5, rfl, _, _, _, _⟩ := hd
      have V1 := V0.below b1
      have bz := bt bA b1
      have bX : Below w1.heap.size w1 (w1.alloc (.cells #[.int .i64 (g 1 : Nat), .int .i64 (g 2 : Nat), .int .i64 (z : Nat), .slice (some ⟨g5, 0, none⟩) (n - 11) c5] 137)) := (Below.refl _ _).alloc (Nat.le_refl _) _
      obtain ⟨c0, c1, c2, c3, fr⟩ := V1.below bX
      have f0 := fr 0
      have f1 := fr 1
      have f2 := fr 2
      have f3 := fr 3
      have bz := bt bz bX
      clear H1 V0 V1 bX b1
      go_wp2_with fail
      refine bodyPost_ret (v := .tuple #[.agg #[.int .i64 0, .int .i64 0, .int .i64 0, .slice none 0 0], .bool false]) (by simp [results, Tryz.results90, go_sem, c0, c1, c2, c3]) rfl ⟨_, _, rfl, Or.inr ⟨HN.out, rfl, rfl⟩, ?_⟩
      exact (((bz.setCell (Nat.le_refl _) _).setCell (Nat.le_refl _) _).setCell (Nat.le_refl _) _).setCell (Nat.le_refl _) _
  · have HN : Hid (¬ (Crc.parseE g n = 0 ∧ ((g 1 : Nat) : Int) = s ∧ g 2 = i)) := fun q => hE q.1
    have H1 := parse_any _ n g _ (h.below bA)
    rw [pk_no hE, pk_no hE, pk_no hE, pk_no hE] at H1
    have hx' : (((Crc.parseE g n : Nat) : Int) == 0) = false := by rw [beq_eq_false_iff_ne]; omega
    have hxn : (((Crc.parseE g n : Nat) : Int) != 0) = true := by rw [bne, hx']; rfl
    obtain ⟨P, hP⟩ : ∃ P : Prop, P = (Crc.parseE g n = 0 ∧ ((g 1 : Nat) : Int) = s ∧ g 2 = i) := ⟨_, rfl⟩
    rw [← hP] at HN ⊢
    clear hP h
    generalize Crc.parseE g n = E at H1 hx' hxn
    clear hE
    go_enter Tryz.func90, Tryz.ntmps90
    go_wp2_with fail
    refine H1.mono ?_
    rintro e w1 ⟨v1, rfl, ⟨d, rfl, hd⟩, b1⟩
    obtain ⟨A, C, rfl⟩ := hd.shape
    have V1 := V0.below b1
    have bz := bt bA b1
    have bX : Below w1.heap.size w1 (w1.alloc (.cells #[.int .i64 0, .int .i64 0, .int .i64 0, .slice A 0 C] 137)) := (Below.refl _ _).alloc (Nat.le_refl _) _
    obtain ⟨c0, c1, c2, c3, fr⟩ := V1.below bX
    have f0 := fr 0
    have f1 := fr 1
    have f2 := fr 2
    have f3 := fr 3
    have bz := bt bz bX
    clear hd
    clear H1 V0 V1 bX b1
    go_wp2_with fail
    refine bodyPost_ret (v := .tuple #[.agg #[.int .i64 0, .int .i64 0, .int .i64 0, .slice none 0 0], .bool false]) (by simp [results, Tryz.results90, go_sem, c0, c1, c2, c3]) rfl ⟨_, _, rfl, Or.inr ⟨HN.out, rfl, rfl⟩, ?_⟩
    exact (((bz.setCell (Nat.le_refl _) _).setCell (Nat.le_refl _) _).setCell (Nat.le_refl _) _).setCell (Nat.le_refl _) _

set_option maxHeartbeats 400000 in
set_option maxRecDepth 100000 in
theorem bad_any (v : Value) (N : Nat) (L : Nat → Nat) (g : Nat → Nat → Nat) (s : Int) (w : World) (h : Lls w v N L g) (hN : (N + 1) * 8 ≤ 140737488355328) :
    Calls Tryz.prog 53 #[v, .int .i64 s] w fun e w' => ∃ v', e = .returned v' ∧ Nums w' w.heap.size v' (Seg.badL s L g N) ∧ Below w.heap.size w w' := by
  obtain ⟨i1, hi1, hh1⟩ := Option.map_eq_some_iff.1 Tryz.infoInt
  simp only [Prod.mk.injEq] at hh1
  obtain ⟨hy0, hy1, hy2⟩ := hh1
  obtain ⟨A, C, rfl⟩ := h.shape
  have HL : Hid (∀ w', Below w.heap.size w w' → ∀ r, r < N → ∃ b o R K, A = some ⟨b, o, none⟩ ∧ w'.cell? ⟨b, o + r, none⟩ = some (.slice R (L r) K) ∧ Byts w' (.slice R (L r) K) (L r) (g r)) := fun w' hb r hr => (h.below hb).at hr
  clear h
  go_enter Tryz.func53, Tryz.ntmps53
  go_wp2_with fail
  go_loopw [5, 12] (fun y x wr => ∃ k : Nat, k ≤ N ∧ x = .int .i64 k ∧ Nums wr w.heap.size y (Seg.badL s L g k) ∧ Below w.heap.size w wr) (fun _ x _ => N - (intOf x).toNat)
  case atStart => exact ⟨0, Nat.zero_le _, rfl, Nums.nil _ _, Below.refl _ _⟩
  case round =>
    obtain ⟨k, hk, rfl, BN, hb⟩ := hrel
    by_cases hlt : k < N
    · have hlt' : (k : Int) < (N : Int) := by omega
      obtain ⟨b, o, R, K, rfl, d0, hy⟩ := HL.out wr hb k hlt
      have HR := parseRight_any _ _ (g k) s k wr hy
      have hln := badL_len s L g k
      obtain ⟨P, hP⟩ : ∃ P : Prop, P = (Crc.parseE (g k) (L k) = 0 ∧ ((g k 1 : Nat) : Int) = s ∧ g k 2 = k) := ⟨_, rfl⟩
      have HPy : Hid (P → Seg.badL s L g (k + 1) = Seg.badL s L g k) := fun q => Seg.badL_no (by rw [hP] at q; exact q)
      have HPn : Hid (¬ P → Seg.badL s L g (k + 1) = Seg.badL s L g k ++ [k]) := fun q => Seg.badL_yes (fun r => q (by rw [hP]; exact r))
      rw [← hP] at HR
      clear hy hP
      go_wp2_with fail
      refine HR.mono ?_
      rintro e w1 ⟨v1, y, rfl, hO, b1⟩
      have BN := BN.below b1
      have b1 := bt hb b1
      rcases hO with ⟨hp, rfl, d, rfl, g5, c5, rfl, _⟩ | ⟨hp, rfl, rfl⟩
      · have bX : Below w1.heap.size w1 (w1.alloc (.cells #[.int .i64 (g k 1 : Nat), .int .i64 (g k 2 : Nat), .int .i64 (g k 3 * 256 + g k 4 : Nat), .slice (some ⟨g5, 0, none⟩) (L k - 11) c5] 137)) := (Below.refl _ _).alloc (Nat.le_refl _) _
        have BN := BN.below bX
        have b1 := bt b1 bX
        rw [← HPy.out hp] at BN
        clear HR hp bX
        go_wp2_with fail
        exact ⟨⟨k + 1, by omega, by go_num, BN, b1⟩, by simp [intOf]; omega⟩
      · have HPP : Hid (¬ P) := hp
        have bV : Below w1.heap.size w1 (w1.alloc (.cells #[.int .i64 0, .int .i64 0, .int .i64 0, .slice none 0 0] 137)) := (Below.refl _ _).alloc (Nat.le_refl _) _
        have BN := BN.below bV
        have b1 := bt b1 bV
        have hsz : (w1.alloc (.cells #[.int .i64 0, .int .i64 0, .int .i64 0, .slice none 0 0] 137)).heap.size = w1.heap.size + 1 := by simp
        have bX := (Below.refl (w1.alloc (.cells #[.int .i64 0, .int .i64 0, .int .i64 0, .slice none 0 0] 137)).heap.size (w1.alloc (.cells #[.int .i64 0, .int .i64 0, .int .i64 0, .slice none 0 0] 137))).alloc (Nat.le_refl _) (.cells #[.int .i64 (k : Int)] 3)
        have BX : ((w1.alloc (.cells #[.int .i64 0, .int .i64 0, .int .i64 0, .slice none 0 0] 137)).alloc (.cells #[.int .i64 (k : Int)] 3)).ownsRow w.heap.size 3 1 u5 (Seg.badL s L g k).length ((Seg.badL s L g k).map fun x : Nat => Value.int .i64 (x : Int)) := BN.below bX
        have b2 := bt b1 bX
        have cn : ∀ j u, [Value.int .i64 (k : Int)][j]? = some u → ((w1.alloc (.cells #[.int .i64 0, .int .i64 0, .int .i64 0, .slice none 0 0] 137)).alloc (.cells #[.int .i64 (k : Int)] 3)).cell? ((⟨w1.heap.size + 1, 0, none⟩ : Addr).add j) = some u := by
          have q := cells_new (w1.alloc (.cells #[.int .i64 0, .int .i64 0, .int .i64 0, .slice none 0 0] 137)) #[.int .i64 (k : Int)] 3
          rw [hsz] at q
          exact q
        have HLT := BX.lt
        clear HR hp bV BN bX hsz
        go_wp2_with (at_builtin; go_loud (refine wpList_append_own _ rfl (.tmp 26) (.tmp 28) 27 rfl w.heap.size 3 i1 (.int .i64 0) 1 8 Tryz.underlying27 hi1 hy0 hy1 hy2 rfl (by decide) _ _ _ rfl BX ⟨w1.heap.size + 1, 0, none⟩ 1 1 [.int .i64 (k : Int)] rfl rfl cn (by intro u hu; simp at hu; rw [hu]; rfl) (by unfold maxLen; omega) (by omega) b2.size ?_; intro v3 w3 hown3 hgrow3 _))
        have B3 := Nums.one hown3
        rw [← HPn.out HPP.out] at B3
        have b3 : Below w.heap.size w w3 := b2.grown hgrow3 b2.size (fun y hy => (HLT y hy).1)
        exact ⟨⟨k + 1, by omega, by go_num, B3, b3⟩, by simp [intOf]; omega⟩
    · obtain rfl : k = N := by omega
      go_wp2_with fail
      go_ret
      exact ⟨_, rfl, BN, hb⟩

end Go.Proofs.YtmcaejooaaahdaaGreat
