/-
  What bytes.Equal, slices.EqualFunc and code.Good do, call by call.
-/
import Derived.Test.YtbidimaljeblgabCMend
import Derived.Lib.Bytes
namespace Go.Proofs.Ytbidimaljeblgab
open Go.RowKit

/-- A bool is told that says whether P. -/
def Tell (e : Ending) (P : Prop) : Prop := ∃ y : Bool, e = .returned (.bool y) ∧ (y = true ↔ P)
theorem tell_of {y : Bool} {P : Prop} (h : y = true ↔ P) : Tell (.returned (.bool y)) P := ⟨y, rfl, h⟩
theorem tell_yes {P : Prop} (h : P) : Tell (.returned (.bool true)) P := ⟨true, rfl, ⟨fun _ => h, fun _ => rfl⟩⟩
theorem tell_no {P : Prop} (h : ¬ P) : Tell (.returned (.bool false)) P := ⟨false, rfl, ⟨fun h => absurd h (by decide), fun h' => absurd h' h⟩⟩

theorem str_list (c : Nat) (f : Nat → Nat) : (strOfNums ((List.range c).map fun k => (f k : Int))).toList = (List.range c).map fun k => UInt8.ofNat (f k) := by
  rw [Lib.strOfNums_toList]
  unfold Lib.bytesOf
  rw [List.map_map]
  rfl
theorem str_iff {c : Nat} {f g : Nat → Nat} (hf : Gf.Bd f) (hg : Gf.Bd g) : (strOfNums ((List.range c).map fun k => (f k : Int))).toList = (strOfNums ((List.range c).map fun k => (g k : Int))).toList ↔ ∀ k, k < c → f k = g k := by
  rw [str_list, str_list]
  constructor
  · intro h k hk
    have h1 := congrArg (fun s => s[k]?) h
    simp only [List.getElem?_map, List.getElem?_range hk, Option.map_some, Option.some.injEq] at h1
    have h2 := congrArg UInt8.toNat h1
    have h3 := hf k
    have h4 := hg k
    simp only [UInt8.toNat_ofNat'] at h2
    omega
  · intro h
    exact List.map_congr_left (fun k hk => by rw [h k (List.mem_range.1 hk)])

set_option maxHeartbeats 400000 in
theorem bytesEq_any (b o K b' o' K' c : Nat) (f g : Nat → Nat) (w : World) (hf : Gf.Bd f) (hg : Gf.Bd g) (h1 : ∀ k, k < c → w.cell? ⟨b, o + k, none⟩ = some (.int .u8 (f k : Nat))) (h2 : ∀ k, k < c → w.cell? ⟨b', o' + k, none⟩ = some (.int .u8 (g k : Nat))) :
    Calls Try.prog 37 #[.slice (some ⟨b, o, none⟩) c K, .slice (some ⟨b', o', none⟩) c K'] w fun e w' => Tell e (∀ k, k < c → f k = g k) ∧ Below w.heap.size w w' := by
  have q1 := run_convert_bytes_arg (P := Try.prog) w 34 5 Try.underlying34 Try.underlying5 b o c K ((List.range c).map fun j => (f j : Int)) (by simp) (fun i hi => by rw [bytes_getD _ _ _ hi]; exact h1 i hi) 9 Try.underlying9
  have q2 := run_convert_bytes_arg (P := Try.prog) w 34 5 Try.underlying34 Try.underlying5 b' o' c K' ((List.range c).map fun j => (g j : Int)) (by simp) (fun i hi => by rw [bytes_getD _ _ _ hi]; exact h2 i hi) 9 Try.underlying9
  have HX := str_iff (c := c) hf hg
  generalize strOfNums ((List.range c).map fun j => (f j : Int)) = S at q1 HX
  generalize strOfNums ((List.range c).map fun j => (g j : Int)) = T at q2 HX
  clear h1 h2
  by_cases hst : S.toList = T.toList
  · have HY : Hid (∀ k, k < c → f k = g k) := HX.1 hst
    have hst' : (S.toList == T.toList) = true := by rw [beq_iff_eq]; exact hst
    clear HX hst
    go_enter Try.func37, Try.ntmps37
    go_wp2_with fail
    go_ret
    exact ⟨tell_yes HY.out, Below.refl _ _⟩
  · have HY : Hid (¬ ∀ k, k < c → f k = g k) := fun h => hst (HX.2 h)
    have hst' : (S.toList == T.toList) = false := by rw [beq_eq_false_iff_ne]; exact hst
    clear HX hst
    go_enter Try.func37, Try.ntmps37
    go_wp2_with fail
    go_ret
    exact ⟨tell_no HY.out, Below.refl _ _⟩

theorem Try.enters_bytesEq : ∀ args w, (callFunc 37 args).run Try.prog w = .ok (.enter 37 args) w := enters_of Try.func37 (by kernel_rfl) rfl

set_option maxHeartbeats 1000000 in
theorem equalF_any (vx vy : Value) (s c : Nat) (f g : Nat → Nat → Nat) (w : World) (hx : Mx w vx s c f) (hy : Mx w vy s c g) :
    Calls Try.prog 36 #[vx, vy, .func (.func 37) #[] #[]] w fun e w' => Tell e (∀ i, i < s → ∀ k, k < c → f i k = g i k) ∧ Below w.heap.size w w' := by
  obtain ⟨d1, d2, d3, d4⟩ := hx.dim
  have bf := hx.bd
  have bg := hy.bd
  obtain ⟨b, o, p, G, O, K, rfl, hm⟩ := hx.lies
  obtain ⟨b', o', p', G', O', K', rfl, hm'⟩ := hy.lies
  have eg := Try.enters_bytesEq
  clear hx hy
  go_enter Try.func36, Try.ntmps36
  go_wp2_with fail
  go_loopw [17] (fun x wr => ∃ k : Nat, k ≤ s ∧ x = .int .i64 k ∧ Hid (∀ i, i < k → ∀ j, j < c → f i j = g i j) ∧ Below w.heap.size w wr) (fun x _ => s - (intOf x).toNat)
  case atStart => exact ⟨0, Nat.zero_le _, rfl, fun i hi => absurd hi (Nat.not_lt_zero i), Below.refl _ _⟩
  case round =>
    obtain ⟨k, hk, rfl, HS, hb⟩ := hrel
    by_cases hlt : k < s
    · have hlt' : (k : Int) < (s : Int) := by omega
      have hmr := hm.below hb
      have hmr' := hm'.below hb
      have t1 := hmr.top k hlt
      have t2 := hmr'.top k hlt
      have hbe := bytesEq_any (G k) (O k) (K k) (G' k) (O' k) (K' k) c (f k) (g k) wr (bf k) (bg k) (fun j hj => hmr.row k hlt j hj) (fun j hj => hmr'.row k hlt j hj)
      clear hmr hmr' hm hm'
      go_wp2_with fail
      refine hbe.mono ?_
      rintro e w1 ⟨⟨y, rfl, hy⟩, b1⟩
      have b1 := bt hb b1
      clear hbe t1 t2 hb
      cases y with
      | true =>
        have HY : Hid (∀ j, j < c → f k j = g k j) := hy.1 rfl
        clear hy
        go_wp2_with fail
        refine ⟨⟨k + 1, by omega, by go_num, fun i hi => ?_, b1⟩, by simp [intOf]; omega⟩
        by_cases e : i = k
        · rw [e]; exact HY.out
        · exact HS.out i (by omega)
      | false =>
        have HY : Hid (¬ ∀ i, i < s → ∀ j, j < c → f i j = g i j) := fun h => absurd (hy.2 (h k hlt)) (by decide)
        clear hy
        go_wp2_with fail
        go_ret
        exact ⟨tell_no HY.out, b1⟩
    · have e8 : k = s := by omega
      subst e8
      clear hm hm'
      go_wp2_with fail
      go_ret
      exact ⟨tell_yes HS.out, hb⟩

set_option maxHeartbeats 400000 in
theorem equalF_none (A : Option Addr) (cap : Nat) (w : World) :
    Calls Try.prog 36 #[.slice none 0 0, .slice A 0 cap, .func (.func 37) #[] #[]] w fun e w' => e = .returned (.bool true) ∧ Below w.heap.size w w' := by
  go_enter Try.func36, Try.ntmps36
  go_wp2_with fail
  refine wp_loop_rounds 1 ?_
  rw [rounds_succ]
  go_wp2_with fail
  go_ret
  exact ⟨rfl, Below.refl _ _⟩

/-- Whether shards are good ones. -/
def GoodP (d : Int) (N : Nat) (L : Nat → Nat) (f : Nat → Nat → Nat) : Prop :=
  wrongC d ((N : Int) - d) = 0 ∧ wrongE N L = 0 ∧ ∀ i, d.toNat ≤ i → i < N → ∀ k, k < L 0 → Gf.mm d.toNat (Gf.rowF d.toNat) f i k = f i k

set_option maxHeartbeats 400000 in
theorem good_bad1 (A : Option Addr) (N cap : Nat) (d : Int) (w : World) (hN : N ≤ maxLen) (h : wrongC d ((N : Int) - d) ≠ 0) :
    Calls Try.prog 17 #[.slice A N cap, .int .i64 d] w fun e w' => e = .returned (.bool false) ∧ Below w.heap.size w w' := by
  unfold maxLen at hN
  have H : Hid (∀ w, Calls Try.prog 15 #[.int .i64 d, .int .i64 (wrap64 ((N : Int) - d))] w fun e w' => e = .returned (.int .i64 5) ∧ Below w.heap.size w w') := fun w => by
    have := codeWrong_any d (wrap64 ((N : Int) - d)) w
    rw [wrongC_bad (by
      unfold wrongC at h
      split at h
      · rename_i hb
        unfold wrap64
        omega
      · exact absurd rfl h)] at this
    exact this
  clear h hN
  go_enter Try.func17, Try.ntmps17
  go_wp2_with fail
  refine (H.out _).mono ?_
  rintro e w1 ⟨rfl, b1⟩
  go_wp2_with fail
  go_ret
  exact ⟨rfl, b1⟩

set_option maxHeartbeats 400000 in
theorem good_bad2 (A : Option Addr) (cap n s : Nat) (L : Nat → Nat) (f : Nat → Nat → Nat) (w : World) (h : Arg w (.slice A (n + s) cap) (n + s) L f) (h1 : 1 ≤ n) (h2 : n ≤ 8) (h3 : s ≤ 4) (hx : wrongE (n + s) L ≠ 0) :
    Calls Try.prog 17 #[.slice A (n + s) cap, .int .i64 (n : Int)] w fun e w' => e = .returned (.bool false) ∧ Below w.heap.size w w' := by
  have H := codeWrong_any n s
  rw [wrongC_ok (show ¬ ((n : Int) < 1 ∨ 8 < (n : Int) ∨ (s : Int) < 0 ∨ 4 < (s : Int)) by omega)] at H
  have HW := fun w' hb' => wrong_any _ (n + s) L f w' (h.below (w' := w') hb')
  have hsub : (n : Int) + (s : Int) - (n : Int) = (s : Int) := by omega
  generalize wrongE (n + s) L = x at HW hx
  have hx' : ((x : Int) == 0) = false := by rw [beq_eq_false_iff_ne]; omega
  have hxn : ((x : Int) != 0) = true := by rw [bne, hx']; rfl
  clear h hx
  go_enter Try.func17, Try.ntmps17
  go_wp2_with fail
  refine (H _).mono ?_
  rintro e w1 ⟨rfl, b1⟩
  go_wp2_with fail
  refine (HW _ b1).mono ?_
  rintro e w2 ⟨rfl, b2⟩
  have b2 := bt b1 b2
  clear H HW
  go_wp2_with fail
  go_ret
  exact ⟨rfl, b2⟩

set_option maxHeartbeats 1000000 in
theorem good_none (b o cap n : Nat) (L : Nat → Nat) (f : Nat → Nat → Nat) (w : World) (h : Arg w (.slice (some ⟨b, o, none⟩) n cap) n L f) (hcap : n ≤ cap) (h1 : 1 ≤ n) (h2 : n ≤ 8) (hx : wrongE n L = 0) :
    Calls Try.prog 17 #[.slice (some ⟨b, o, none⟩) n cap, .int .i64 (n : Int)] w fun e w' => e = .returned (.bool true) ∧ Below w.heap.size w w' := by
  have H := codeWrong_any n 0
  rw [wrongC_ok (show ¬ ((n : Int) < 1 ∨ 8 < (n : Int) ∨ (0 : Int) < 0 ∨ 4 < (0 : Int)) by omega)] at H
  have HW := fun w' hb' => wrong_any _ n L f w' (h.below (w' := w') hb')
  rw [hx] at HW
  have HS := fun w' hb' => spare_none _ n L f w' (h.below (w' := w') hb') h1 h2 hx
  have hc' : (n : Int) ≤ (cap : Int) := by omega
  clear h hx
  by_cases hcn : cap = n
  · subst hcn
    go_enter Try.func17, Try.ntmps17
    go_wp2_with fail
    refine (H _).mono ?_
    rintro e w1 ⟨rfl, b1⟩
    go_wp2_with fail
    refine (HW _ b1).mono ?_
    rintro e w2 ⟨rfl, b2⟩
    have b2 := bt b1 b2
    clear H HW
    go_wp2_with fail
    refine (HS _ b2).mono ?_
    rintro e w3 ⟨rfl, b3⟩
    have b3 := bt b2 b3
    go_wp2_with fail
    refine (equalF_none _ _ _).mono ?_
    rintro e w4 ⟨rfl, b4⟩
    have b4 := bt b3 b4
    go_wp2_with fail
    go_ret
    exact ⟨rfl, b4⟩
  · go_enter Try.func17, Try.ntmps17
    go_wp2_with fail
    refine (H _).mono ?_
    rintro e w1 ⟨rfl, b1⟩
    go_wp2_with fail
    refine (HW _ b1).mono ?_
    rintro e w2 ⟨rfl, b2⟩
    have b2 := bt b1 b2
    clear H HW
    go_wp2_with fail
    refine (HS _ b2).mono ?_
    rintro e w3 ⟨rfl, b3⟩
    have b3 := bt b2 b3
    go_wp2_with fail
    refine (equalF_none _ _ _).mono ?_
    rintro e w4 ⟨rfl, b4⟩
    have b4 := bt b3 b4
    go_wp2_with fail
    go_ret
    exact ⟨rfl, b4⟩

set_option maxHeartbeats 1000000 in
theorem good_some (b o cap n s : Nat) (L : Nat → Nat) (f : Nat → Nat → Nat) (w : World) (h : Arg w (.slice (some ⟨b, o, none⟩) (n + s) cap) (n + s) L f) (hcap : n + s ≤ cap) (h1 : 1 ≤ n) (h2 : n ≤ 8) (h3 : 1 ≤ s) (h4 : s ≤ 4) (hx : wrongE (n + s) L = 0) :
    Calls Try.prog 17 #[.slice (some ⟨b, o, none⟩) (n + s) cap, .int .i64 (n : Int)] w fun e w' => Tell e (∀ i, i < s → ∀ k, k < L 0 → Gf.mm n (spareF n) f i k = f (n + i) k) ∧ Below w.heap.size w w' := by
  have H := codeWrong_any n s
  rw [wrongC_ok (show ¬ ((n : Int) < 1 ∨ 8 < (n : Int) ∨ (s : Int) < 0 ∨ 4 < (s : Int)) by omega)] at H
  have HW := fun w' hb' => wrong_any _ (n + s) L f w' (h.below (w' := w') hb')
  rw [hx] at HW
  obtain ⟨e1, e2, e3, e4, e5⟩ := wrongE_zero hx
  have mT : Mx w (.slice (some ⟨b, o, none⟩) n cap) n (L 0) f := (h.take (n := n) (cap' := cap) (by omega)).mx (wrongE_ok h1 (by omega) e3 e4 (fun r hr => e5 r (by omega)))
  have HS := fun w' hb' => spare_own _ n s (L 0) f w' (mT.below (w' := w') hb') h2 h3 h4
  have mx := h.mx hx
  have mD : Mx w (.slice (some ⟨b, o + n, none⟩) s (cap - n)) s (L 0) (fun i => f (n + i)) := by
    obtain ⟨b', o', p, G, O, K, hv, hm⟩ := mx.lies
    cases hv
    refine ⟨fun i => mx.bd (n + i), ⟨h3, by omega, e3, e4⟩, b, o + n, cap - n, fun i => G (n + i), fun i => O (n + i), fun i => K (n + i), rfl, fun r hr => ?_, fun r hr k hk => hm.row (n + r) (by omega) k hk⟩
    rw [Nat.add_assoc]
    exact hm.top (n + r) (by omega)
  have hsub : (n : Int) + (s : Int) - (n : Int) = (s : Int) := by omega
  have hc' : (n : Int) ≤ (cap : Int) := by omega
  have hcn : ¬ cap = n := by omega
  have hle : (n : Int) ≤ (n : Int) + (s : Int) := by omega
  have bS := Gf.mm_bd (spareF_bd n) n f
  clear h hx mT mx e5
  generalize L 0 = c at *
  go_enter Try.func17, Try.ntmps17
  go_wp2_with fail
  refine (H _).mono ?_
  rintro e w1 ⟨rfl, b1⟩
  go_wp2_with fail
  refine (HW _ b1).mono ?_
  rintro e w2 ⟨rfl, b2⟩
  have b2 := bt b1 b2
  clear H HW b1
  go_wp2_with fail
  refine (HS _ b2).mono ?_
  rintro e w3 ⟨bS', G3, rfl, ho, b3⟩
  have b3 := bt b2 b3
  have mS := ho.mx bS ⟨h3, by omega, e3, e4⟩
  have mD := mD.below b3
  clear HS b2 ho
  go_wp2_with fail
  refine (equalF_any _ _ s c _ _ w3 mS mD).mono ?_
  rintro e w4 ⟨⟨y, rfl, hy⟩, b4⟩
  have b4 := bt b3 b4
  have HY : Hid (y = true ↔ ∀ i, i < s → ∀ k, k < c → Gf.mm n (spareF n) f i k = f (n + i) k) := hy
  clear hy
  go_wp2_with fail
  go_ret
  exact ⟨tell_of HY.out, b4⟩

theorem goodO (v : Value) (N : Nat) (L : Nat → Nat) (f : Nat → Nat → Nat) (d : Int) (w : World) (h : Arg w v N L f) (hc : Cap v) (hN : N ≤ maxLen) :
    Calls Try.prog 17 #[v, .int .i64 d] w fun e w' => Tell e (GoodP d N L f) ∧ Below w.heap.size w w' := by
  obtain ⟨A, cap, R, C, hv, hr⟩ := h.lies
  subst hv
  obtain ⟨_, _, _, hv, hcap⟩ := hc
  cases hv
  by_cases hw : wrongC d ((N : Int) - d) ≠ 0
  · exact (good_bad1 A N cap d w hN hw).mono fun e w' ⟨h1, h2⟩ => ⟨h1 ▸ tell_no (fun h => hw h.1), h2⟩
  · have hw' : ¬ (d < 1 ∨ 8 < d ∨ (N : Int) - d < 0 ∨ 4 < (N : Int) - d) := fun h => hw (by rw [wrongC_bad h]; decide)
    obtain ⟨n, rfl⟩ := Int.eq_ofNat_of_zero_le (show 0 ≤ d by omega)
    obtain ⟨s, rfl⟩ : ∃ s, N = n + s := ⟨N - n, by omega⟩
    by_cases hx : wrongE (n + s) L = 0
    · obtain ⟨b, o, rfl, _, _⟩ := hr 0 (by omega)
      rcases Nat.eq_zero_or_pos s with rfl | hs
      · exact (good_none b o cap n L f w h hcap (by omega) (by omega) hx).mono fun e w' ⟨h1, h2⟩ => ⟨h1 ▸ tell_yes ⟨by omega, hx, fun i hi hi' => by have h3 : n ≤ i := hi; omega⟩, h2⟩
      · refine (good_some b o cap n s L f w h hcap (by omega) (by omega) hs (by omega) hx).mono fun e w' ⟨⟨y, h1, h2⟩, h3⟩ => ⟨⟨y, h1, h2.trans ⟨fun h => ⟨by omega, hx, fun i hi hi' k hk => ?_⟩, fun h i hi k hk => h.2.2 (n + i) (Nat.le_add_right n i) (by omega) k hk⟩⟩, h3⟩
        have h5 : n ≤ i := hi
        obtain ⟨j, rfl⟩ : ∃ j, i = n + j := ⟨i - n, by omega⟩
        exact h j (by omega) k hk
    · exact (good_bad2 A cap n s L f w h (by omega) (by omega) (by omega) hx).mono fun e w' ⟨h1, h2⟩ => ⟨h1 ▸ tell_no (fun h => hx h.2.1), h2⟩

end Go.Proofs.Ytbidimaljeblgab
