/-
  What code.wellFormed and code.thoseThere do, call by call.
-/
import Derived.Test.YtmlboaejkmffjadCRows
import Derived.Maps.AppendAt
namespace Go.Proofs.Ytmlboaejkmffjad
open Go.RowKit

set_option maxHeartbeats 1000000 in
theorem indexS_any (g b o n cap : Nat) (l : Value) (V : Nat → Value) (p : Nat → Bool) (w : World) (eg : ∀ args w, (callFunc g args).run Try.prog w = .ok (.enter g args) w)
    (hc : ∀ r, r < n → w.cell? ⟨b, o + r, none⟩ = some (V r)) (hp : PredOn g l n V p w) (hn : n ≤ 10000) :
    Calls Try.prog 103 #[.slice (some ⟨b, o, none⟩) n cap, .func (.func g) #[] #[l]] w fun e w' => ∃ i : Int, e = .returned (.int .i64 i) ∧ FirstAt n p i ∧ Below w.heap.size w w' := by
  go_enter Try.func103, Try.ntmps103
  go_wp2_with fail
  go_loopw [8] (fun i wr => ∃ k : Nat, k ≤ n ∧ i = .int .i64 k ∧ (∀ s, s < k → p s = false) ∧ Below w.heap.size w wr) (fun i _ => n - (intOf i).toNat)
  case atStart => exact ⟨0, Nat.zero_le _, rfl, fun s hs => absurd hs (Nat.not_lt_zero s), Below.refl _ _⟩
  case round =>
    obtain ⟨k, hk, rfl, hs, hb⟩ := hrel
    have HS : Hid (∀ s, s < k → p s = false) := hs
    clear hs
    by_cases hlt : k < n
    · have hlt' : (k : Int) < (n : Int) := by omega
      have hck := hc k hlt
      have hlb := World.block_lt_of_cell? _ _ hck
      have hcw := (hb.cell (p := ⟨b, o + k, none⟩) hlb).trans hck
      have HC : Hid (∀ r, r < n → w.cell? ⟨b, o + r, none⟩ = some (V r)) := hc
      clear hc hck
      have hpk := hp k hlt wr hb
      by_cases hy : p k = true
      · rw [hy] at hpk
        go_wp2_with fail
        refine hpk.mono ?_
        rintro e w1 ⟨rfl, hb1⟩
        go_wp2_with fail
        go_ret
        exact ⟨_, rfl, Or.inr ⟨k, hlt, rfl, hy, HS.out⟩, hb.trans (hb1.mono hb.size)⟩
      · have hy' : p k = false := by simpa using hy
        rw [hy'] at hpk
        clear hy
        go_wp2_with fail
        refine hpk.mono ?_
        rintro e w1 ⟨rfl, hb1⟩
        go_wp2_with fail
        refine ⟨⟨k + 1, by omega, by go_num, fun s hs => ?_, hb.trans (hb1.mono hb.size)⟩, by simp [intOf]; omega⟩
        by_cases e : s = k
        · rw [e]; exact hy'
        · exact HS.out s (by omega)
    · have e8 : k = n := by omega
      subst e8
      go_wp2_with fail
      go_ret
      exact ⟨_, rfl, Or.inl ⟨rfl, HS.out⟩, hb⟩

set_option maxHeartbeats 400000 in
theorem containsS_any (g b o n cap : Nat) (l : Value) (V : Nat → Value) (p : Nat → Bool) (w : World) (eg : ∀ args w, (callFunc g args).run Try.prog w = .ok (.enter g args) w)
    (hc : ∀ r, r < n → w.cell? ⟨b, o + r, none⟩ = some (V r)) (hp : PredOn g l n V p w) (hn : n ≤ 10000) :
    Calls Try.prog 94 #[.slice (some ⟨b, o, none⟩) n cap, .func (.func g) #[] #[l]] w fun e w' => ∃ y : Bool, e = .returned (.bool y) ∧ (y = true ↔ ∃ r, r < n ∧ p r = true) ∧ Below w.heap.size w w' := by
  go_enter Try.func94, Try.ntmps94
  go_wp2_with fail
  refine (indexS_any g b o n cap l V p w eg hc hp hn).mono ?_
  rintro e w1 ⟨i, rfl, hi, hb⟩
  clear hc hp
  go_wp2_with fail
  go_ret
  refine ⟨_, rfl, ?_, hb⟩
  rcases hi with ⟨rfl, h⟩ | ⟨r, hr, rfl, h, _⟩
  · exact ⟨fun e => absurd e (by decide), fun ⟨r, hr, he⟩ => by rw [h r hr] at he; exact absurd he (by decide)⟩
  · exact ⟨fun _ => ⟨r, hr, h⟩, fun _ => by simp⟩

set_option maxHeartbeats 400000 in
theorem otherLenS_any (A : Option Addr) (l c B m : Nat) (w : World) (hc : w.cell? ⟨B, 0, none⟩ = some (.int .i64 (m : Int))) :
    Calls Try.prog 93 #[.slice A l c, .pointer (some ⟨B, 0, none⟩)] w fun e w' => e = .returned (.bool (decide (l ≠ m))) ∧ Below w.heap.size w w' := by
  by_cases h : l = m
  · subst h
    have H : Hid (decide (l ≠ l) = false) := by show decide (l ≠ l) = false; simp
    go_enter Try.func93, Try.ntmps93
    go_wp2_with fail
    go_ret
    exact ⟨ret_bool H.out.symm, Below.refl _ _⟩
  · have H : Hid (decide (l ≠ m) = true) := by show decide (l ≠ m) = true; simpa using h
    have h' : ((l : Int) == (m : Int)) = false := by rw [beq_eq_false_iff_ne]; omega
    clear h
    go_enter Try.func93, Try.ntmps93
    go_wp2_with fail
    go_ret
    exact ⟨ret_bool (by rw [H.out]; simp [bne, h']), Below.refl _ _⟩

theorem Try.enters_otherLenS : ∀ args w, (callFunc 93 args).run Try.prog w = .ok (.enter 93 args) w := enters_of Try.func93 (by kernel_rfl) rfl


set_option maxHeartbeats 1000000 in
theorem wellFormed_any (v : Value) (m : Nat) (L : Nat → Nat) (f : Nat → Nat → Nat) (w : World) (h : Arg w v m L f) (h1 : 1 ≤ m) (h2 : m ≤ 10000) :
    Calls Try.prog 72 #[v] w fun e w' => ∃ y : Bool, e = .returned (.bool y) ∧ (y = true ↔ L 0 ≤ 400 ∧ ∀ p, p < m → L p = L 0) ∧ Below w.heap.size w w' := by
  obtain ⟨A, cap, R, C, rfl, hr⟩ := h.lies
  clear h
  obtain ⟨b, o, rfl, hc0, _⟩ := hr 0 (by omega)
  have hc : ∀ r, r < m → w.cell? ⟨b, o + r, none⟩ = some (.slice (R r) (L r) (C r)) := fun r hrn => by
    obtain ⟨b', o', e1, e2, _⟩ := hr r hrn
    cases e1
    exact e2
  clear hr
  have hb0 := World.block_lt_of_cell? _ _ hc0
  have h0' : (0 : Int) < (m : Int) := by omega
  have hc0' : w.cell? ⟨b, o, none⟩ = some (.slice (R 0) (L 0) (C 0)) := by simpa using hc0
  clear hc0
  have HC : Hid (∀ r, r < m → w.cell? ⟨b, o + r, none⟩ = some (.slice (R r) (L r) (C r))) := hc
  clear hc
  by_cases h4 : L 0 ≤ 400
  · have h4' : (L 0 : Int) ≤ 400 := by omega
    go_enter Try.func72, Try.ntmps72
    go_wp2_with fail
    refine (containsS_any 93 b o m cap _ (fun r => .slice (R r) (L r) (C r)) (fun r => decide (L r ≠ L 0)) _ Try.enters_otherLenS ?_ ?_ h2).mono ?_
    · intro r hr
      exact (((Below.refl w.heap.size w).alloc (Nat.le_refl _) _).cell (p := ⟨b, o + r, none⟩) hb0).trans (HC.out r hr)
    · intro r hr W hW
      refine otherLenS_any (R r) (L r) (C r) w.heap.size (L 0) W ?_
      rw [hW.cell (p := ⟨w.heap.size, 0, none⟩) (by simp)]
      simp
    rintro e w1 ⟨y, rfl, hy, hb1⟩
    have hbz : Below w.heap.size w w1 := ((Below.refl w.heap.size w).alloc (Nat.le_refl _) _).trans (hb1.mono (by simp))
    have HY : Hid (y = true ↔ ∃ r, r < m ∧ decide (L r ≠ L 0) = true) := hy
    clear hy
    go_wp2_with fail
    go_ret
    refine ⟨_, rfl, ?_, hbz⟩
    have hy := HY.out
    cases y with
    | true =>
      obtain ⟨r, hr, he⟩ := hy.1 rfl
      exact ⟨fun h => absurd h (by decide), fun h => absurd (h.2 r hr) (of_decide_eq_true he)⟩
    | false => exact ⟨fun _ => ⟨h4, fun r hr => Classical.byContradiction fun hne => absurd (hy.2 ⟨r, hr, decide_eq_true hne⟩) (by decide)⟩, fun _ => rfl⟩
  · have h4' : ¬ (L 0 : Int) ≤ 400 := by omega
    go_enter Try.func72, Try.ntmps72
    go_wp2_with fail
    go_ret
    exact ⟨rfl, (Below.refl _ _).alloc (Nat.le_refl _) _⟩

/-- The numbers of the first k lists that have bytes. -/
def there (L : Nat → Nat) (k : Nat) : List Nat := (List.range k).filter (fun r => decide (0 < L r))
theorem there_yes {L : Nat → Nat} {k : Nat} (h : 0 < L k) : there L (k + 1) = there L k ++ [k] := by
  unfold there
  rw [List.range_succ, List.filter_append, List.filter_cons_of_pos (by simpa using h)]
  rfl
theorem there_no {L : Nat → Nat} {k : Nat} (h : ¬ 0 < L k) : there L (k + 1) = there L k := by
  unfold there
  rw [List.range_succ, List.filter_append, List.filter_cons_of_neg (by simpa using h)]
  simp
theorem there_mem {L : Nat → Nat} {k r : Nat} : r ∈ there L k ↔ r < k ∧ 0 < L r := by
  unfold there
  rw [List.mem_filter, List.mem_range, decide_eq_true_iff]
theorem there_nodup (L : Nat → Nat) (k : Nat) : (there L k).Nodup := List.nodup_range.filter _
theorem there_len (L : Nat → Nat) (k : Nat) : (there L k).length ≤ k := by
  have := List.length_filter_le (fun r => decide (0 < L r)) (List.range k)
  rw [List.length_range] at this
  exact this

/-- Two lists that lie apart. -/
def Dis (a b : Value) : Prop := a.ownBlock = none ∨ b.ownBlock = none ∨ a.ownBlock ≠ b.ownBlock
theorem Dis.symm {a b : Value} (h : Dis a b) : Dis b a := by
  rcases h with h | h | h
  · exact Or.inr (Or.inl h)
  · exact Or.inl h
  · exact Or.inr (Or.inr h.symm)
theorem Dis.kept {a b : Value} (h : Dis a b) : b.ownBlock = none ∨ b.ownBlock ≠ a.ownBlock := by
  rcases h with h | h | h
  · cases hb : b.ownBlock with
    | none => exact Or.inl rfl
    | some x => exact Or.inr (by rw [h]; simp)
  · exact Or.inl h
  · exact Or.inr h.symm
theorem Dis.next {a a' b : Value} {w : World} (h : Dis a b) (hl : a'.ownBlock = a.ownBlock ∨ a'.ownBlock = some w.heap.size) (hb : ∀ x, b.ownBlock = some x → x < w.heap.size) : Dis a' b := by
  rcases hl with hl | hl
  · unfold Dis
    rw [hl]
    exact h
  · cases e : b.ownBlock with
    | none => exact Or.inr (Or.inl e)
    | some x => exact Or.inr (Or.inr (by
        have := hb x e
        rw [hl, e]
        simp
        omega))

theorem arg_of_owns {w : World} {N : Nat} {v : Value} {T : List Nat} (R : Nat → Option Addr) (L C : Nat → Nat) (f : Nat → Nat → Nat) (bd : Gf.Bd2 f) (h : w.ownsRow N 25 1 v T.length (T.map fun r => .slice (R r) (L r) (C r)))
    (hr : ∀ r, r ∈ T → ∀ k, k < L r → ∃ b' o', R r = some ⟨b', o', none⟩ ∧ w.cell? ⟨b', o' + k, none⟩ = some (.int .u8 (f r k : Nat))) : Arg w v T.length (fun p => L (T.getD p 0)) (fun p => f (T.getD p 0)) := by
  refine ⟨fun p => bd _, ?_⟩
  by_cases h0 : 1 ≤ T.length
  · obtain ⟨g, cap, hv, _, _, hrow⟩ := rowC_owns h h0
    refine ⟨some ⟨g, 0, none⟩, cap, fun p => R (T.getD p 0), fun p => C (T.getD p 0), hv, fun p hp => ⟨g, 0, rfl, ?_, hr (T.getD p 0) ?_⟩⟩
    · rw [Nat.zero_add, hrow.cell hp]
      simp [List.getD, hp]
    · simp [List.getD, hp]
  · have e : T.length = 0 := by omega
    rw [e] at h ⊢
    rcases h.2 with ⟨hv, _⟩ | ⟨g, cap, _, hv, _⟩
    · exact ⟨none, 0, fun _ => none, fun _ => 0, hv, fun r hr => absurd hr (Nat.not_lt_zero r)⟩
    · exact ⟨_, cap, fun _ => none, fun _ => 0, hv, fun r hr => absurd hr (Nat.not_lt_zero r)⟩

/-- A list has no fewer places than it is long. -/
def Cap (v : Value) : Prop := ∃ A n cap, v = .slice A n cap ∧ n ≤ cap
theorem cap_of_owns {w : World} {N : Nat} {t : TypeId} {v : Value} {n : Nat} {xs : List Value} (h : w.ownsRow N t 1 v n xs) : Cap v := by
  rcases h.2 with ⟨hv, _⟩ | ⟨g, cap, _, hv, _, _, hc, _⟩
  · exact ⟨_, _, _, hv, Nat.le_refl _⟩
  · exact ⟨_, _, _, hv, hc⟩

set_option maxHeartbeats 2000000 in
theorem thoseThere_any (A : Option Addr) (cap N n : Nat) (L : Nat → Nat) (f : Nat → Nat → Nat) (br capr : Nat) (Gr Or' Kr : Nat → Nat) (g : Nat → Nat → Nat) (w : World) (h : Arg w (.slice A N cap) N L f) (bg : Gf.Bd2 g) (hm : MatAt w br 0 N n Gr Or' Kr g) (h1 : 1 ≤ N) (h2 : N ≤ 12) :
    Calls Try.prog 71 #[.slice A N cap, .slice (some ⟨br, 0, none⟩) N capr] w fun e w' => ∃ v4 v5, e = .returned (.tuple #[v4, v5]) ∧
      Arg w' v4 (there L N).length (fun p => L ((there L N).getD p 0)) (fun p => f ((there L N).getD p 0)) ∧ Arg w' v5 (there L N).length (fun _ => n) (fun p => g ((there L N).getD p 0)) ∧ Cap v4 ∧ Cap v5 ∧ Below w.heap.size w w' := by
  obtain ⟨A', cap', R, C, hv, hr⟩ := h.lies
  have bf := h.bd
  cases hv
  clear h
  obtain ⟨b, o, rfl, _, _⟩ := hr 0 (by omega)
  have HC : Hid (∀ r, r < N → w.cell? ⟨b, o + r, none⟩ = some (.slice (R r) (L r) (C r)) ∧ ∀ k, k < L r → ∃ b' o', R r = some ⟨b', o', none⟩ ∧ w.cell? ⟨b', o' + k, none⟩ = some (.int .u8 (f r k : Nat))) := fun r hrn => by
    obtain ⟨b', o', e1, e2, e3⟩ := hr r hrn
    cases e1
    exact ⟨e2, e3⟩
  clear hr
  obtain ⟨i0, hi, hh⟩ := Option.map_eq_some_iff.1 Try.infoRow
  simp only [Prod.mk.injEq] at hh
  obtain ⟨hz0, hz1, hz2⟩ := hh
  go_enter Try.func71, Try.ntmps71
  go_wp2_with fail
  go_loopw [4, 5, 10] (fun v4 v5 x wr => ∃ k : Nat, k ≤ N ∧ x = .int .i64 k ∧ wr.ownsRow w.heap.size 25 1 v4 (there L k).length ((there L k).map fun r => .slice (R r) (L r) (C r)) ∧
    wr.ownsRow w.heap.size 25 1 v5 (there L k).length ((there L k).map fun r => .slice (some ⟨Gr r, Or' r, none⟩) n (Kr r)) ∧ Dis v4 v5 ∧ Below w.heap.size w wr) (fun _ _ x _ => N - (intOf x).toNat)
  case atStart => exact ⟨0, Nat.zero_le _, rfl, World.ownsRow_nil w _ _ 1, World.ownsRow_nil w _ _ 1, Or.inl rfl, Below.refl _ _⟩
  case round =>
    obtain ⟨k, hk, rfl, o4, o5, hd, hb⟩ := hrel
    by_cases hlt : k < N
    · have hlt' : (k : Int) < (N : Int) := by omega
      have hck := (HC.out k hlt).1
      have hcw := (hb.cell (p := ⟨b, o + k, none⟩) (World.block_lt_of_cell? _ _ hck)).trans hck
      clear hck
      by_cases hy : 0 < L k
      · have hy' : (0 : Int) < (L k : Int) := by omega
        have HT : Hid (there L (k + 1) = there L k ++ [k]) := there_yes hy
        have hlen := there_len L k
        have htk := hm.top k hlt
        have hbX := (Below.refl wr.heap.size wr).alloc (Nat.le_refl _) (.cells #[.slice (R k) (L k) (C k)] 25)
        have ox4 := owns_below o4 hbX
        have ox5 := owns_below o5 hbX
        have sX := Nat.le_trans hb.size hbX.size
        go_wp2_with (first
          | (at_builtin; refine wpList_append_own_at _ rfl (.tmp 18) (.tmp 20) 91 rfl w.heap.size 25 i0 (.slice none 0 0) 1 24 Try.underlying91 hi hz0 hz1 hz2 rfl (by decide) _ _ _ rfl ox4 ⟨wr.heap.size, 0, none⟩ 1 1 [.slice (R k) (L k) (C k)] rfl rfl cell_one (by intro u hu; simp at hu; subst hu; rfl) (by unfold maxLen; omega) (by omega) sX ?_; intro v41 w1 hown41 hgrow41 _ hloc41; have b1 : Below w.heap.size w w1 := (hb.trans (hbX.mono hb.size)).grown hgrow41 sX (fun x hx => (ox4.lt x hx).1); have o51 := ox5.kept hgrow41 hd.kept; have hd1 := hd.next hloc41 (fun x hx => (ox5.lt x hx).2); have tk1 := (b1.cell (p := ⟨br, 0 + k, none⟩) (World.block_lt_of_cell? _ _ htk)).trans htk; have hbY := (Below.refl w1.heap.size w1).alloc (Nat.le_refl _) (.cells #[.slice (some ⟨Gr k, Or' k, none⟩) n (Kr k)] 25); have oy4 := owns_below hown41 hbY; have oy5 := owns_below o51 hbY; have sY := Nat.le_trans b1.size hbY.size; rw [Nat.zero_add] at tk1)
          | (at_builtin; refine wpList_append_own_at _ rfl (.tmp 22) (.tmp 27) 91 rfl w.heap.size 25 i0 (.slice none 0 0) 1 24 Try.underlying91 hi hz0 hz1 hz2 rfl (by decide) _ _ _ rfl oy5 ⟨w1.heap.size, 0, none⟩ 1 1 [.slice (some ⟨Gr k, Or' k, none⟩) n (Kr k)] rfl rfl cell_one (by intro u hu; simp at hu; subst hu; rfl) (by unfold maxLen; omega) (by omega) sY ?_; intro v52 w2 hown52 hgrow52 _ hloc52))
        have b2 : Below w.heap.size w w2 := (b1.trans (hbY.mono b1.size)).grown hgrow52 sY (fun x hx => (oy5.lt x hx).1)
        have o42 := oy4.kept hgrow52 hd1.symm.kept
        have hd2 := (hd1.symm.next hloc52 (fun x hx => (oy4.lt x hx).2)).symm
        have q4 : w2.ownsRow w.heap.size 25 1 v41 (there L (k + 1)).length ((there L (k + 1)).map fun r => .slice (R r) (L r) (C r)) := by
          rw [HT.out, List.length_append, List.map_append]
          exact o42
        have q5 : w2.ownsRow w.heap.size 25 1 v52 (there L (k + 1)).length ((there L (k + 1)).map fun r => .slice (some ⟨Gr r, Or' r, none⟩) n (Kr r)) := by
          rw [HT.out, List.length_append, List.map_append]
          exact hown52
        clear o4 o5 hd ox4 ox5 hown41 hgrow41 hloc41 o51 hd1 tk1 oy4 oy5 hown52 hgrow52 hloc52 o42 b1 hbX hbY hcw htk
        go_wp2_with fail
        exact ⟨⟨k + 1, by omega, by go_num, q4, q5, hd2, b2⟩, by simp [intOf]; omega⟩
      · have hy' : ¬ (0 : Int) < (L k : Int) := by omega
        have HT : Hid (there L (k + 1) = there L k) := there_no hy
        go_wp2_with fail
        refine ⟨⟨k + 1, by omega, by go_num, ?_, ?_, hd, hb⟩, by simp [intOf]; omega⟩
        · rw [HT.out]; exact o4
        · rw [HT.out]; exact o5
    · have e8 : k = N := by omega
      subst e8
      have HA4 : Hid (Arg wr _ (there L k).length (fun p => L ((there L k).getD p 0)) (fun p => f ((there L k).getD p 0))) := arg_of_owns R L C f bf o4 (fun r hr j hj => by
        obtain ⟨h1, h2⟩ := there_mem.1 hr
        obtain ⟨b', o', e1, e2⟩ := (HC.out r h1).2 j hj
        exact ⟨b', o', e1, (hb.cell (p := ⟨b', o' + j, none⟩) (World.block_lt_of_cell? _ _ e2)).trans e2⟩)
      have HA5 : Hid (Arg wr _ (there L k).length (fun _ => n) (fun p => g ((there L k).getD p 0))) := arg_of_owns (fun r => some ⟨Gr r, Or' r, none⟩) (fun _ => n) Kr g bg o5 (fun r hr j hj => ⟨Gr r, Or' r, rfl, (hm.below hb).row r (there_mem.1 hr).1 j hj⟩)
      have c4 := cap_of_owns o4
      have c5 := cap_of_owns o5
      clear o4 o5 hd hm
      go_wp2_with fail
      go_ret2
      exact ⟨_, _, rfl, HA4.out, HA5.out, c4, c5, hb⟩

end Go.Proofs.Ytmlboaejkmffjad
