/-
  Texts of the proof, joined: TCat.
-/
import Derived.Test.YtmcaejooaaahdaaGreatZ26
import Derived.Lib.AppendZerosOnto
namespace Go.Proofs.YtmcaejooaaahdaaGreat
open Go.RowKit

set_option maxHeartbeats 400000 in
set_option maxRecDepth 100000 in
theorem grow_any (m : Nat) (F : Nat → Nat) (w : World) (h1 : 1 ≤ m) (h2 : m ≤ 100000) :
    Calls Tryz.prog 144 #[.slice none 0 0, .int .i64 (m : Int)] w fun e w' => ∃ v', e = .returned v' ∧ Buf w' w.heap.size v' 0 F ∧ Below w.heap.size w w' := by
  obtain ⟨i1, hi1, hh1⟩ := Option.map_eq_some_iff.1 Tryz.infoByte
  simp only [Prod.mk.injEq] at hh1
  obtain ⟨hy0, hy1, hy2⟩ := hh1
  have hg := Lib.run_append_grow_zeros (P := Tryz.prog) w 59 3 59 5 i1 (.int .u8 0) .i64 .i64 Tryz.underlying59 Tryz.underlying3 hi1 hy0 none 0 0 [] (run_firstCells_none w.drew i1.size 0 0 0) m (by omega) (by omega) (by omega) (by omega) (by rw [hy2]; omega) (by
    have := growslice_fits (need := 0 + m) (old := 0) (bytes := i1.bytes) (by omega) (by rw [hy2]; omega)
    exact this)
  have hG := grownCap_ge w (0 + m) 0 5
  have hGm := grownCap_le_maxLen w (0 + m) 0 5 (by unfold maxLen; omega)
  obtain ⟨K, hK⟩ : ∃ K, K = grownCap w (0 + m) 0 5 := ⟨_, rfl⟩
  rw [← hK] at hg hG hGm
  obtain ⟨c, hc⟩ : ∃ c, c = (([] : List Value).toArray ++ Builtin.zeroCells (Value.int .u8 0).cells m ++ Builtin.zeroCells (Value.int .u8 0).cells (K - (0 + m))) := ⟨_, rfl⟩
  have hcs : c.size = K := by
    rw [hc]
    simp [Builtin.zeroCells, Value.cells]
    omega
  rw [← hc] at hg
  have HB : Hid (Buf (w.drew.alloc (.cells c 5)) w.heap.size (.slice (some ⟨w.heap.size, 0, none⟩) 0 K) 0 F) := World.ownsRow_made w.drew c K (Nat.le_refl _) hGm (by omega)
  have hbl : Below w.heap.size w (w.drew.alloc (.cells c 5)) := (Below.refl w.heap.size w).drew.alloc (Nat.le_refl _) _
  have hm0 : ¬ (m : Int) < 0 := by omega
  have hm1 : (0 : Int) < (m : Int) := by omega
  have hKi : K ≤ 9223372036854775807 := hGm
  clear hc hK hcs hGm hi1
  rw [Nat.zero_add] at hg hG
  go_enter Tryz.func144, Tryz.ntmps144
  go_wp2_with (at_builtin; go_loud (refine Lib.wpList_append_run _ rfl (.tmp 20) (.tmp 21) 59 3 rfl _ _ rfl rfl _ _ hg ?_))
  go_ret
  exact ⟨_, rfl, HB.out, hbl⟩

theorem cat_step {f : Nat → Nat → Nat} {c k : Nat} (hc : 1 ≤ c) : cellsOf (fun j => f (j / c) (j % c)) (k * c + c) = cellsOf (fun j => f (j / c) (j % c)) (k * c) ++ cellsOf (f k) c := by
  rw [cellsOf_add]
  refine congrArg _ (cellsOf_congr (fun j hj => ?_))
  show f ((k * c + j) / c) ((k * c + j) % c) = f k j
  rw [Nat.mul_comm, Nat.mul_add_div (by omega), Nat.mul_add_mod, Nat.div_eq_of_lt hj, Nat.mod_eq_of_lt hj, Nat.add_zero]

set_option maxHeartbeats 400000 in
set_option maxRecDepth 100000 in
theorem concat_any (b o n cap c : Nat) (G O K : Nat → Nat) (f : Nat → Nat → Nat) (w : World) (h : MatAt w b o n c G O K f) (bd : Gf.Bd2 f) (h1 : 1 ≤ n) (h2 : n ≤ 12) (h3 : 1 ≤ c) (h4 : c ≤ 400) :
    Calls Tryz.prog 118 #[.slice (some ⟨b, o, none⟩) n cap] w fun e w' => ∃ v', e = .returned v' ∧ Made w' w.heap.size v' (n * c) (fun j => f (j / c) (j % c)) ∧ Below w.heap.size w w' := by
  have hmm : n * c ≤ 12 * 400 := Nat.mul_le_mul h2 h4
  have hm1 : 1 * 1 ≤ n * c := Nat.mul_le_mul h1 h3
  have HIN : Hid (∀ k, k < n → k * c + c ≤ n * c) := fun k hk => by
    have := Nat.mul_le_mul_right c (show k + 1 ≤ n by omega)
    rw [Nat.succ_mul] at this
    exact this
  have HT : Hid (∀ w', Below w.heap.size w w' → ∀ k, k < n → w'.cell? ⟨b, o + k, none⟩ = some (.slice (some ⟨G k, O k, none⟩) c (K k))) := fun w' hb k hk => (h.below hb).top k hk
  have HR : Hid (∀ w', Below w.heap.size w w' → ∀ k, k < n → ∀ j u, (cellsOf (f k) c)[j]? = some u → w'.cell? ((⟨G k, O k, none⟩ : Addr).add j) = some u) := fun w' hb k hk j u hj => by
    rcases Nat.lt_or_ge j c with q | q
    · simp [cellsOf, q] at hj
      rw [WideShapes.add_plain, (h.below hb).row k hk j q, ← hj]
    · simp [List.getElem?_eq_none (show (cellsOf (f k) c).length ≤ j by simpa [cellsOf] using q)] at hj
  have HBD : Hid (Bd (fun j => f (j / c) (j % c))) := fun j => bd _ _
  obtain ⟨i1, hi1, hh1⟩ := Option.map_eq_some_iff.1 Tryz.infoByte
  simp only [Prod.mk.injEq] at hh1
  obtain ⟨hy0, hy1, hy2⟩ := hh1
  clear h bd
  go_enter Tryz.func118, Tryz.ntmps118
  go_wp2_with fail
  go_loopw [3, 11] (fun z x wr => ∃ (k : Nat), k ≤ n ∧ x = .int .i64 k ∧ z = .int .i64 ((k * c : Nat) : Int) ∧ Below w.heap.size w wr) (fun _ x _ => n - (intOf x).toNat)
  case atStart => exact ⟨0, Nat.zero_le _, rfl, by rw [Nat.zero_mul]; rfl, Below.refl _ _⟩
  case round =>
    obtain ⟨k, hk, rfl, rfl, hb⟩ := hrel
    by_cases hlt : k < n
    · have hlt' : (k : Int) < (n : Int) := by omega
      have t1 := HT.out wr hb k hlt
      have hin := HIN.out k hlt
      have e1 : (k + 1) * c = k * c + c := Nat.succ_mul k c
      have HE1 : Hid ((((k + 1) * c : Nat) : Int) = ((k * c : Nat) : Int) + (c : Int)) := by
        show (((k + 1) * c : Nat) : Int) = ((k * c : Nat) : Int) + (c : Int)
        omega
      clear e1
      generalize hp : k * c = p at *
      have hn0 : ¬ (p : Int) + (c : Int) < 0 := by omega
      go_wp2_with fail
      exact ⟨⟨k + 1, by omega, by go_num, by rw [HE1.out], hb⟩, by simp [intOf]; omega⟩
    · obtain rfl : k = n := by omega
      obtain ⟨m, hm⟩ : ∃ m, k * c = m := ⟨_, rfl⟩
      have HM : Hid (k * c = m) := hm
      rw [hm] at hmm hm1 ⊢
      have HG := grow_any m (fun j => f (j / c) (j % c)) wr (by omega) (by omega)
      clear hm
      obtain ⟨wo, rfl⟩ : ∃ x, x = wr := ⟨wr, rfl⟩
      go_wp2_with fail
      refine HG.mono ?_
      rintro e w2 ⟨v2, rfl, B2, b2⟩
      have b2 := bt hb b2
      have hwr := hb.size
      clear HG
      go_wp2_with fail
      go_loopw [6, 27] (fun y x wq => ∃ (q : Nat), q ≤ k ∧ x = .int .i64 q ∧ Buf wq w.heap.size y (q * c) (fun j => f (j / c) (j % c)) ∧ Below w.heap.size w wq) (fun _ x _ => k - (intOf x).toNat)
      case atStart => exact ⟨0, Nat.zero_le _, rfl, by rw [Nat.zero_mul]; exact owns_lower B2 hwr, b2⟩
      case round =>
        obtain ⟨q, hq, rfl, BQ, hbq⟩ := hrel
        by_cases hlt : q < k
        · have hlt' : (q : Int) < (k : Int) := by omega
          have hin := HIN.out q hlt
          rw [HM.out] at hin
          obtain ⟨p, hp⟩ : ∃ p, q * c = p := ⟨_, rfl⟩
          have HPP : Hid (cellsOf (fun j => f (j / c) (j % c)) ((q + 1) * c) = cellsOf (fun j => f (j / c) (j % c)) p ++ cellsOf (f q) c) := by
            show cellsOf (fun j => f (j / c) (j % c)) ((q + 1) * c) = cellsOf (fun j => f (j / c) (j % c)) p ++ cellsOf (f q) c
            rw [Nat.succ_mul, cat_step h3, hp]
          have HPL : Hid ((q + 1) * c = p + c) := by
            show (q + 1) * c = p + c
            rw [Nat.succ_mul, hp]
          rw [hp] at BQ hin
          have t1 := HT.out wr hbq q hlt
          have cs := HR.out wr hbq q hlt
          have hlen : (cellsOf (f q) c).length = c * 1 := by simp [cellsOf]
          have h1c := cellsOf_one (f q) c
          have HLT := World.ownsRow.lt BQ
          have BX : wr.ownsRow w.heap.size 5 1 u6 p (cellsOf (fun j => f (j / c) (j % c)) p) := BQ
          clear hp BQ
          go_wp2_with (at_builtin; go_loud (refine wpList_append_own _ rfl (.tmp 31) (.tmp 32) 59 rfl w.heap.size 5 i1 (.int .u8 0) 1 1 Tryz.underlying59 hi1 hy0 hy1 hy2 rfl (by decide) _ _ _ rfl BX ⟨G q, O q, none⟩ c (K q) (cellsOf (f q) c) rfl hlen cs h1c (by unfold maxLen; omega) (by omega) hbq.size ?_; intro v3 w3 hown3 hgrow3 _))
          have b3 : Below w.heap.size w w3 := hbq.grown hgrow3 hbq.size (fun y hy => (HLT y hy).1)
          refine ⟨⟨q + 1, by omega, by go_num, ?_, b3⟩, by simp [intOf]; omega⟩
          unfold Buf
          rw [HPP.out, HPL.out]
          exact hown3
        · obtain rfl : q = k := by omega
          have hqc : 1 ≤ q * c := by
            have := HM.out
            omega
          go_wp2_with fail
          go_ret
          exact ⟨_, rfl, Buf.made BQ HBD.out hqc, hbq⟩

set_option maxHeartbeats 400000 in
set_option maxRecDepth 100000 in
theorem indexI_any (g n cap : Nat) (A : Option Addr) (l : Value) (V : Nat → Value) (p : Nat → Bool) (w : World) (eg : ∀ args w, (callFunc g args).run Tryz.prog w = .ok (.enter g args) w)
    (hc : ∀ r, r < n → ∃ b o, A = some ⟨b, o, none⟩ ∧ w.cell? ⟨b, o + r, none⟩ = some (V r)) (hp : PredOn g l n V p w) (hn : n ≤ 10000) :
    Calls Tryz.prog 140 #[.slice A n cap, .func (.func g) #[] #[l]] w fun e w' => ∃ i : Int, e = .returned (.int .i64 i) ∧ FirstAt n p i ∧ Below w.heap.size w w' := by
  have HC : Hid (∀ w', Below w.heap.size w w' → ∀ r, r < n → ∃ b o, A = some ⟨b, o, none⟩ ∧ w'.cell? ⟨b, o + r, none⟩ = some (V r)) := fun w' hb r hr => by
    obtain ⟨b, o, e1, e2⟩ := hc r hr
    exact ⟨b, o, e1, (hb.cell (p := ⟨b, o + r, none⟩) (World.block_lt_of_cell? _ _ e2)).trans e2⟩
  clear hc
  go_enter Tryz.func140, Tryz.ntmps140
  go_wp2_with fail
  go_loopw [8] (fun i wr => ∃ k : Nat, k ≤ n ∧ i = .int .i64 k ∧ Hid (∀ s, s < k → p s = false) ∧ Below w.heap.size w wr) (fun i _ => n - (intOf i).toNat)
  case atStart => exact ⟨0, Nat.zero_le _, rfl, fun s hs => absurd hs (Nat.not_lt_zero s), Below.refl _ _⟩
  case round =>
    obtain ⟨k, hk, rfl, HS, hb⟩ := hrel
    by_cases hlt : k < n
    · have hlt' : (k : Int) < (n : Int) := by omega
      obtain ⟨b, o, rfl, hcw⟩ := HC.out wr hb k hlt
      have hpk := hp k hlt wr hb
      by_cases hy : p k = true
      · rw [hy] at hpk
        go_wp2_with fail
        refine hpk.mono ?_
        rintro e w1 ⟨rfl, hb1⟩
        go_wp2_with fail
        go_ret
        exact ⟨_, rfl, Or.inr ⟨k, hlt, rfl, hy, HS.out⟩, hb.trans (hb1.mono hb.size)⟩
      · have hy' : p k = false := by simpa using hy
        rw [hy'] at hpk
        clear hy
        go_wp2_with fail
        refine hpk.mono ?_
        rintro e w1 ⟨rfl, hb1⟩
        go_wp2_with fail
        refine ⟨⟨k + 1, by omega, by go_num, fun s hs => ?_, hb.trans (hb1.mono hb.size)⟩, by simp [intOf]; omega⟩
        by_cases e : s = k
        · rw [e]; exact hy'
        · exact HS.out s (by omega)
    · have e8 : k = n := by omega
      subst e8
      go_wp2_with fail
      go_ret
      exact ⟨_, rfl, Or.inl ⟨rfl, HS.out⟩, hb⟩

set_option maxHeartbeats 400000 in
set_option maxRecDepth 100000 in
theorem containsI_any (g n cap : Nat) (A : Option Addr) (l : Value) (V : Nat → Value) (p : Nat → Bool) (w : World) (eg : ∀ args w, (callFunc g args).run Tryz.prog w = .ok (.enter g args) w)
    (hc : ∀ r, r < n → ∃ b o, A = some ⟨b, o, none⟩ ∧ w.cell? ⟨b, o + r, none⟩ = some (V r)) (hp : PredOn g l n V p w) (hn : n ≤ 10000) :
    Calls Tryz.prog 115 #[.slice A n cap, .func (.func g) #[] #[l]] w fun e w' => ∃ y : Bool, e = .returned (.bool y) ∧ (y = true ↔ ∃ r, r < n ∧ p r = true) ∧ Below w.heap.size w w' := by
  go_enter Tryz.func115, Tryz.ntmps115
  go_wp2_with fail
  refine (indexI_any g n cap A l V p w eg hc hp hn).mono ?_
  rintro e w1 ⟨i, rfl, hi, hb⟩
  clear hc hp
  go_wp2_with fail
  go_ret
  refine ⟨_, rfl, ?_, hb⟩
  rcases hi with ⟨rfl, h⟩ | ⟨r, hr, rfl, h, _⟩
  · exact ⟨fun e => absurd e (by decide), fun ⟨r, hr, he⟩ => by rw [h r hr] at he; exact absurd he (by decide)⟩
  · exact ⟨fun _ => ⟨r, hr, h⟩, fun _ => by simp⟩

set_option maxHeartbeats 400000 in
set_option maxRecDepth 100000 in
theorem other_any (x y n cap B b o : Nat) (w : World) (h0 : 0 < n) (hc : w.cell? ⟨B, 0, none⟩ = some (.slice (some ⟨b, o, none⟩) n cap)) (hd : w.cell? ⟨b, o, none⟩ = some (.int .i64 (y : Int))) :
    Calls Tryz.prog 116 #[.int .i64 (x : Int), .pointer (some ⟨B, 0, none⟩)] w fun e w' => e = .returned (.bool (decide (x ≠ y))) ∧ Below w.heap.size w w' := by
  by_cases h : x = y
  · subst h
    have H : Hid (decide (x ≠ x) = false) := by show decide (x ≠ x) = false; simp
    go_enter Tryz.func116, Tryz.ntmps116
    go_wp2_with fail
    go_ret
    exact ⟨ret_bool (by rw [H.out]), Below.refl _ _⟩
  · have H : Hid (decide (x ≠ y) = true) := by show decide (x ≠ y) = true; simpa using h
    have h' : ((x : Int) == (y : Int)) = false := by rw [beq_eq_false_iff_ne]; omega
    clear h
    go_enter Tryz.func116, Tryz.ntmps116
    go_wp2_with fail
    go_ret
    exact ⟨ret_bool (by rw [H.out]; simp [bne, h']), Below.refl _ _⟩
theorem Tryz.enters_other : ∀ args w, (callFunc 116 args).run Tryz.prog w = .ok (.enter 116 args) w := enters_of Tryz.func116 (by kernel_rfl) rfl

end Go.Proofs.YtmcaejooaaahdaaGreat
