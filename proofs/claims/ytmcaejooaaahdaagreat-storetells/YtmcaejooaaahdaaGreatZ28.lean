/-
  Texts of the proof, joined: TRead.
-/
import Derived.Test.YtmcaejooaaahdaaGreatZ27
namespace Go.Proofs.YtmcaejooaaahdaaGreat
open Go.RowKit

/-- The Sizes that the right ones among the first k tell. -/
def szL (seg : Int) (L : Nat → Nat) (g : Nat → Nat → Nat) (k : Nat) : List Nat := ((List.range k).filter (fun i => decide (Seg.right seg L g i))).map (Seg.rz g)
theorem szL_yes {seg : Int} {L : Nat → Nat} {g : Nat → Nat → Nat} {k : Nat} (h : Seg.right seg L g k) : szL seg L g (k + 1) = szL seg L g k ++ [Seg.rz g k] := by
  unfold szL
  rw [List.range_succ, List.filter_append, List.map_append]
  have e : List.filter (fun i => decide (Seg.right seg L g i)) [k] = [k] := List.filter_cons_of_pos (p := fun i => decide (Seg.right seg L g i)) (decide_eq_true h)
  rw [e]
  rfl
theorem szL_no {seg : Int} {L : Nat → Nat} {g : Nat → Nat → Nat} {k : Nat} (h : ¬ Seg.right seg L g k) : szL seg L g (k + 1) = szL seg L g k := by
  unfold szL
  rw [List.range_succ, List.filter_append, List.map_append]
  have e : List.filter (fun i => decide (Seg.right seg L g i)) [k] = [] := List.filter_cons_of_neg (p := fun i => decide (Seg.right seg L g i)) (fun q => h (of_decide_eq_true q))
  rw [e]
  exact List.append_nil _
theorem szL_mem {seg : Int} {L : Nat → Nat} {g : Nat → Nat → Nat} {k x : Nat} : x ∈ szL seg L g k ↔ ∃ i, i < k ∧ Seg.right seg L g i ∧ Seg.rz g i = x := by
  unfold szL
  rw [List.mem_map]
  constructor
  · rintro ⟨i, hi, e⟩
    rw [List.mem_filter, List.mem_range] at hi
    exact ⟨i, hi.1, of_decide_eq_true hi.2, e⟩
  · rintro ⟨i, h1, h2, e⟩
    exact ⟨i, by rw [List.mem_filter, List.mem_range]; exact ⟨h1, decide_eq_true h2⟩, e⟩
theorem szL_len (seg : Int) (L : Nat → Nat) (g : Nat → Nat → Nat) (k : Nat) : (szL seg L g k).length ≤ k := by
  unfold szL
  rw [List.length_map]
  exact Nat.le_trans (List.length_filter_le _ _) (by simp)
/-- One of them is another one than the first: just where not all have one Size. -/
theorem szL_sizes {seg : Int} {L : Nat → Nat} {g : Nat → Nat → Nat} {N : Nat} : (∃ r, r < (szL seg L g N).length ∧ decide ((szL seg L g N).getD r 0 ≠ (szL seg L g N).getD 0 0) = true) ↔ ¬ Seg.sizes seg L g N := by
  constructor
  · rintro ⟨r, hr, h⟩ hs
    have h := of_decide_eq_true h
    have m1 : (szL seg L g N).getD r 0 ∈ szL seg L g N := by simp [List.getD, hr]
    have m0 : (szL seg L g N).getD 0 0 ∈ szL seg L g N := by simp [List.getD, show 0 < (szL seg L g N).length by omega]
    obtain ⟨i, i1, i2, i3⟩ := szL_mem.1 m1
    obtain ⟨j, j1, j2, j3⟩ := szL_mem.1 m0
    exact h (by rw [← i3, ← j3]; exact hs i i1 j j1 i2 j2)
  · intro hn
    refine Classical.byContradiction fun q => hn (fun i hi j hj r1 r2 => ?_)
    have each : ∀ x, x ∈ szL seg L g N → x = (szL seg L g N).getD 0 0 := fun x hx => by
      obtain ⟨r, hr, e⟩ := List.mem_iff_getElem.1 hx
      refine Classical.byContradiction fun ne => q ⟨r, hr, decide_eq_true ?_⟩
      rw [show (szL seg L g N).getD r 0 = x by simp [List.getD, hr, e]]
      exact ne
    rw [each _ (szL_mem.2 ⟨i, hi, r1, rfl⟩), each _ (szL_mem.2 ⟨j, hj, r2, rfl⟩)]
theorem nums_cells {w : World} {N : Nat} {v : Value} {l : List Nat} (h : Nums w N v l) : ∃ A cap, v = .slice A l.length cap ∧ ∀ r, r < l.length → ∃ b o, A = some ⟨b, o, none⟩ ∧ w.cell? ⟨b, o + r, none⟩ = some (.int .i64 ((l.getD r 0 : Nat) : Int)) := by
  have h' : w.ownsRow N 3 1 v l.length (l.map fun x : Nat => Value.int .i64 (x : Int)) := h
  rcases h'.2 with ⟨rfl, h0⟩ | ⟨g, cap, cur, rfl, _, _, _, _, _, _⟩
  · exact ⟨none, 0, by rw [h0], fun r hr => absurd hr (by omega)⟩
  · refine ⟨some ⟨g, 0, none⟩, cap, rfl, fun r hr => ⟨g, 0, rfl, ?_⟩⟩
    have := h'.cells (g := g) rfl r (.int .i64 ((l.getD r 0 : Nat) : Int)) (by simp [List.getD, hr])
    rw [WideShapes.add_plain] at this
    exact this

set_option maxHeartbeats 800000 in
set_option maxRecDepth 100000 in
theorem rightOnes_any (v : Value) (N : Nat) (L : Nat → Nat) (g : Nat → Nat → Nat) (s : Int) (w : World) (h : Lls w v N L g) (hN : N ≤ 100) :
    Calls Tryz.prog 114 #[v, .int .i64 s] w fun e w' => ∃ v' z, e = .returned (.tuple #[v', z]) ∧ Lls w' v' N (Seg.rl s L g) (Seg.rf g) ∧ Nums w' w.heap.size z (szL s L g N) ∧ Below w.heap.size w w' := by
  obtain ⟨i0, hi0, hh⟩ := Option.map_eq_some_iff.1 Tryz.infoRow
  simp only [Prod.mk.injEq] at hh
  obtain ⟨hz0, hz1, hz2⟩ := hh
  obtain ⟨i1, hi1, hh1⟩ := Option.map_eq_some_iff.1 Tryz.infoInt
  simp only [Prod.mk.injEq] at hh1
  obtain ⟨hy0, hy1, hy2⟩ := hh1
  obtain ⟨A, C, rfl⟩ := h.shape
  have HL : Hid (∀ w', Below w.heap.size w w' → ∀ r, r < N → ∃ b o R K, A = some ⟨b, o, none⟩ ∧ w'.cell? ⟨b, o + r, none⟩ = some (.slice R (L r) K) ∧ Byts w' (.slice R (L r) K) (L r) (g r)) := fun w' hb r hr => (h.below hb).at hr
  have HBD : Hid (Gf.Bd2 (Seg.rf g)) := fun i k => h.bd i (k + 7)
  clear h
  go_enter Tryz.func114, Tryz.ntmps114
  go_wp2_with fail
  go_loopw [4, 5, 12] (fun y z x wr => ∃ (k : Nat) (U : Nat → Value), k ≤ N ∧ x = .int .i64 k ∧ Pcs wr w.heap.size y k U (Seg.rl s L g) (Seg.rf g) ∧ Nums wr w.heap.size z (szL s L g k) ∧ Below w.heap.size w wr) (fun _ _ x _ => N - (intOf x).toNat)
  case atStart => exact ⟨0, fun _ => .slice none 0 0, Nat.zero_le _, rfl, Pcs.start _ _ _ _ _, Nums.nil _ _, Below.refl _ _⟩
  case round =>
    obtain ⟨k, U, hk, rfl, hP, BN, hb⟩ := hrel
    by_cases hlt : k < N
    · have hlt' : (k : Int) < (N : Int) := by omega
      obtain ⟨b, o, R, K, rfl, d0, hy⟩ := HL.out wr hb k hlt
      have HR := parseRight_any _ _ (g k) s k wr hy
      have hln := szL_len s L g k
      obtain ⟨P, hP'⟩ : ∃ P : Prop, P = Seg.right s L g k := ⟨_, rfl⟩
      have hP2 : P = (Crc.parseE (g k) (L k) = 0 ∧ ((g k 1 : Nat) : Int) = s ∧ g k 2 = k) := hP'
      have HPy : Hid (P → szL s L g (k + 1) = szL s L g k ++ [Seg.rz g k]) := fun q => szL_yes (by rw [← hP']; exact q)
      have HPn : Hid (¬ P → szL s L g (k + 1) = szL s L g k) := fun q => szL_no (fun r => q (by rw [hP']; exact r))
      have HLy : Hid (P → Seg.rl s L g k = L k - 11) := fun q => Seg.rl_yes (by rw [← hP']; exact q)
      have HLn : Hid (¬ P → Seg.rl s L g k = 0) := fun q => Seg.rl_no (fun r => q (by rw [hP']; exact r))
      rw [← hP2] at HR
      clear hy hP' hP2
      go_wp2_with fail
      refine HR.mono ?_
      rintro e w1 ⟨v1, y, rfl, hO, b1⟩
      have BN := BN.below b1
      have hP := hP.below b1
      have hN1 : w.heap.size ≤ wr.heap.size := hb.size
      have b1 := bt hb b1
      rcases hO with ⟨hp, rfl, d, rfl, hM⟩ | ⟨hp, rfl, rfl⟩
      · have hpc : Pce w1 w.heap.size d (L k - 11) (Seg.rf g k) := (hM.pce (fun j => HBD.out k j)).lower hN1
        obtain ⟨g5, c5, rfl, _⟩ := hM
        have hz : g k 3 * 256 + g k 4 = Seg.rz g k := rfl
        rw [hz]
        have bV : Below w1.heap.size w1 (w1.alloc (.cells #[.int .i64 (g k 1 : Nat), .int .i64 (g k 2 : Nat), .int .i64 (Seg.rz g k : Nat), .slice (some ⟨g5, 0, none⟩) (L k - 11) c5] 137)) := (Below.refl _ _).alloc (Nat.le_refl _) _
        obtain ⟨V0, V1, V2, V3, VF⟩ := varB_new w1 (.int .i64 (g k 1 : Nat)) (.int .i64 (g k 2 : Nat)) (.int .i64 (Seg.rz g k : Nat)) (.slice (some ⟨g5, 0, none⟩) (L k - 11) c5)
        have HLT1 := hP.own.lt
        have hszA : (w1.alloc (.cells #[.int .i64 (g k 1 : Nat), .int .i64 (g k 2 : Nat), .int .i64 (Seg.rz g k : Nat), .slice (some ⟨g5, 0, none⟩) (L k - 11) c5] 137)).heap.size = w1.heap.size + 1 := by simp
        have bX := (Below.refl (w1.alloc (.cells #[.int .i64 (g k 1 : Nat), .int .i64 (g k 2 : Nat), .int .i64 (Seg.rz g k : Nat), .slice (some ⟨g5, 0, none⟩) (L k - 11) c5] 137)).heap.size (w1.alloc (.cells #[.int .i64 (g k 1 : Nat), .int .i64 (g k 2 : Nat), .int .i64 (Seg.rz g k : Nat), .slice (some ⟨g5, 0, none⟩) (L k - 11) c5] 137))).alloc (Nat.le_refl _) (.cells #[.slice (some ⟨g5, 0, none⟩) (L k - 11) c5] 59)
        have hP := (hP.below bV).below bX
        have hpc := (hpc.below bV).below bX
        have BN := (BN.below bV).below bX
        have b2 := bt (bt b1 bV) bX
        have cx : ∀ j u, [Value.slice (some ⟨g5, 0, none⟩) (L k - 11) c5][j]? = some u → ((w1.alloc (.cells #[.int .i64 (g k 1 : Nat), .int .i64 (g k 2 : Nat), .int .i64 (Seg.rz g k : Nat), .slice (some ⟨g5, 0, none⟩) (L k - 11) c5] 137)).alloc (.cells #[.slice (some ⟨g5, 0, none⟩) (L k - 11) c5] 59)).cell? ((⟨w1.heap.size + 1, 0, none⟩ : Addr).add j) = some u := by
          have q := fun j u => cell_one (w := (w1.alloc (.cells #[.int .i64 (g k 1 : Nat), .int .i64 (g k 2 : Nat), .int .i64 (Seg.rz g k : Nat), .slice (some ⟨g5, 0, none⟩) (L k - 11) c5] 137))) (v := .slice (some ⟨g5, 0, none⟩) (L k - 11) c5) (t := 59) j u
          rw [hszA] at q
          exact q
        have HPO := hP.own
        have V2' := (bX.cell (p := ⟨w1.heap.size, 2, none⟩) (by rw [hszA]; exact Nat.lt_succ_self _)).trans V2
        clear HR V0 V1 V2 VF bV bX
        go_upto_region 6 with (at_builtin; go_loud (refine wpList_append_own _ rfl (.tmp 24) (.tmp 27) 86 rfl w.heap.size 59 i0 (.slice none 0 0) 1 24 Tryz.underlying86 hi0 hz0 hz1 hz2 rfl (by decide) _ _ _ rfl HPO ⟨w1.heap.size + 1, 0, none⟩ 1 1 [.slice (some ⟨g5, 0, none⟩) (L k - 11) c5] rfl rfl cx (by intro u hu; simp at hu; subst hu; rfl) (by unfold maxLen; omega) (by omega) b2.size ?_; intro v4 w4 hown4 hgrow4 _))
        have b4 : Below w.heap.size w w4 := b2.grown hgrow4 b2.size (fun x hx => (HLT1 x hx).1)
        have hP4 := hP.step (by rw [HLy.out hp]; exact hpc) hown4 hgrow4
        have B4 := BN.kept (by decide) HPO hgrow4
        have V4 := hgrow4.cell V2' (fun e => Nat.lt_irrefl _ (HLT1 _ e.symm).2)
        clear hP hpc BN HPO hown4 hgrow4 V2' V3 cx
        have bY := (Below.refl w4.heap.size w4).alloc (Nat.le_refl _) (.cells #[.int .i64 (Seg.rz g k : Nat)] 3)
        have hP4 := hP4.below bY
        have b5 := bt b4 bY
        have BX : (w4.alloc (.cells #[.int .i64 (Seg.rz g k : Nat)] 3)).ownsRow w.heap.size 3 1 u5 (szL s L g k).length ((szL s L g k).map fun x : Nat => Value.int .i64 (x : Int)) := B4.below bY
        have cn : ∀ j u, [Value.int .i64 (Seg.rz g k : Nat)][j]? = some u → (w4.alloc (.cells #[.int .i64 (Seg.rz g k : Nat)] 3)).cell? ((⟨w4.heap.size, 0, none⟩ : Addr).add j) = some u := cells_new w4 #[.int .i64 (Seg.rz g k : Nat)] 3
        have HLT5 := BX.lt
        have HPZ : Hid (szL s L g (k + 1) = szL s L g k ++ [Seg.rz g k]) := HPy.out hp
        clear bY B4 hp
        generalize Seg.rz g k = zk at *
        go_wp2_with (at_builtin; go_loud (refine wpList_append_own _ rfl (.tmp 30) (.tmp 33) 27 rfl w.heap.size 3 i1 (.int .i64 0) 1 8 Tryz.underlying27 hi1 hy0 hy1 hy2 rfl (by decide) _ _ _ rfl BX ⟨w4.heap.size, 0, none⟩ 1 1 [.int .i64 (zk : Nat)] rfl rfl cn (by intro u hu; simp at hu; rw [hu]; rfl) (by unfold maxLen; omega) (by omega) b5.size ?_; intro v6 w6 hown6 hgrow6 _))
        have B6 := Nums.one hown6
        rw [← HPZ.out] at B6
        have b6 : Below w.heap.size w w6 := b5.grown hgrow6 b5.size (fun y hy => (HLT5 y hy).1)
        have hP6 := hP4.kept (by decide) (by decide) BX hgrow6
        exact ⟨⟨k + 1, _, by omega, by go_num, hP6, B6, b6⟩, by simp [intOf]; omega⟩
      · have hpc : Pce w1 w.heap.size (.slice none 0 0) 0 (Seg.rf g k) := Pce.nil _ _ (fun j => HBD.out k j)
        have bV : Below w1.heap.size w1 (w1.alloc (.cells #[.int .i64 0, .int .i64 0, .int .i64 0, .slice none 0 0] 137)) := (Below.refl _ _).alloc (Nat.le_refl _) _
        have HLT1 := hP.own.lt
        have hszA : (w1.alloc (.cells #[.int .i64 0, .int .i64 0, .int .i64 0, .slice none 0 0] 137)).heap.size = w1.heap.size + 1 := by simp
        have bX := (Below.refl (w1.alloc (.cells #[.int .i64 0, .int .i64 0, .int .i64 0, .slice none 0 0] 137)).heap.size (w1.alloc (.cells #[.int .i64 0, .int .i64 0, .int .i64 0, .slice none 0 0] 137))).alloc (Nat.le_refl _) (.cells #[.slice none 0 0] 59)
        have hP := (hP.below bV).below bX
        have hpc := (hpc.below bV).below bX
        have BN := (BN.below bV).below bX
        have b2 := bt (bt b1 bV) bX
        have cx : ∀ j u, [Value.slice none 0 0][j]? = some u → ((w1.alloc (.cells #[.int .i64 0, .int .i64 0, .int .i64 0, .slice none 0 0] 137)).alloc (.cells #[.slice none 0 0] 59)).cell? ((⟨w1.heap.size + 1, 0, none⟩ : Addr).add j) = some u := by
          have q := fun j u => cell_one (w := (w1.alloc (.cells #[.int .i64 0, .int .i64 0, .int .i64 0, .slice none 0 0] 137))) (v := .slice none 0 0) (t := 59) j u
          rw [hszA] at q
          exact q
        have HPO := hP.own
        have HLZ : Hid (Seg.rl s L g k = 0) := HLn.out hp
        have HPZ : Hid (szL s L g (k + 1) = szL s L g k) := HPn.out hp
        clear HR bV bX hp
        go_upto_region 6 with (at_builtin; go_loud (refine wpList_append_own _ rfl (.tmp 24) (.tmp 27) 86 rfl w.heap.size 59 i0 (.slice none 0 0) 1 24 Tryz.underlying86 hi0 hz0 hz1 hz2 rfl (by decide) _ _ _ rfl HPO ⟨w1.heap.size + 1, 0, none⟩ 1 1 [.slice none 0 0] rfl rfl cx (by intro u hu; simp at hu; subst hu; rfl) (by unfold maxLen; omega) (by omega) b2.size ?_; intro v4 w4 hown4 hgrow4 _))
        have b4 : Below w.heap.size w w4 := b2.grown hgrow4 b2.size (fun x hx => (HLT1 x hx).1)
        have hP4 := hP.step (by rw [HLZ.out]; exact hpc) hown4 hgrow4
        have B4 := BN.kept (by decide) HPO hgrow4
        rw [← HPZ.out] at B4
        clear hP hpc BN HPO hown4 hgrow4 cx
        go_wp2_with fail
        exact ⟨⟨k + 1, _, by omega, by go_num, hP4, B4, b4⟩, by simp [intOf]; omega⟩
    · obtain rfl : k = N := by omega
      have HLL := hP.lls HBD.out
      go_wp2_with fail
      go_ret2
      exact ⟨_, _, rfl, HLL, BN, hb⟩

theorem byts_take {w : World} {g n m cap : Nat} {f : Nat → Nat} (h : Byts w (.slice (some ⟨g, 0, none⟩) n cap) n f) (hm : m ≤ n) : Byts w (.slice (some ⟨g, 0, none⟩) m cap) m f := by
  obtain ⟨bd, A, C, hv, h1, h2, hc⟩ := h
  cases hv
  exact ⟨bd, _, _, rfl, by omega, h2, fun k hk => hc k (by omega)⟩

set_option maxHeartbeats 800000 in
set_option maxRecDepth 100000 in
theorem read_ok (A : Option Addr) (cap n s : Nat) (L : Nat → Nat) (g : Nat → Nat → Nat) (seg : Int) (w : World) (h : Lls w (.slice A (n + s) cap) (n + s) L g) (h1 : 1 ≤ n) (h2 : n ≤ 8) (h3 : s ≤ 4) :
    Calls Tryz.prog 82 #[.slice A (n + s) cap, .int .i64 seg, .int .i64 (n : Int)] w fun e w' => ∃ v', e = .returned (.tuple #[v', .int .i64 (readE seg n (n + s) L g : Nat)]) ∧ ReadO w' (readE seg n (n + s) L g) v' n (n + s) (Seg.rl seg L g) (Seg.rf g) (Seg.rz g (thr (Seg.rl seg L g) (n + s) 0)) ∧ Below w.heap.size w w' := by
  have hsub : (n : Int) + (s : Int) - (n : Int) = (s : Int) := by omega
  have HW := fun w' => codeWrong_any (n : Int) (s : Int) w'
  rw [wrongC_ok (by omega)] at HW
  have hns : ¬ n + s = 0 := by omega
  have HEW : Hid (wrongC (n : Int) (((n + s : Nat) : Int) - (n : Int)) = 0) := wrongC_ok (by omega)
  have HRO : Hid (∀ w', Below w.heap.size w w' → Calls Tryz.prog 114 #[.slice A (n + s) cap, .int .i64 seg] w' fun e w2 => ∃ v' z, e = .returned (.tuple #[v', z]) ∧ Lls w2 v' (n + s) (Seg.rl seg L g) (Seg.rf g) ∧ Nums w2 w'.heap.size z (szL seg L g (n + s)) ∧ Below w'.heap.size w' w2) := fun w' hb => rightOnes_any _ (n + s) L g seg w' (h.below hb) (by omega)
  clear h
  go_enter Tryz.func82, Tryz.ntmps82
  go_wp2_with fail
  refine (HW _).mono ?_
  rintro e w1 ⟨rfl, b1⟩
  clear HW
  go_wp2_with fail
  refine (HRO.out _ b1).mono ?_
  rintro e w2 ⟨vs, vz, rfl, LS, NZ, b2⟩
  have b2 := bt b1 b2
  obtain ⟨Az, Cz, rfl, hz⟩ := nums_cells NZ
  have hln := szL_len seg L g (n + s)
  have HSZ : Hid ((∃ r, r < (szL seg L g (n + s)).length ∧ decide ((szL seg L g (n + s)).getD r 0 ≠ (szL seg L g (n + s)).getD 0 0) = true) ↔ ¬ Seg.sizes seg L g (n + s)) := szL_sizes
  have HME : Hid (∀ x, x ∈ szL seg L g (n + s) ↔ ∃ i, i < n + s ∧ Seg.right seg L g i ∧ Seg.rz g i = x) := fun x => szL_mem
  generalize szL seg L g (n + s) = l at NZ hz hln HSZ HME
  have bV := (Below.refl w2.heap.size w2).alloc (Nat.le_refl _) (.cells #[.slice Az l.length Cz] 27)
  have HZC : Hid (∀ W, Below w2.heap.size w2 W → ∀ r, r < l.length → ∃ b o, Az = some ⟨b, o, none⟩ ∧ W.cell? ⟨b, o + r, none⟩ = some (.int .i64 ((l.getD r 0 : Nat) : Int))) := fun W hW r hr => by
    obtain ⟨b, o, e1, e2⟩ := hz r hr
    exact ⟨b, o, e1, (hW.cell (p := ⟨b, o + r, none⟩) (World.block_lt_of_cell? _ _ e2)).trans e2⟩
  have HV : Hid (∀ W, Below (w2.alloc (.cells #[.slice Az l.length Cz] 27)).heap.size (w2.alloc (.cells #[.slice Az l.length Cz] 27)) W → W.cell? ⟨w2.heap.size, 0, none⟩ = some (.slice Az l.length Cz)) := fun W hW => by
    rw [hW.cell (p := ⟨w2.heap.size, 0, none⟩) (by simp)]
    simp
  have HC := containsI_any 116 l.length Cz Az (.pointer (some ⟨w2.heap.size, 0, none⟩)) (fun r => .int .i64 ((l.getD r 0 : Nat) : Int)) (fun r => decide (l.getD r 0 ≠ l.getD 0 0)) _ Tryz.enters_other (HZC.out _ bV) (fun r hr W hW => by
    obtain ⟨b, o, e1, e2⟩ := HZC.out W (bt bV hW) 0 (by omega)
    have e3 := HV.out W hW
    subst e1
    exact other_any (l.getD r 0) (l.getD 0 0) l.length Cz w2.heap.size b o W (by omega) e3 (by simpa using e2)) (by omega)
  have LS := LS.below bV
  have b3 := bt b2 bV
  clear hz NZ
  go_wp2_with fail
  refine HC.mono ?_
  rintro e w4 ⟨y, rfl, hy, b4⟩
  have HY : Hid (y = true ↔ ∃ r, r < l.length ∧ decide (l.getD r 0 ≠ l.getD 0 0) = true) := hy
  have HV4 := HV.out w4 b4
  have HZ4 : Hid (∀ W, Below w4.heap.size w4 W → ∀ r, r < l.length → ∃ b o, Az = some ⟨b, o, none⟩ ∧ W.cell? ⟨b, o + r, none⟩ = some (.int .i64 ((l.getD r 0 : Nat) : Int))) := fun W hW => HZC.out W (bt (bt bV b4) hW)
  have LS := LS.below b4
  have b4 := bt b3 b4
  clear HC hy HV HZC bV
  cases y with
  | true =>
    have HE : Hid (readE seg n (n + s) L g = 8) := by
      show readE seg n (n + s) L g = 8
      unfold readE
      rw [if_neg (fun q => q HEW.out), if_pos (HSZ.out.1 (HY.out.1 rfl))]
    clear LS HV4
    go_wp2_with fail
    go_ret2
    exact ⟨_, by rw [HE.out]; rfl, Or.inr ⟨by rw [HE.out]; decide, rfl⟩, b4⟩
  | false =>
    have HS : Hid (Seg.sizes seg L g (n + s)) := Classical.byContradiction fun q => by
      have := HY.out.2 (HSZ.out.2 q)
      cases this
    have HM := mendO vs (n + s) (Seg.rl seg L g) (Seg.rf g) (n : Int) w4 LS.arg (by unfold maxLen; omega)
    by_cases hE : mendE (n : Int) (n + s) (Seg.rl seg L g) = 0
    case neg =>
      have HE : Hid (readE seg n (n + s) L g = mendE (n : Int) (n + s) (Seg.rl seg L g)) := by
        show readE seg n (n + s) L g = _
        unfold readE
        rw [if_neg (fun q => q HEW.out), if_neg (fun q => q HS.out), if_pos hE]
      have HN : Hid (mendE (n : Int) (n + s) (Seg.rl seg L g) ≠ 0) := hE
      have hx' : (((mendE (n : Int) (n + s) (Seg.rl seg L g) : Nat) : Int) == 0) = false := by rw [beq_eq_false_iff_ne]; omega
      have hxn : (((mendE (n : Int) (n + s) (Seg.rl seg L g) : Nat) : Int) != 0) = true := by rw [bne, hx']; rfl
      clear hE LS HV4
      go_wp2_with fail
      refine HM.mono ?_
      rintro e w5 ⟨vm, r, rfl, _, _, _, b5⟩
      have b5 := bt b4 b5
      clear HM
      go_wp2_with fail
      go_ret2
      exact ⟨_, by rw [HE.out]; rfl, Or.inr ⟨by rw [HE.out]; exact HN.out, rfl⟩, b5⟩
    case pos =>
      have hlen : n ≤ (there (Seg.rl seg L g) (n + s)).length := by
        refine Nat.le_of_not_lt fun q => ?_
        unfold mendE at hE
        rw [if_neg (fun q => q HEW.out), if_pos (by rw [Int.toNat_natCast]; exact q)] at hE
        cases hE
      obtain ⟨t1, t2⟩ := thr_mem (show 0 < (there (Seg.rl seg L g) (n + s)).length by omega)
      have t3 := Seg.rl_right t2
      have hl0 : 0 < l.length := by
        have := (HME.out (Seg.rz g (thr (Seg.rl seg L g) (n + s) 0))).2 ⟨_, t1, t3, rfl⟩
        exact List.length_pos_of_mem this
      have hfirst : l.getD 0 0 = Seg.rz g (thr (Seg.rl seg L g) (n + s) 0) := by
        have m0 : l.getD 0 0 ∈ l := by simp [List.getD, hl0]
        obtain ⟨i, i1, i2, i3⟩ := (HME.out _).1 m0
        rw [← i3]
        exact HS.out i i1 _ t1 i2 t3
      have HE0 : Hid (∀ b : Prop, (b ↔ n * Seg.rl seg L g (thr (Seg.rl seg L g) (n + s) 0) < Seg.rz g (thr (Seg.rl seg L g) (n + s) 0)) → (b → readE seg n (n + s) L g = 8) ∧ (¬ b → readE seg n (n + s) L g = 0)) := fun b hb => by
        have e : readE seg n (n + s) L g = if ((n : Int).toNat * Seg.rl seg L g (thr (Seg.rl seg L g) (n + s) 0) < Seg.rz g (thr (Seg.rl seg L g) (n + s) 0)) then 8 else 0 := by
          unfold readE
          rw [if_neg (fun q => q HEW.out), if_neg (fun q => q HS.out), if_neg (fun q => q hE)]
        rw [Int.toNat_natCast] at e
        constructor
        · intro q
          rw [e, if_pos (hb.1 q)]
        · intro q
          rw [e, if_neg (fun z => q (hb.2 z))]
      rw [hE] at HM
      have HF : Hid (l.getD 0 0 = Seg.rz g (thr (Seg.rl seg L g) (n + s) 0)) := hfirst
      obtain ⟨c, hc⟩ : ∃ c, c = Seg.rl seg L g (thr (Seg.rl seg L g) (n + s) 0) := ⟨_, rfl⟩
      rw [← hc] at HE0
      clear hE LS hlen t1 t2 t3 hfirst
      go_wp2_with fail
      refine HM.mono ?_
      rintro e w5 ⟨vm, r, rfl, hcap, hr, hO, b5⟩
      obtain ⟨hr1, hr2⟩ := hr trivial
      rw [Int.toNat_natCast] at hr2 hO
      have mx : Mx w5 vm (n + s) c (Gf.mm n (Gf.rowF n) (Gf.mm n r (fun p => Seg.rf g (thr (Seg.rl seg L g) (n + s) p)))) := by
        rw [hc]
        rcases hO with ⟨_, q⟩ | ⟨q, _⟩
        · exact q
        · rcases q with q | q
          · exact absurd rfl q
          · exact absurd q hns
      have bdF := mx.bd
      obtain ⟨d1, d2, d3, d4⟩ := mx.dim
      obtain ⟨b, o, p, G, O, K, rfl, hm⟩ := mx.lies
      have hcp : n + s ≤ p := by
        obtain ⟨A', n', p', e1, e2⟩ := hcap
        cases e1
        exact e2
      have HCT := concat_any b o n p c G O K _ w5 ⟨fun r hr => hm.top r (by omega), fun r hr => hm.row r (by omega)⟩ bdF h1 (by omega) d3 d4
      have q1 : n ≤ p := by omega
      have q2 : (n : Int) ≤ (p : Int) := by omega
      have HV5 := (b5.cell (p := ⟨w2.heap.size, 0, none⟩) (World.block_lt_of_cell? _ _ HV4)).trans HV4
      have HZ5 : Hid (∀ W, Below w5.heap.size w5 W → ∀ r, r < l.length → ∃ b o, Az = some ⟨b, o, none⟩ ∧ W.cell? ⟨b, o + r, none⟩ = some (.int .i64 ((l.getD r 0 : Nat) : Int))) := fun W hW => HZ4.out W (bt b5 hW)
      have HRR : Hid (Gf.Bd2 r ∧ Gf.Und n (fun p => Gf.rowF n (thr (Seg.rl seg L g) (n + s) p)) r) := ⟨hr1, hr2⟩
      have b5 := bt b4 b5
      have HNC : Hid (n * c ≤ 8 * 400) := Nat.mul_le_mul h2 d4
      have HCC : Hid (c = Seg.rl seg L g (thr (Seg.rl seg L g) (n + s) 0)) := hc
      clear HM HV4 hcap hm mx hr1 hr2 hc hO HZ4
      go_wp2_with fail
      refine HCT.mono ?_
      rintro e w6 ⟨v6, rfl, M6, b6⟩
      have HV6 := (b6.cell (p := ⟨w2.heap.size, 0, none⟩) (World.block_lt_of_cell? _ _ HV5)).trans HV5
      obtain ⟨bz, oz, rfl, cz⟩ := HZ5.out w6 b6 0 hl0
      rw [Nat.add_zero] at cz
      have b6 := bt b5 b6
      have YF := M6.byts (fun j => bdF _ _)
      obtain ⟨g6, c6, rfl, hg6, hc6, hm6, R6⟩ := M6
      have HNC := HNC.out
      have HE9 := HE0.out (n * c < l.getD 0 0) (by rw [HF.out])
      rw [HF.out] at cz HE9
      have HF9 : Hid (l.getD 0 0 = Seg.rz g (thr (Seg.rl seg L g) (n + s) 0)) := HF.out
      have HGO : Hid (∀ z, z = Seg.rz g (thr (Seg.rl seg L g) (n + s) 0) → z ≤ n * c → readE seg n (n + s) L g = 0 → ReadO w6 (readE seg n (n + s) L g) (.slice (some ⟨g6, 0, none⟩) z c6) n (n + s) (Seg.rl seg L g) (Seg.rf g) (Seg.rz g (thr (Seg.rl seg L g) (n + s) 0))) := fun z hz hzc he => by
        refine Or.inl ⟨he, r, HRR.out.1, HRR.out.2, ?_⟩
        rw [← hz, ← HCC.out]
        exact byts_take YF hzc
      have hm6' : c6 ≤ 9223372036854775807 := hm6
      have hl0' : (0 : Int) < (l.length : Int) := by omega
      clear HCT HV5 R6 YF HZ5
      generalize hzz : Seg.rz g (thr (Seg.rl seg L g) (n + s) 0) = z at *
      generalize n * c = m at *
      by_cases hlt : m < z
      · have hlt' : (m : Int) < (z : Int) := by omega
        have HE8 : Hid (readE seg n (n + s) L g = 8) := HE9.1 hlt
        clear HE9
        go_wp2_with fail
        go_ret2
        exact ⟨_, by rw [HE8.out]; rfl, Or.inr ⟨by rw [HE8.out]; decide, rfl⟩, b6⟩
      · have hlt' : ¬ (m : Int) < (z : Int) := by omega
        have HE8 : Hid (readE seg n (n + s) L g = 0) := HE9.2 hlt
        have HGX := HGO.out z rfl (by omega) HE8.out
        have HGH : Hid (ReadO w6 (readE seg n (n + s) L g) (.slice (some ⟨g6, 0, none⟩) z c6) n (n + s) (Seg.rl seg L g) (Seg.rf g) z) := HGX
        have hzc : z ≤ c6 := by omega
        have hzc' : (z : Int) ≤ (c6 : Int) := by omega
        clear HE9 HGX HGO
        go_wp2_with fail
        go_ret2
        exact ⟨_, by rw [HE8.out]; rfl, by rw [hzz]; exact HGH.out, b6⟩

set_option maxHeartbeats 400000 in
set_option maxRecDepth 100000 in
theorem read_bad (A : Option Addr) (N cap : Nat) (seg d : Int) (w : World) (hN : N ≤ maxLen) (h : wrongC d ((N : Int) - d) ≠ 0) :
    Calls Tryz.prog 82 #[.slice A N cap, .int .i64 seg, .int .i64 d] w fun e w' => e = .returned (.tuple #[.slice none 0 0, .int .i64 5]) ∧ Below w.heap.size w w' := by
  unfold maxLen at hN
  have H : Hid (∀ w, Calls Tryz.prog 12 #[.int .i64 d, .int .i64 (wrap64 ((N : Int) - d))] w fun e w' => e = .returned (.int .i64 5) ∧ Below w.heap.size w w') := fun w => by
    have := codeWrong_any d (wrap64 ((N : Int) - d)) w
    rw [wrongC_bad (by
      unfold wrongC at h
      split at h
      · rename_i hb
        unfold wrap64
        omega
      · exact absurd rfl h)] at this
    exact this
  clear h hN
  go_enter Tryz.func82, Tryz.ntmps82
  go_wp2_with fail
  refine (H.out _).mono ?_
  rintro e w1 ⟨rfl, b1⟩
  go_wp2_with fail
  go_ret2
  exact ⟨rfl, b1⟩

/-- What Read tells of whatever blocks. -/
theorem read_any (v : Value) (N : Nat) (L : Nat → Nat) (g : Nat → Nat → Nat) (seg d : Int) (w : World) (h : Lls w v N L g) :
    Calls Tryz.prog 82 #[v, .int .i64 seg, .int .i64 d] w fun e w' => ∃ v', e = .returned (.tuple #[v', .int .i64 (readE seg d N L g : Nat)]) ∧ ReadO w' (readE seg d N L g) v' d.toNat N (Seg.rl seg L g) (Seg.rf g) (Seg.rz g (thr (Seg.rl seg L g) N 0)) ∧ Below w.heap.size w w' := by
  have hN := h.len
  obtain ⟨A, C, rfl⟩ := h.shape
  by_cases hw : wrongC d ((N : Int) - d) = 0
  · have hb : ¬ (d < 1 ∨ 8 < d ∨ (N : Int) - d < 0 ∨ 4 < (N : Int) - d) := fun q => by rw [wrongC_bad q] at hw; cases hw
    obtain ⟨n, rfl⟩ := Int.eq_ofNat_of_zero_le (show 0 ≤ d by omega)
    obtain ⟨s, rfl⟩ : ∃ s, N = n + s := ⟨N - n, by omega⟩
    exact read_ok A C n s L g seg w h (by omega) (by omega) (by omega)
  · have hE : readE seg d N L g = 5 := if_pos hw
    refine (read_bad A N C seg d w (by unfold maxLen; omega) hw).mono ?_
    rintro e w' ⟨rfl, hb⟩
    exact ⟨_, by rw [hE]; rfl, Or.inr ⟨by rw [hE]; decide, rfl⟩, hb⟩

end Go.Proofs.YtmcaejooaaahdaaGreat
