/-
  What the document's own answer for products of matrices does, call by call.
-/
import Derived.Test.YtbidimaljeblgaaRefOne
namespace Go.Proofs.Ytbidimaljeblgaa
open Go.RowKit

theorem refMul_same (a b : Nat) (w : World) (ha : a < 256) (hb : b < 256) :
    Calls Try.prog 10 #[.int .u8 (a : Int), .int .u8 (b : Int)] w fun e w' => e = .returned (.int .u8 ((Gf.mul a b : Nat) : Int)) ∧ w' = w :=
  (refMul_nat a b w ha hb).mono fun _ _ ⟨h1, h2⟩ => ⟨h1, h2.symm⟩

/-- The bytes of a row so far. -/
def rowTo (f : Nat → Nat) (j : Nat) : List Value := (List.range j).map fun l => .int .u8 (f l : Nat)
theorem rowTo_succ (f : Nat → Nat) (j : Nat) : rowTo f j ++ [.int .u8 (f j : Nat)] = rowTo f (j + 1) := by
  unfold rowTo
  rw [List.range_succ, List.map_append]
  rfl
theorem cell_new {w : World} {t : TypeId} {x : Value} : ∀ j u, [x][j]? = some u → (w.alloc (.cells #[x] t)).cell? ((⟨w.heap.size, 0, none⟩ : Addr).add j) = some u := by
  intro j u hj
  match j, hj with
  | 0, hj =>
    simp at hj
    subst hj
    simp [Addr.add]
  | j + 1, hj => simp at hj

set_option maxHeartbeats 2000000 in
theorem refMulM_ok (va vb : Value) (na ca nb cb : Nat) (fa fb : Nat → Nat → Nat) (w : World) (ha : Mx w va na ca fa) (hb : Mx w vb nb cb fb) (hab : ca = nb) :
    Calls Try.prog 22 #[va, vb] w fun e w' => ∃ v, e = .returned (.tuple #[v, .int .i64 0]) ∧ Mx w' v na cb (Gf.mm ca fa fb) ∧ Below w.heap.size w w' := by
  have oka := ha.ok
  have okb := hb.ok
  have H1 := fun w' hb' => refWrong_any va na _ fa w' (ha.below (w' := w') hb').arg
  have H2 := fun w' hb' => refWrong_any vb nb _ fb w' (hb.below (w' := w') hb').arg
  rw [oka] at H1
  rw [okb] at H2
  obtain ⟨d1, d2, d3, d4⟩ := ha.dim
  obtain ⟨f1, f2, f3, f4⟩ := hb.dim
  obtain ⟨ba, oa, pa, Ga, Oa, Ka, rfl, hma⟩ := ha.lies
  obtain ⟨bb, ob, pb, Gb, Ob, Kb, rfl, hmb⟩ := hb.lies
  have hbda := ha.bd
  have hbdb := hb.bd
  subst hab
  have h0a : (0 : Int) < (na : Int) := by omega
  have h0b : (0 : Int) < (ca : Int) := by omega
  obtain ⟨i0, hi, hh⟩ := Option.map_eq_some_iff.1 Try.infoRow
  simp only [Prod.mk.injEq] at hh
  obtain ⟨hz0, hz1, hz2⟩ := hh
  obtain ⟨i1, hi1, hh1⟩ := Option.map_eq_some_iff.1 Try.infoByte
  simp only [Prod.mk.injEq] at hh1
  obtain ⟨hy0, hy1, hy2⟩ := hh1
  clear oka okb ha hb
  go_enter Try.func22, Try.ntmps22
  go_wp2_with fail
  refine (H1 _ (Below.refl _ _)).mono ?_
  rintro e w1 ⟨rfl, b1⟩
  go_wp2_with fail
  refine (H2 _ b1).mono ?_
  rintro e w2 ⟨rfl, b2⟩
  have b2 := bt b1 b2
  have hta : w2.cell? ⟨ba, oa, none⟩ = some (.slice (some ⟨Ga 0, Oa 0, none⟩) ca (Ka 0)) := by simpa using (hma.below b2).top 0 (by omega)
  clear H1 H2 b1
  go_wp2_with fail
  clear hta
  go_loopw [8, 33] (fun v i wr => ∃ k : Nat, k ≤ na ∧ i = .int .i64 k ∧ (∃ G K, Acc wr w.heap.size v k cb G K (Gf.mm ca fa fb)) ∧ Below w.heap.size w wr) (fun _ i _ => na - (intOf i).toNat)
  case atStart => exact ⟨0, Nat.zero_le _, rfl, ⟨fun _ => 0, fun _ => 0, Acc.start w2 _ cb _ _ _⟩, b2⟩
  case round =>
    obtain ⟨i, hik, rfl, ⟨G, K, hA⟩, hbo⟩ := hrel
    clear b2
    by_cases hlt : i < na
    · have hlt' : (i : Int) < (na : Int) := by omega
      obtain ⟨wo, rfl⟩ : ∃ x, x = wr := ⟨wr, rfl⟩
      have htb : wo.cell? ⟨bb, ob, none⟩ = some (.slice (some ⟨Gb 0, Ob 0, none⟩) cb (Kb 0)) := by simpa using (hmb.below hbo).top 0 (by omega)
      go_wp2_with fail
      clear htb
      go_loopw [10, 40] (fun rv x wm => ∃ j : Nat, j ≤ cb ∧ x = .int .i64 j ∧ wm.ownsRow wo.heap.size 5 1 rv j (rowTo (Gf.mm ca fa fb i) j) ∧ Below wo.heap.size wo wm) (fun _ x _ => cb - (intOf x).toNat)
      case atStart => exact ⟨0, Nat.zero_le _, rfl, World.ownsRow_nil wo _ _ 1, Below.refl _ _⟩
      case round =>
        obtain ⟨j, hjk, rfl, hown, hbm⟩ := hrel
        by_cases hj : j < cb
        · have hj' : (j : Int) < (cb : Int) := by omega
          obtain ⟨wm, rfl⟩ : ∃ x, x = wr := ⟨wr, rfl⟩
          obtain ⟨rv, rfl⟩ : ∃ x, x = u10 := ⟨u10, rfl⟩
          go_wp2_with fail
          go_loopw [12, 45] (fun s x wi => ∃ l : Nat, l ≤ ca ∧ x = .int .i64 l ∧ s = .int .u8 (Gf.dot l (fa i) (fun t => fb t j) : Nat) ∧ wi.ownsRow wo.heap.size 5 1 rv j (rowTo (Gf.mm ca fa fb i) j) ∧ Below wo.heap.size wo wi) (fun _ x _ => ca - (intOf x).toNat)
          case atStart => exact ⟨0, Nat.zero_le _, rfl, rfl, hown, hbm⟩
          case round =>
            obtain ⟨l, hlk, rfl, rfl, howni, hbi⟩ := hrel
            clear hown hbm
            have hbw := bt hbo hbi
            by_cases hl : l < ca
            · have hl' : (l : Int) < (ca : Int) := by omega
              have hmar := hma.below hbw
              have hmbr := hmb.below hbw
              have r1 := hmar.top i hlt
              have r2 := hmar.row i hlt l hl
              have r3 := hmbr.top l hl
              have r4 := hmbr.row l hl j hj
              have hxor := xor_nat (Gf.dot_lt (hbda i) (fun t => fb t j) l) (Gf.mul_lt (fb l j) (hbda i l))
              have HS : Hid (Gf.dot l (fa i) (fun t => fb t j) ^^^ Gf.mul (fa i l) (fb l j) = Gf.dot (l + 1) (fa i) (fun t => fb t j)) := rfl
              clear hmar hmbr
              go_wp2_with fail
              go_quiet (first | (go_at_call 10; refine Calls.quiet_of_same (refMul_same _ _ _ (hbda i l) (hbdb l j))))
              go_wp2_with fail
              exact ⟨⟨l + 1, by omega, by go_num, val_int (by rw [HS.out]), howni, ⟨hbi.os, hbi.tape, hbi.output, hbi.size, hbi.block⟩⟩, by simp [intOf]; omega⟩
            · have e8 : l = ca := by omega
              subst e8
              have hd : Gf.dot l (fa i) (fun t => fb t j) = Gf.mm l fa fb i j := rfl
              rw [hd]
              have HO := owns_below howni ((Below.refl wr.heap.size wr).alloc (Nat.le_refl _) (.cells #[.int .u8 (Gf.mm l fa fb i j : Nat)] 5))
              have sX : wo.heap.size ≤ (wr.alloc (.cells #[.int .u8 (Gf.mm l fa fb i j : Nat)] 5)).heap.size := Nat.le_trans hbi.size (by simp)
              clear hd
              go_wp2_with (at_builtin; (refine wpList_append_own _ rfl (.tmp 66) (.tmp 68) 40 rfl wo.heap.size 5 i1 (.int .u8 0) 1 1 Try.underlying40 hi1 hy0 hy1 hy2 rfl (by decide) _ _ _ rfl HO ⟨wr.heap.size, 0, none⟩ 1 1 [.int .u8 (Gf.mm l fa fb i j : Nat)] rfl rfl cell_new (by intro u hu; simp at hu; subst hu; rfl) (by unfold maxLen; omega) (by omega) sX ?_); intro v1 w1 hown1 hgrow1 _)
              rw [rowTo_succ] at hown1
              have bb1 : Below wo.heap.size wo w1 := (hbi.alloc hbi.size (.cells #[.int .u8 (Gf.mm l fa fb i j : Nat)] 5)).grown hgrow1 sX (fun x hx => (HO.lt x hx).1)
              clear HO hgrow1 howni
              go_wp2_with fail
              exact ⟨⟨j + 1, by omega, by go_num, hown1, bb1⟩, by simp [intOf]; omega⟩
        · have e9 : j = cb := by omega
          subst e9
          obtain ⟨g, cap, rfl, hMg, _, hrow⟩ := rowC_owns hown f3
          have hrow' : RowC wr g 5 j (fun l => .int .u8 (Gf.mm ca fa fb i l : Nat)) := hrow.congr (fun l hl => by simp [rowTo, List.getD, hl])
          have AX := (hA.below hbm).below ((Below.refl wr.heap.size wr).alloc (Nat.le_refl _) (.cells #[.slice (some ⟨g, 0, none⟩) j cap] 40))
          have rX := hrow'.alloc (.cells #[.slice (some ⟨g, 0, none⟩) j cap] 40)
          have hbw := bt hbo hbm
          have sX : w.heap.size ≤ (wr.alloc (.cells #[.slice (some ⟨g, 0, none⟩) j cap] 40)).heap.size := Nat.le_trans hbw.size (by simp)
          clear hrow hrow' hown hA
          go_wp2_with (at_builtin; (refine wpList_append_own _ rfl (.tmp 71) (.tmp 73) 31 rfl w.heap.size 40 i0 (.slice none 0 0) 1 24 Try.underlying31 hi hz0 hz1 hz2 rfl (by decide) _ _ _ rfl AX.own ⟨wr.heap.size, 0, none⟩ 1 1 [.slice (some ⟨g, 0, none⟩) j cap] rfl rfl cell_new (by intro u hu; simp at hu; subst hu; rfl) (by unfold maxLen; omega) (by omega) sX ?_); intro v1 w1 hown1 hgrow1 _)
          have A1 := AX.step ⟨Nat.le_trans hbo.size hMg, rX⟩ hown1 hgrow1
          have b1 : Below w.heap.size w w1 := (hbw.alloc hbw.size _).grown hgrow1 sX (fun x hx => (AX.own.lt x hx).1)
          clear hown1 hgrow1 AX rX
          go_wp2_with fail
          exact ⟨⟨i + 1, by omega, by go_num, ⟨_, _, A1⟩, b1⟩, by simp [intOf]; omega⟩
    · have e8 : i = na := by omega
      subst e8
      go_wp2_with fail
      go_ret2
      exact ⟨_, rfl, hA.mx (Gf.mm_bd hbda ca fb) ⟨d1, d2, f3, f4⟩, hbo⟩

end Go.Proofs.Ytbidimaljeblgaa
