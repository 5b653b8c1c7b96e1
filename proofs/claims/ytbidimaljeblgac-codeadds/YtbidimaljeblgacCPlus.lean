/-
  What the statements' own sum of two lists does.
-/
import Derived.Test.YtbidimaljeblgacCSum
namespace Go.Proofs.Ytbidimaljeblgac
open Go.RowKit

/-- Two lists, byte by byte. -/
def plusF (fa fb : Nat → Nat → Nat) (i k : Nat) : Nat := fa i k ^^^ fb i k
theorem plusF_bd {fa fb : Nat → Nat → Nat} (ha : Gf.Bd2 fa) (hb : Gf.Bd2 fb) : Gf.Bd2 (plusF fa fb) := fun i k => Gf.xor_lt (ha i k) (hb i k)

theorem rowC_step {w : World} {g : Nat} {t : TypeId} {n k : Nat} {f h : Nat → Nat} (hr : RowC w g t n (fun j => .int .u8 (upto k h f j : Nat))) :
    RowC (w.setCell ⟨g, k, none⟩ (.int .u8 (h k : Nat))) g t n (fun j => .int .u8 (upto (k + 1) h f j : Nat)) :=
  (hr.set k _).congr (fun j _ => by
    rw [upto_step]
    by_cases e : j = k
    · rw [if_pos e, if_pos e]
    · rw [if_neg e, if_neg e])

set_option maxHeartbeats 2000000 in
theorem plus_any (va vb : Value) (n : Nat) (La Lb : Nat → Nat) (fa fb : Nat → Nat → Nat) (w : World) (ha : Arg w va n La fa) (hb : Arg w vb n Lb fb) (hn : n * 24 ≤ reachBytes) (hl : ∀ i, i < n → La i ≤ reachBytes) :
    Calls Try.prog 6 #[va, vb] w fun e w' => ∃ v m, e = .returned v ∧ ((m = n ∧ ∀ i, i < n → La i = Lb i) ∨ (m = 0 ∧ ¬ ∀ i, i < n → La i = Lb i)) ∧ Arg w' v m La (plusF fa fb) ∧ Below w.heap.size w w' := by
  have bda := ha.bd
  have bdb := hb.bd
  have hbd := plusF_bd bda bdb
  obtain ⟨A, pa, R, C, rfl, hr⟩ := ha.lies
  obtain ⟨A', pb, R', C', rfl, hr'⟩ := hb.lies
  have HR : Hid (∀ r, r < n → ∃ b o, A = some ⟨b, o, none⟩ ∧ w.cell? ⟨b, o + r, none⟩ = some (.slice (R r) (La r) (C r)) ∧ ∀ k, k < La r → ∃ b' o', R r = some ⟨b', o', none⟩ ∧ w.cell? ⟨b', o' + k, none⟩ = some (.int .u8 (fa r k : Nat))) := hr
  have HR' : Hid (∀ r, r < n → ∃ b o, A' = some ⟨b, o, none⟩ ∧ w.cell? ⟨b, o + r, none⟩ = some (.slice (R' r) (Lb r) (C' r)) ∧ ∀ k, k < Lb r → ∃ b' o', R' r = some ⟨b', o', none⟩ ∧ w.cell? ⟨b', o' + k, none⟩ = some (.int .u8 (fb r k : Nat))) := hr'
  have hre := reachBytes_lt
  obtain ⟨i0, hi, hh⟩ := Option.map_eq_some_iff.1 Try.infoRow
  simp only [Prod.mk.injEq] at hh
  obtain ⟨hz0, hz1, hz2⟩ := hh
  clear ha hb hr hr'
  go_enter Try.func6, Try.ntmps6
  go_wp2_with fail
  go_loopw [5, 11] (fun v y wr => ∃ k : Nat, k ≤ n ∧ y = .int .i64 k ∧ Hid (∀ i, i < k → La i = Lb i) ∧ (∃ G K, Acr wr w.heap.size v k G K La (plusF fa fb)) ∧ Below w.heap.size w wr) (fun _ y _ => n - (intOf y).toNat)
  case atStart => exact ⟨0, Nat.zero_le _, rfl, fun i hi => absurd hi (Nat.not_lt_zero i), ⟨fun _ => 0, fun _ => 0, World.ownsRow_nil _ _ _ 1, fun i hi => absurd hi (Nat.not_lt_zero i)⟩, Below.refl _ _⟩
  case round =>
    obtain ⟨k, hk, rfl, HS, ⟨G, K, hA⟩, hb⟩ := hrel
    obtain ⟨wo, rfl⟩ : ∃ x, x = wr := ⟨wr, rfl⟩
    by_cases hlt : k < n
    · have hlt' : (k : Int) < (n : Int) := by omega
      obtain ⟨b1, o1, hA1, ca, ra⟩ := HR.out k hlt
      subst hA1
      obtain ⟨b2, o2, hA2, cb, rb⟩ := HR'.out k hlt
      subst hA2
      have ca1 := (hb.cell (p := ⟨b1, o1 + k, none⟩) (World.block_lt_of_cell? _ _ ca)).trans ca
      have cb1 := (hb.cell (p := ⟨b2, o2 + k, none⟩) (World.block_lt_of_cell? _ _ cb)).trans cb
      have hlk := hl k hlt
      by_cases hy : La k = Lb k
      · have HY : Hid (La k = Lb k) := hy
        rw [← hy] at cb cb1 rb
        clear hy
        obtain ⟨g, cap1, w1, hrun, hg, hrow, b3⟩ := copy_row wo.drew (R k) (La k) (C k) (fa k) hlk (fun j hj => by
          obtain ⟨b', o', e1, e2⟩ := ra j hj
          exact ⟨b', o', e1, (hb.cell (p := ⟨b', o' + j, none⟩) (World.block_lt_of_cell? _ _ e2)).trans e2⟩)
        have hg : wo.heap.size ≤ g := hg
        have b3 : Below wo.heap.size wo w1 := ⟨b3.os, b3.tape, b3.output, b3.size, b3.block⟩
        have l1 := World.block_lt_of_cell? _ _ ca1
        have hA1 := hA.below b3
        have hb1 := bt hb b3
        have HRB : Hid (∀ j, j < La k → ∃ b' o', R' k = some ⟨b', o', none⟩ ∧ w.cell? ⟨b', o' + j, none⟩ = some (.int .u8 (fb k j : Nat))) := rb
        clear ra rb
        go_wp2_with fail
        go_region
        go_wp2_with (at_builtin; refine Lib.wpList_append_run _ rfl (.tmp 25) (.tmp 29) 24 24 rfl _ _ rfl rfl _ _ hrun ?_)
        clear hrun ca ca1 cb1 l1 hA1
        go_loopw [33] (fun z wi => ∃ j : Nat, j ≤ La k ∧ z = .int .i64 j ∧ RowC wi g 5 (La k) (fun x => .int .u8 (upto j (plusF fa fb k) (fa k) x : Nat)) ∧ Off (fun x => x = g) w1 wi) (fun z _ => La k - (intOf z).toNat)
        case atStart => exact ⟨0, Nat.zero_le _, rfl, hrow.congr (fun j _ => by rw [show upto 0 (plusF fa fb k) (fa k) j = fa k j from if_neg (Nat.not_lt_zero _)]), Off.refl _ _⟩
        case round =>
          clear hrow
          obtain ⟨j, hj, rfl, hR1, ho⟩ := hrel
          have hbi : Below w.heap.size w wr := hb1.trans (ho.below hb1.size (fun x hx => by rw [hx]; exact Nat.le_trans hb.size hg))
          by_cases hjl : j < La k
          · have hj' : (j : Int) < (La k : Int) := by omega
            obtain ⟨b4, o4, hR4, c4⟩ := HRB.out j hjl
            have cb2 := (hbi.cell (p := ⟨b2, o2 + k, none⟩) (World.block_lt_of_cell? _ _ cb)).trans cb
            rw [hR4] at cb2
            have c4' := (hbi.cell (p := ⟨b4, o4 + j, none⟩) (World.block_lt_of_cell? _ _ c4)).trans c4
            have c1 := hR1.cell hjl
            rw [upto_here] at c1
            have z1 := hR1.frozen j
            have hxor := xor_nat (bda k j) (bdb k j)
            have HP := rowC_step (h := plusF fa fb k) hR1
            have hoP := ho.set (p := ⟨g, j, none⟩) rfl (.int .u8 ((plusF fa fb k j : Nat) : Int))
            clear hR1 c4 hR4 cb hA
            go_wp2_with fail
            go_region
            go_wp2_with fail
            exact ⟨⟨j + 1, by omega, by go_num, HP.drew, hoP.drew⟩, by simp [intOf]; omega⟩
          · have ej : j = La k := by omega
            subst ej
            have hRF : RowC wr g 5 (La k) (fun x => .int .u8 (plusF fa fb k x : Nat)) := hR1.congr (fun x hx => by rw [show upto (La k) (plusF fa fb k) (fa k) x = plusF fa fb k x from if_pos hx])
            have hAr := hA.off ((Off.of_below b3).trans ho) hg
            have hbX := (Below.refl wr.heap.size wr).alloc (Nat.le_refl _) (.cells #[.slice (some ⟨g, 0, none⟩) (La k) cap1] 24)
            have AX := hAr.below hbX
            have rX := hRF.alloc (.cells #[.slice (some ⟨g, 0, none⟩) (La k) cap1] 24)
            have bX := bt hbi hbX
            clear hR1 hRF hAr cb hA
            go_wp2_with (at_builtin; refine wpList_append_own _ rfl (.tmp 52) (.tmp 54) 22 rfl w.heap.size 24 i0 (.slice none 0 0) 1 24 Try.underlying22 hi hz0 hz1 hz2 rfl (by decide) _ _ _ rfl AX.own ⟨wr.heap.size, 0, none⟩ 1 1 [.slice (some ⟨g, 0, none⟩) (La k) cap1] rfl rfl cell_one (by intro u hu; simp at hu; subst hu; rfl) (by unfold maxLen; omega) (by omega) bX.size ?_; intro v5 w5 hown5 hgrow5 _)
            have A5 := AX.step rX hown5 hgrow5
            have b5 : Below w.heap.size w w5 := bX.grown hgrow5 bX.size (fun x hx => (AX.own.lt x hx).1)
            clear hown5 hgrow5 AX rX bX hbX hbi
            go_wp2_with fail
            refine ⟨⟨k + 1, by omega, by go_num, fun i hi => ?_, ⟨_, _, A5⟩, b5⟩, by simp [intOf]; omega⟩
            by_cases e : i = k
            · rw [e]; exact HY.out
            · exact HS.out i (by omega)
      · have hy' : ((La k : Int) == (Lb k : Int)) = false := by rw [beq_eq_false_iff_ne]; omega
        have HY : Hid (¬ ∀ i, i < n → La i = Lb i) := fun h => hy (h k hlt)
        clear hy
        go_wp2_with fail
        go_region
        go_wp2_with fail
        go_ret
        exact ⟨_, 0, rfl, Or.inr ⟨rfl, HY.out⟩, ⟨hbd, none, 0, fun _ => none, fun _ => 0, rfl, fun r hr => absurd hr (Nat.not_lt_zero r)⟩, hb.drew⟩
    · have e8 : k = n := by omega
      subst e8
      have HARG := hA.arg hbd
      go_wp2_with fail
      go_ret
      exact ⟨_, k, rfl, Or.inl ⟨rfl, HS.out⟩, HARG, hb⟩

end Go.Proofs.Ytbidimaljeblgac
