/-
  Texts of the proof, joined: JParse.
-/
import Derived.Test.YtmcaejooaaahdaaGreatZ61
import Derived.Test.YtmcaejooaaahdaaGreatZ39
namespace Go.Proofs.YtmcaejooaaahdaaGreat
open Go.RowKit

theorem row_shape8 {w : World} {N : Nat} {t : TypeId} {z : Nat} {v : Value} {n : Nat} {xs : List Value} (h : w.ownsRow N t z v n xs) : ∃ A C, v = .slice A n C ∧ n ≤ C ∧ C ≤ maxLen ∧ (1 ≤ n → ∃ g, A = some ⟨g, 0, none⟩) := by
  rcases h.2 with ⟨rfl, h0⟩ | ⟨g, cap, cur, rfl, _, _, h1, h2, _⟩
  · subst h0
    exact ⟨none, 0, rfl, Nat.le_refl _, Nat.zero_le _, fun h => absurd h (by decide)⟩
  · exact ⟨_, cap, rfl, h1, h2, fun _ => ⟨g, rfl⟩⟩
theorem BBuf.batsM {w : World} {N : Nat} {v : Value} {l : List (Int × Value)} {bs : List Evt.Bat} (h : BBuf w N v l) (hl : bs.length = l.length) (he : ∀ (i : Nat) (x : Int × Value) (b : Evt.Bat), l[i]? = some x → bs[i]? = some b → b.cmd = x.1 ∧ Evs w x.2 b.evs ∧ ∀ g, x.2.ownBlock = some g → N ≤ g) : BatsM w N v bs := by
  obtain ⟨A, cap, rfl, h1, h2, h3⟩ := row_shape8 h
  refine ⟨A, cap, by rw [hl], by rw [hl]; exact h1, h2, fun i b hb => ?_⟩
  obtain ⟨x, hx⟩ : ∃ x, l[i]? = some x := by
    have : i < l.length := by
      rw [← hl]
      exact (List.getElem?_eq_some_iff.1 hb).1
    exact ⟨l[i], List.getElem?_eq_getElem this⟩
  obtain ⟨g, rfl⟩ := h3 (by have := (List.getElem?_eq_some_iff.1 hx).1; omega)
  obtain ⟨e1, e2, e3⟩ := he i x b hx hb
  have hc : ∀ j u, (batCells x)[j]? = some u → w.cell? ⟨g, i * 2 + j, none⟩ = some u := fun j u hj => by
    have hjl : j < 2 := (List.getElem?_eq_some_iff.1 hj).1
    have := h.cells rfl (i * 2 + j) u ((flat_get batCells 2 l (fun _ _ => rfl) i j hjl x hx).trans hj)
    rw [WideShapes.add_plain, Nat.zero_add] at this
    exact this
  refine ⟨g, 0, rfl, (h.lt g rfl).1, x.2, ?_, ?_, e2, e3⟩
  · rw [Nat.zero_add, e1]
    exact hc 0 _ rfl
  · rw [Nat.zero_add]
    exact hc 1 _ rfl
set_option maxRecDepth 20000 in
set_option maxHeartbeats 4000000 in
theorem parseJ_some (b o cap N : Nat) (g : Nat → Nat) (w : World) (hy : Byts w (.slice (some ⟨b, o, none⟩) N cap) N g) (hN1 : 1 ≤ N) :
    Calls Tryz.prog 65 #[.slice (some ⟨b, o, none⟩) N cap] w fun e w' => ∃ v', e = .returned (.tuple #[v', .int .i64 (Evt.parseE (bl g N) : Nat)]) ∧ BatsM w' w.heap.size v' (Evt.parse (bl g N)) ∧ Below w.heap.size w w' := by
  obtain ⟨b', o', cap', hv, hcap, hcm, hc⟩ := hy.some hN1
  cases hv
  have hg := hy.bd
  have HN := fun s A ok w' (hs : s ≤ 3) (hp : PS w w' (.slice (some ⟨b, o, none⟩) N cap) N A ok) => num_some s b o cap N A ok g w w' hs hy hc hp
  have eg := Tryz.enters_num
  go_enter Tryz.func65, Tryz.ntmps65
  go_wp2_with fail
  have P0 : PS w (((w.alloc (.cells #[.slice (some ⟨b, o, none⟩) N cap] 59)).alloc (.cells #[.int .i64 0] 3)).alloc (.cells #[.bool true] 4)) (.slice (some ⟨b, o, none⟩) N cap) N 0 true := by
    refine ⟨by go_simp, by go_simp, by go_simp, by go_simp, by go_simp, ?_, Nat.zero_le _⟩
    have h1 : Below w.heap.size w (w.alloc (.cells #[.slice (some ⟨b, o, none⟩) N cap] 59)) := (Below.refl _ _).alloc (Nat.le_refl _) _
    have h2 := h1.alloc h1.size (.cells #[.int .i64 0] 3)
    exact h2.alloc h2.size _
  refine (HN 1 0 true _ (by decide) P0).mono ?_
  clear P0
  rintro e w1 (⟨_, rfl, P1, _⟩ | ⟨hlt, _⟩)
  case inr => omega
  have e1 : numV g 0 1 = g 0 := by
    show 256 * 0 + g 0 = _
    rw [Nat.mul_zero, Nat.zero_add]
  rw [e1]
  clear e1
  have hg0 := hg 0
  have HG0 : Hid (Evt.num 1 0 (bl g N) = some (g 0, (bl g N).drop 1)) := by
    have := num1_yes g (A := 0) (N := N) (by omega)
    rw [List.drop_zero, show numV g 0 1 = g 0 from by show 256 * 0 + g 0 = _; rw [Nat.mul_zero, Nat.zero_add]] at this
    exact this
  generalize g 0 = n at hg0 HG0
  go_wp2_with fail
  go_loopw [7, 9] (fun vo x wr => ∃ i : Nat, x = .int .i64 i ∧ OS w wr (.slice (some ⟨b, o, none⟩) N cap) g N n vo i) (fun _ x _ => n - (intOf x).toNat)
  case atStart => exact ⟨0, rfl, [], 1, true, BBuf.nil _ _, (fun t ht => by cases ht), P1, Nat.zero_le _, rfl, (fun _ => by omega), Or.inl ⟨rfl, by cases h : Evt.getBs n ((bl g N).drop 1) <;> simp [joinB]⟩⟩
  case round =>
    obtain ⟨i, rfl, L, A, ok, BB, BE, P2, hin, hLi, hab, hst⟩ := hrel
    have c0 := P2.at_
    have c1 := P2.b_
    have c2 := P2.ok_
    cases ok with
    | false =>
      have HZ : Hid (Evt.parseE (bl g N) = 2 ∧ Evt.parse (bl g N) = []) := getL_bad HG0.out (by
        rcases hst with ⟨h, _⟩ | ⟨_, h⟩
        · cases h
        · exact h)
      have bz := P2.bel
      clear hst BB BE P2 HN hLi hc hy
      by_cases hi : i < n
      · have hi' : (i : Int) < (n : Int) := by omega
        go_wp2_with fail
        go_ret2
        exact ⟨_, by rw [HZ.out.1]; rfl, by rw [HZ.out.2]; exact batsM_none _ _, bz⟩
      · have hi' : ¬ (i : Int) < (n : Int) := by omega
        go_wp2_with fail
        go_ret2
        exact ⟨_, by rw [HZ.out.1]; rfl, by rw [HZ.out.2]; exact batsM_none _ _, bz⟩
    | true =>
      have hab1 := hab rfl
      clear hab
      by_cases hi : i < n
      · have hi' : (i : Int) < (n : Int) := by omega
        have hGB : Evt.getBs n ((bl g N).drop 1) = joinB (L.map batOf) (Evt.getBs (n - i) ((bl g N).drop A)) := by
          rcases hst with ⟨_, h⟩ | ⟨h, _⟩
          · exact h
          · cases h
        obtain ⟨wo, hwo⟩ : ∃ x, x = wr := ⟨wr, rfl⟩
        rw [← hwo] at c0 c1 c2 BB BE P2 ⊢
        clear hst hwo
        go_upto_region 8 with fail
        go_cut [10] from 21 to 76 (fun x10 wc => ∃ (p c A1 : Nat) (ok1 : Bool), x10 = .pointer (some ⟨p, 0, none⟩) ∧ wo.heap.size ≤ p ∧ PS w wc (.slice (some ⟨b, o, none⟩) N cap) N A1 ok1 ∧ VarF wc p (.int .i64 (c : Nat)) (.slice none 0 0) ∧ Off (fun k => k = w.heap.size + 1 ∨ k = w.heap.size + 1 + 1) wo wc ∧
          ((ok1 = true ∧ A1 = A + 3 ∧ A + 3 ≤ N ∧ c = numV g A 3) ∨ (ok1 = false ∧ A1 = N ∧ N < A + 3)))
        case first =>
          go_wp2_with fail
          refine (HN 3 A true _ (by decide) P2).mono ?_
          rintro e1 wN (⟨hA3, rfl, P3, O3⟩ | ⟨hA3, rfl, P3, O3⟩)
          · have hz := P2.bel.size
            have hz3 : w.heap.size + 3 ≤ wN.heap.size := P3.room
            go_wp2_with fail
            go_meet
            exact ⟨wN.heap.size, numV g A 3, A + 3, true, rfl, O3.size, P3.keep ((Below.refl _ _).alloc hz3 _), varF_new wN _ _ _, O3.trans (Off.of_below ((Below.refl _ _).alloc (Nat.le_refl _) _)), Or.inl ⟨rfl, rfl, hA3, rfl⟩⟩
          · have hz3 : w.heap.size + 3 ≤ wN.heap.size := P3.room
            go_wp2_with fail
            go_meet
            exact ⟨wN.heap.size, 0, N, false, rfl, O3.size, P3.keep ((Below.refl _ _).alloc hz3 _), varF_new wN _ _ _, O3.trans (Off.of_below ((Below.refl _ _).alloc (Nat.le_refl _) _)), Or.inr ⟨rfl, rfl, hA3⟩⟩
        case rest =>
        obtain ⟨p, c, A1, ok1, rfl, hp, P3, V3, O3, hs3⟩ := hcut
        go_upto_region 9 with fail
        go_cut [11] from 21 to 76 (fun x11 wc => ∃ (m A2 : Nat) (ok2 : Bool), x11 = .int .i64 (m : Nat) ∧ m < 256 ∧ PS w wc (.slice (some ⟨b, o, none⟩) N cap) N A2 ok2 ∧ VarF wc p (.int .i64 (c : Nat)) (.slice none 0 0) ∧ Off (fun k => k = w.heap.size + 1 ∨ k = w.heap.size + 1 + 1) wo wc ∧
          ((ok2 = true ∧ A2 = A + 4 ∧ A + 4 ≤ N ∧ c = numV g A 3 ∧ m = g (A + 3)) ∨ (ok2 = false ∧ A2 = N ∧ m = 0 ∧ N < A + 4)))
        case first =>
          go_wp2_with fail
          refine (HN 1 A1 ok1 _ (by decide) P3).mono ?_
          rintro e1 wN (⟨hA4, rfl, P4, O4⟩ | ⟨hA4, rfl, P4, O4⟩)
          · have hpz : ¬ (p = w.heap.size + 1 ∨ p = w.heap.size + 1 + 1) := by have := P2.room; omega
            have hv := (numV_lt hg A1 1 (by decide)).2 (by decide)
            have hv2 : numV g A1 1 = g A1 := by
              show 256 * 0 + g A1 = _
              rw [Nat.mul_zero, Nat.zero_add]
            have hga := hg A1
            go_wp2_with fail
            go_meet
            refine ⟨g A1, A1 + 1, ok1, rfl, hga, P4, V3.off O4 hpz, O3.trans O4, ?_⟩
            rcases hs3 with ⟨h1, h2, h3, h4⟩ | ⟨h1, h2, h3⟩
            · exact Or.inl ⟨h1, by omega, by omega, h4, by rw [h2]⟩
            · omega
          · have hpz : ¬ (p = w.heap.size + 1 ∨ p = w.heap.size + 1 + 1) := by have := P2.room; omega
            go_wp2_with fail
            go_meet
            exact ⟨0, N, false, rfl, by decide, P4, V3.off O4 hpz, O3.trans O4, Or.inr ⟨rfl, rfl, rfl, by rcases hs3 with ⟨_, h2, _⟩ | ⟨_, h2, h3⟩ <;> omega⟩⟩
        case rest =>
        obtain ⟨m, A2, ok2, rfl, hm256, P4, V4, O4, hs4⟩ := hcut
        clear P3 V3 O3 hs3
        go_upto_block 2 with fail
        go_cut [12, 13, 14] from 21 to 76 (fun x12 x13 x14 wc => ∃ (A3 : Nat) (ok3 : Bool) (ve : Value) (es : List EvC), PS w wc (.slice (some ⟨b, o, none⟩) N cap) N A3 ok3 ∧ VarF wc p (.int .i64 (c : Nat)) ve ∧ EBuf wc (p + 1) ve es ∧ Off (fun k => k = w.heap.size + 1 ∨ k = w.heap.size + 1 + 1) wo wc ∧ es.length ≤ 256 ∧ (ok3 = true → A3 ≤ A + 66304) ∧
          ((ok3 = true ∧ Evt.getB ((bl g N).drop A) = some (⟨(c : Nat), es.map evOf⟩, (bl g N).drop A3)) ∨ (ok3 = false ∧ Evt.getB ((bl g N).drop A) = none)))
        case first =>
          go_wp2_with fail
          go_loopw [12] (fun x wi => ∃ (k A3 : Nat) (ok3 : Bool) (ve : Value) (es : List EvC), x = .int .i64 k ∧ k ≤ m ∧ PS w wi (.slice (some ⟨b, o, none⟩) N cap) N A3 ok3 ∧ VarF wi p (.int .i64 (c : Nat)) ve ∧ EBuf wi (p + 1) ve es ∧ es.length ≤ k ∧ Off (fun k => k = w.heap.size + 1 ∨ k = w.heap.size + 1 + 1) wo wi ∧ (ok3 = true → A3 ≤ A + 4 + k * 260) ∧
            ((ok3 = true ∧ ok2 = true ∧ Evt.getEs m ((bl g N).drop A2) = joinE (es.map evOf) (Evt.getEs (m - k) ((bl g N).drop A3))) ∨ (ok3 = false ∧ (ok2 = true → Evt.getEs m ((bl g N).drop A2) = none)))) (fun x _ => m - (intOf x).toNat)
          case atStart =>
            refine ⟨0, A2, ok2, .slice none 0 0, [], rfl, Nat.zero_le _, P4, V4, EBuf.nil _ _, Nat.le_refl _, O4, ?_, ?_⟩
            · intro h
              rcases hs4 with ⟨_, h2, _⟩ | ⟨h1, _⟩
              · omega
              · rw [h] at h1
                cases h1
            · cases ok2 with
              | true => exact Or.inl ⟨rfl, rfl, by rw [Nat.sub_zero]; cases h : Evt.getEs m ((bl g N).drop A2) <;> simp [joinE]⟩
              | false => exact Or.inr ⟨rfl, fun h => by cases h⟩
          case round =>
            obtain ⟨k, A3, ok3, ve, es, rfl, hkm, P5, V5, EB, hel, O5, hab3, hs5⟩ := hrel
            have d0 := P5.at_
            have d1 := P5.b_
            have d2 := P5.ok_
            by_cases hk : k < m
            · have hk' : (k : Int) < (m : Int) := by omega
              cases ok3 with
              | true =>
                have hab4 := hab3 rfl
                clear hab3
                have hq5 : ok2 = true ∧ Evt.getEs m ((bl g N).drop A2) = joinE (es.map evOf) (Evt.getEs (m - k) ((bl g N).drop A3)) := by
                  rcases hs5 with ⟨_, h⟩ | ⟨h, _⟩
                  · exact h
                  · cases h
                clear hs5
                obtain ⟨wi, hwi⟩ : ∃ x, x = wr := ⟨wr, rfl⟩
                rw [← hwi] at d0 d1 d2 P5 V5 EB O5 ⊢
                clear hwi
                have hroom := P5.room
                have hpi : p < wi.heap.size := World.block_lt_of_cell? _ _ V5.c0
                have hpw := P2.room
                have hpz : ¬ (p = w.heap.size + 1 ∨ p = w.heap.size + 1 + 1) := by omega
                have bE : Below wi.heap.size wi (wi.alloc (.cells #[.string ByteArray.empty, .int .i64 0, .int .i64 0] 83)) := (Below.refl _ _).alloc (Nat.le_refl _) _
                have G5 := varG_new wi 83 (.string ByteArray.empty) (.int .i64 0) (.int .i64 0)
                have P5e := P5.keep (bE.mono hroom)
                have V5e := V5.below bE
                have EBe := EB.below bE
                have O5e := O5.trans (Off.of_below bE)
                go_upto_region 14 with fail
                go_cut [14] from 34 to 72 (fun x14 wc => ∃ (lg A4 : Nat) (ok4 : Bool), x14 = .int .i64 (lg : Nat) ∧ PS w wc (.slice (some ⟨b, o, none⟩) N cap) N A4 ok4 ∧ VarG wc wi.heap.size (.string ByteArray.empty) (.int .i64 0) (.int .i64 0) ∧ VarF wc p (.int .i64 (c : Nat)) ve ∧ EBuf wc (p + 1) ve es ∧ Off (fun k => k = w.heap.size + 1 ∨ k = w.heap.size + 1 + 1) wo wc ∧ wi.heap.size < wc.heap.size ∧
                  ((ok4 = true ∧ A4 = A3 + 1 ∧ lg = g A3 ∧ A3 + 1 ≤ N) ∨ (ok4 = false ∧ A4 = N ∧ lg = 0 ∧ N ≤ A3)))
                case first =>
                  go_wp2_with fail
                  refine (HN 1 A3 true _ (by decide) P5e).mono ?_
                  rintro e1 wN (⟨hA6, rfl, P6, O6⟩ | ⟨hA6, rfl, P6, O6⟩)
                  · have hv2 : numV g A3 1 = g A3 := by
                      show 256 * 0 + g A3 = _
                      rw [Nat.mul_zero, Nat.zero_add]
                    go_wp2_with fail
                    go_meet
                    refine ⟨g A3, A3 + 1, true, rfl, P6, G5.off O6 (by omega), V5e.off O6 hpz, EBe.off O6 (fun y hy => by have := (EBe.1.lt y hy).1; omega), O5e.trans O6, ?_, Or.inl ⟨rfl, rfl, rfl, hA6⟩⟩
                    have := O6.size
                    have := World.block_lt_of_cell? _ _ G5.c0
                    exact Nat.lt_of_lt_of_le this O6.size
                  · go_wp2_with fail
                    go_meet
                    refine ⟨0, N, false, rfl, P6, G5.off O6 (by omega), V5e.off O6 hpz, EBe.off O6 (fun y hy => by have := (EBe.1.lt y hy).1; omega), O5e.trans O6, ?_, Or.inr ⟨rfl, rfl, rfl, by omega⟩⟩
                    exact Nat.lt_of_lt_of_le (World.block_lt_of_cell? _ _ G5.c0) O6.size
                case rest =>
                obtain ⟨lg, A4, ok4, rfl, P6, G6, V6, EB6, O6, hs6w, hs6⟩ := hcut
                have hEBi := EB.1.lt
                have hwoi := O5.size
                clear P5e V5e EBe O5e G5 P5 V5 EB d0 d1 d2 bE
                have d0 := P6.at_
                have d1 := P6.b_
                have d2 := P6.ok_
                have f0 := P6.fa
                have f1 := P6.fo
                have hA4 := P6.le
                have hlb : lg < 256 := by
                  rcases hs6 with ⟨_, _, h3, _⟩ | ⟨_, _, h3, _⟩
                  · rw [h3]; exact hg A3
                  · omega
                have hN9 := hy.len
                have hsum : A4 + lg ≤ 9223372036854775807 := by
                  rcases hs6 with ⟨_, h3, _⟩ | ⟨_, h3, h4, _⟩ <;> omega
                have hEBlt : ∀ y, ve.ownBlock = some y → p + 1 ≤ y ∧ y < wi.heap.size := hEBi
                by_cases hlong : N < A4 + lg
                · have hl' : (N : Int) < (A4 : Int) + (lg : Int) := by omega
                  have HX : Hid (Evt.getB ((bl g N).drop A) = none) := inner_bad hs4 (fun _ => by
                    rw [hq5.2, show m - k = (m - (k + 1)) + 1 by omega]
                    exact getEs_fail (getE_none (by rcases hs6 with ⟨_, h2, h3, h4⟩ | ⟨_, h2, h3, h4⟩ <;> omega)) _)
                  go_wp2_with fail
                  go_meet
                  exact ⟨A4, false, ve, es, P6.setNo, V6.off (off_set _ _ _) (show ¬ p = w.heap.size + 1 + 1 by omega), EB6.off (off_set _ _ _) (fun y hy => by have := (EB6.1.lt y hy).1; show ¬ y = w.heap.size + 1 + 1; omega), O6.set (p := ⟨w.heap.size + 1 + 1, 0, none⟩) (Or.inr rfl) _, by omega, (fun h => by cases h), Or.inr ⟨rfl, HX.out⟩⟩
                · have hl' : ¬ (N : Int) < (A4 : Int) + (lg : Int) := by omega
                  have hf4 : Bd (fun k => g (A4 + k)) := fun k => hg _
                  have hcm' : (A4 : Int) + (lg : Int) ≤ (cap : Int) := by omega
                  go_upto_region 17 with fail
                  go_cut [] from 34 to 72 (fun wc => PS w wc (.slice (some ⟨b, o, none⟩) N cap) N A4 ok4 ∧ VarG wc wi.heap.size (.string (strB (fun k => g (A4 + k)) lg)) (.int .i64 0) (.int .i64 0) ∧ VarF wc p (.int .i64 (c : Nat)) ve ∧ EBuf wc (p + 1) ve es ∧ Off (fun k => k = w.heap.size + 1 ∨ k = w.heap.size + 1 + 1) wo wc ∧ wi.heap.size < wc.heap.size)
                  case first =>
                    obtain ⟨g0, g1, g2, gf⟩ := G6
                    have gf0 := gf 0
                    have HR : Hid (∀ x, PS w (wc.setCell ⟨wi.heap.size, 0, none⟩ x) (.slice (some ⟨b, o, none⟩) N cap) N A4 ok4 ∧ VarG (wc.setCell ⟨wi.heap.size, 0, none⟩ x) wi.heap.size x (.int .i64 0) (.int .i64 0) ∧ VarF (wc.setCell ⟨wi.heap.size, 0, none⟩ x) p (.int .i64 (c : Nat)) ve ∧ EBuf (wc.setCell ⟨wi.heap.size, 0, none⟩ x) (p + 1) ve es ∧ Off (fun k => k = w.heap.size + 1 ∨ k = w.heap.size + 1 + 1) wo (wc.setCell ⟨wi.heap.size, 0, none⟩ x) ∧ wi.heap.size < (wc.setCell ⟨wi.heap.size, 0, none⟩ x).heap.size) := fun x =>
                      ⟨P6.keep ((Below.refl _ _).setCell (show w.heap.size + 3 ≤ wi.heap.size by omega) _), VarG.set0 ⟨g0, g1, g2, gf⟩ x, V6.off (off_set _ _ _) (show ¬ p = wi.heap.size by omega), EB6.off (off_set _ _ _) (fun y hy => by have := hEBlt y hy; show ¬ y = wi.heap.size; omega), O6.past (off_set _ _ _) (fun y hy hlt => by have h1 : y = wi.heap.size := hy; have h2 := hwoi; omega), by rw [Deep.nblk_setCell]; exact hs6w⟩
                    by_cases hcA : cap = A4
                    · obtain rfl : lg = 0 := by omega
                      subst hcA
                      have hq := fun A C w => conv_zero w A C
                      have HS : Hid (strB (fun k => g (cap + k)) 0 = ByteArray.empty) := rfl
                      go_wp2_with fail
                      go_meet
                      rw [HS.out]
                      exact HR.out _
                    · have hq := conv_any (w := wc) (v := .slice (some ⟨b, o + A4, none⟩) lg (cap - A4)) (n := lg) (f := fun k => g (A4 + k)) ⟨hf4, some ⟨b, o + A4, none⟩, cap - A4, rfl, by omega, by unfold maxLen; omega, fun k hk => ⟨b, o + A4, rfl, by
                        have ht := hc (A4 + k) (by omega)
                        rw [show o + A4 + k = o + (A4 + k) by omega]
                        exact (P6.bel.cell (p := ⟨b, o + (A4 + k), none⟩) (World.block_lt_of_cell? _ _ ht)).trans ht⟩⟩
                      obtain ⟨S, hS⟩ : ∃ S, S = strB (fun k => g (A4 + k)) lg := ⟨_, rfl⟩
                      rw [← hS] at hq
                      have HS : Hid (S = strB (fun k => g (A4 + k)) lg) := hS
                      clear hS
                      go_wp2_with fail
                      go_meet
                      rw [← HS.out]
                      exact HR.out _
                  case rest =>
                  obtain ⟨P7, G7, V7, EB7, O7, hs7w⟩ := hcut
                  clear P6 G6 V6 EB6 O6 hs6w d0 d1 d2 f0 f1
                  obtain ⟨S, hSe⟩ : ∃ S, S = strB (fun k => g (A4 + k)) lg := ⟨_, rfl⟩
                  rw [← hSe] at G7
                  have HS : Hid (S = strB (fun k => g (A4 + k)) lg) := hSe
                  clear hSe
                  have e0 := P7.at_
                  have e2 := P7.fa
                  have P8 : PS w (wc.setCell ⟨w.heap.size + 1, 0, none⟩ (.int .i64 ((A4 : Int) + (lg : Int)))) (.slice (some ⟨b, o, none⟩) N cap) N (A4 + lg) ok4 := P7.setAt (by omega) (by omega)
                  have G8 := G7.off (off_set wc ⟨w.heap.size + 1, 0, none⟩ (.int .i64 ((A4 : Int) + (lg : Int)))) (show ¬ wi.heap.size = w.heap.size + 1 by omega)
                  have V8 := V7.off (off_set wc ⟨w.heap.size + 1, 0, none⟩ (.int .i64 ((A4 : Int) + (lg : Int)))) (show ¬ p = w.heap.size + 1 by omega)
                  have EB8 := EB7.off (off_set wc ⟨w.heap.size + 1, 0, none⟩ (.int .i64 ((A4 : Int) + (lg : Int)))) (fun y hy => by have := (hEBlt y hy).1; show ¬ y = w.heap.size + 1; omega)
                  have O8 := O7.set (p := ⟨w.heap.size + 1, 0, none⟩) (Or.inl rfl) (.int .i64 ((A4 : Int) + (lg : Int)))
                  have hs8w : wi.heap.size < (wc.setCell ⟨w.heap.size + 1, 0, none⟩ (.int .i64 ((A4 : Int) + (lg : Int)))).heap.size := by rw [Deep.nblk_setCell]; exact hs7w
                  clear P7 G7 V7 EB7 O7 hs7w
                  go_upto_region 19 with fail
                  clear e0 e2
                  generalize wc.setCell ⟨w.heap.size + 1, 0, none⟩ (.int .i64 ((A4 : Int) + (lg : Int))) = wd at P8 G8 V8 EB8 O8 hs8w ⊢
                  go_cut [] from 34 to 72 (fun wc => ∃ (kd A6 : Nat) (ok6 : Bool), PS w wc (.slice (some ⟨b, o, none⟩) N cap) N A6 ok6 ∧ VarG wc wi.heap.size (.string S) (.int .i64 (kd : Nat)) (.int .i64 0) ∧ VarF wc p (.int .i64 (c : Nat)) ve ∧ EBuf wc (p + 1) ve es ∧ Off (fun k => k = w.heap.size + 1 ∨ k = w.heap.size + 1 + 1) wo wc ∧ wi.heap.size < wc.heap.size ∧
                    ((ok6 = true ∧ ok4 = true ∧ A6 = A4 + lg + 1 ∧ A4 + lg + 1 ≤ N ∧ kd = g (A4 + lg)) ∨ (ok6 = false ∧ A6 = N ∧ (ok4 = true → N < A4 + lg + 1))))
                  case first =>
                    go_wp2_with fail
                    refine (HN 1 (A4 + lg) ok4 _ (by decide) P8).mono ?_
                    rintro e1 wN (⟨hA9, rfl, P9, O9⟩ | ⟨hA9, rfl, P9, O9⟩)
                    · have hv2 : numV g (A4 + lg) 1 = g (A4 + lg) := by
                        show 256 * 0 + g (A4 + lg) = _
                        rw [Nat.mul_zero, Nat.zero_add]
                      have G9 := G8.off O9 (by omega)
                      have V9 := V8.off O9 hpz
                      have EB9 := EB8.off O9 (fun y hy => by have := (hEBlt y hy).1; omega)
                      have hs9w := Nat.lt_of_lt_of_le hs8w O9.size
                      have q1 := G9.c1
                      have q2 := G9.fr 1
                      go_wp2_with fail
                      go_meet
                      refine ⟨g (A4 + lg), A4 + lg + 1, ok4, P9.keep ((Below.refl _ _).setCell (show w.heap.size + 3 ≤ wi.heap.size by omega) _), G9.set1 _, V9.off (off_set _ _ _) (show ¬ p = wi.heap.size by omega), EB9.off (off_set _ _ _) (fun y hy => by have := (hEBlt y hy).2; show ¬ y = wi.heap.size; omega), (O8.trans O9).past (off_set _ _ _) (fun y hy hlt => by have h1 : y = wi.heap.size := hy; omega), by rw [Deep.nblk_setCell]; exact hs9w, ?_⟩
                      rcases hs6 with ⟨h1, h2, h3, h4⟩ | ⟨h1, h2, h3, h4⟩
                      · exact Or.inl ⟨h1, h1, rfl, hA9, rfl⟩
                      · omega
                    · have G9 := G8.off O9 (by omega)
                      have V9 := V8.off O9 hpz
                      have EB9 := EB8.off O9 (fun y hy => by have := (hEBlt y hy).1; omega)
                      have hs9w := Nat.lt_of_lt_of_le hs8w O9.size
                      have q1 := G9.c1
                      have q2 := G9.fr 1
                      go_wp2_with fail
                      go_meet
                      exact ⟨0, N, false, P9.keep ((Below.refl _ _).setCell (show w.heap.size + 3 ≤ wi.heap.size by omega) _), G9.set1 _, V9.off (off_set _ _ _) (show ¬ p = wi.heap.size by omega), EB9.off (off_set _ _ _) (fun y hy => by have := (hEBlt y hy).2; show ¬ y = wi.heap.size; omega), (O8.trans O9).past (off_set _ _ _) (fun y hy hlt => by have h1 : y = wi.heap.size := hy; omega), by rw [Deep.nblk_setCell]; exact hs9w, Or.inr ⟨rfl, rfl, fun _ => hA9⟩⟩
                  case rest =>
                  obtain ⟨kd, A6, ok6, P9, G9, V9, EB9, O9, hs9w, hs9⟩ := hcut
                  clear P8 G8 V8 EB8 O8 hs8w
                  go_upto_region 20 with fail
                  go_cut [] from 34 to 72 (fun wc => ∃ (nm A7 : Nat) (ok7 : Bool), PS w wc (.slice (some ⟨b, o, none⟩) N cap) N A7 ok7 ∧ VarG wc wi.heap.size (.string S) (.int .i64 (kd : Nat)) (.int .i64 (nm : Nat)) ∧ VarF wc p (.int .i64 (c : Nat)) ve ∧ EBuf wc (p + 1) ve es ∧ Off (fun k => k = w.heap.size + 1 ∨ k = w.heap.size + 1 + 1) wo wc ∧ wi.heap.size < wc.heap.size ∧
                    ((ok7 = true ∧ ok6 = true ∧ A7 = A6 + 3 ∧ A6 + 3 ≤ N ∧ nm = numV g A6 3) ∨ (ok7 = false ∧ (ok6 = true → N < A6 + 3))))
                  case first =>
                    go_wp2_with fail
                    refine (HN 3 A6 ok6 _ (by decide) P9).mono ?_
                    rintro e1 wN (⟨hA9, rfl, P0, O0⟩ | ⟨hA9, rfl, P0, O0⟩)
                    · have G0 := G9.off O0 (by omega)
                      have V0 := V9.off O0 hpz
                      have EB0 := EB9.off O0 (fun y hy => by have := (hEBlt y hy).1; omega)
                      have hs0w := Nat.lt_of_lt_of_le hs9w O0.size
                      have q1 := G0.c2
                      have q2 := G0.fr 2
                      obtain ⟨nv, hnv⟩ : ∃ x, x = numV g A6 3 := ⟨_, rfl⟩
                      rw [← hnv]
                      have HNV : Hid (nv = numV g A6 3) := hnv
                      clear hnv
                      go_wp2_with fail
                      go_meet
                      refine ⟨nv, A6 + 3, ok6, P0.keep ((Below.refl _ _).setCell (show w.heap.size + 3 ≤ wi.heap.size by omega) _), G0.set2 _, V0.off (off_set _ _ _) (show ¬ p = wi.heap.size by omega), EB0.off (off_set _ _ _) (fun y hy => by have := (hEBlt y hy).2; show ¬ y = wi.heap.size; omega), (O9.trans O0).past (off_set _ _ _) (fun y hy hlt => by have h1 : y = wi.heap.size := hy; omega), by rw [Deep.nblk_setCell]; exact hs0w, ?_⟩
                      rcases hs9 with ⟨h1, h2, h3, h4, h5⟩ | ⟨h1, h2, h3⟩
                      · exact Or.inl ⟨h1, h1, rfl, hA9, HNV.out⟩
                      · omega
                    · have G0 := G9.off O0 (by omega)
                      have V0 := V9.off O0 hpz
                      have EB0 := EB9.off O0 (fun y hy => by have := (hEBlt y hy).1; omega)
                      have hs0w := Nat.lt_of_lt_of_le hs9w O0.size
                      have q1 := G0.c2
                      have q2 := G0.fr 2
                      go_wp2_with fail
                      go_meet
                      exact ⟨0, N, false, P0.keep ((Below.refl _ _).setCell (show w.heap.size + 3 ≤ wi.heap.size by omega) _), G0.set2 _, V0.off (off_set _ _ _) (show ¬ p = wi.heap.size by omega), EB0.off (off_set _ _ _) (fun y hy => by have := (hEBlt y hy).2; show ¬ y = wi.heap.size; omega), (O9.trans O0).past (off_set _ _ _) (fun y hy hlt => by have h1 : y = wi.heap.size := hy; omega), by rw [Deep.nblk_setCell]; exact hs0w, Or.inr ⟨rfl, fun _ => hA9⟩⟩
                  case rest =>
                  obtain ⟨nm, A7, ok7, P0, G0, V0, EB0, O0, hs0w, hs0⟩ := hcut
                  clear P9 G9 V9 EB9 O9 hs9w
                  have HEV : Hid ((ok7 = true ∧ Evt.getE ((bl g N).drop A3) = some (evOf (S, (kd : Int), (nm : Int)), (bl g N).drop A7) ∧ A7 ≤ A3 + 260) ∨ (ok7 = false ∧ Evt.getE ((bl g N).drop A3) = none)) := ev_end hg hs6 hs9 hs0 HS.out
                  have hSz : S.size ≤ 9223372036854775807 := by
                    have h1 := nb_strB hf4 lg
                    rw [← HS.out] at h1
                    have h2 := nb_len S
                    rw [h1, bl_len] at h2
                    omega
                  obtain ⟨i3, hi3, hh3⟩ := Option.map_eq_some_iff.1 Tryz.infoEvent
                  simp only [Prod.mk.injEq] at hh3
                  obtain ⟨hy0, hy1, hy2⟩ := hh3
                  obtain ⟨g0, g1, g2, _⟩ := G0
                  have k1 := V0.c1
                  have bA : Below wc.heap.size wc (wc.alloc (.cells #[.string S, .int .i64 (kd : Nat), .int .i64 (nm : Nat)] 83)) := (Below.refl _ _).alloc (Nat.le_refl _) _
                  have HO := (EB0.below bA).1
                  have VA := V0.below bA
                  have cn := cells_new wc #[.string S, .int .i64 (kd : Nat), .int .i64 (nm : Nat)] 83
                  have hpc : p + 1 ≤ wc.heap.size := by omega
                  have sX : p + 1 ≤ (wc.alloc (.cells #[.string S, .int .i64 (kd : Nat), .int .i64 (nm : Nat)] 83)).heap.size := Nat.le_trans hpc bA.size
                  have hvp : ¬ ve.ownBlock = some p := fun h => by have := (hEBlt p h).1; omega
                  go_wp2_with (at_builtin; refine wpList_append_own _ rfl (.tmp 68) (.tmp 70) 40 rfl (p + 1) 83 i3 (.agg #[.string ByteArray.empty, .int .i64 0, .int .i64 0]) 3 32 Tryz.underlying40 hi3 hy0 hy1 hy2 rfl (by decide) _ _ _ rfl HO ⟨wc.heap.size, 0, none⟩ 1 1 [.string S, .int .i64 (kd : Nat), .int .i64 (nm : Nat)] rfl rfl cn (by intro u hu; simp at hu; rcases hu with rfl | rfl | rfl <;> rfl) (by unfold maxLen; omega) (by omega) sX ?_; intro v7 w7 hown7 hgrow7 _; have V11 := VA.off (off_of_grown hgrow7) hvp; have k4 := V11.c1; have k5 := V11.fr 1; have Z7 := owns_cells hown7 (Nat.le_add_left 1 _); obtain ⟨g9, C9, rfl, hg9, _⟩ := Z7)
                  have OG : Off (fun y => ve.ownBlock = some y) wc w7 := (Off.of_below bA).trans (off_of_grown hgrow7)
                  have BG : Below (w.heap.size + 3) wc w7 := OG.below P0.room (fun y hy => by have := (hEBlt y hy).1; omega)
                  refine ⟨⟨k + 1, A7, ok7, _, es ++ [((S, ((kd : Nat) : Int), ((nm : Nat) : Int)) : EvC)], by go_num, by omega, P0.keep (BG.setCell (show w.heap.size + 3 ≤ p by omega) _), V11.set1 _, ⟨?_, ?_⟩, by rw [List.length_append]; show es.length + 1 ≤ k + 1; omega, (O0.past OG (fun y hy hlt => by have := (hEBlt y hy).1; omega)).past (off_set _ _ _) (fun y hy hlt => by have h1 : y = p := hy; omega), ?_, ?_⟩, by simp [intOf]; omega⟩
                  · have h1 := owns_off hown7 (off_set w7 ⟨p, 1, none⟩ (.slice (some ⟨g9, 0, none⟩) (es.length + 1) C9)) (fun y hy => by have h2 := (hown7.lt y hy).1; show ¬ y = p; omega)
                    rw [List.flatMap_append, List.length_append]
                    exact h1
                  · intro e he
                    rcases List.mem_append.1 he with he | he
                    · exact EB0.2 e he
                    · rw [List.mem_singleton] at he
                      rw [he]
                      exact hSz
                  · intro h
                    rcases HEV.out with ⟨_, _, h3⟩ | ⟨h1, _⟩
                    · omega
                    · rw [h] at h1
                      cases h1
                  · rcases HEV.out with ⟨h1, h2, _⟩ | ⟨h1, h2⟩
                    · refine Or.inl ⟨h1, hq5.1, ?_⟩
                      rw [hq5.2, show m - k = (m - (k + 1)) + 1 by omega, getEs_step h2, List.map_append]
                      rfl
                    · refine Or.inr ⟨h1, fun _ => ?_⟩
                      rw [hq5.2, show m - k = (m - (k + 1)) + 1 by omega, getEs_fail h2]
              | false =>
                have HX : Hid (Evt.getB ((bl g N).drop A) = none) := inner_bad hs4 (by
                  rcases hs5 with ⟨h, _⟩ | ⟨_, h⟩
                  · cases h
                  · exact h)
                clear hs5
                go_wp2_with fail
                go_meet
                exact ⟨A3, false, ve, es, P5, V5, EB, O5, by omega, (fun h => by cases h), Or.inr ⟨rfl, HX.out⟩⟩
            · obtain rfl : k = m := by omega
              have HX : Hid ((ok3 = true ∧ Evt.getB ((bl g N).drop A) = some (⟨(c : Nat), es.map evOf⟩, (bl g N).drop A3)) ∨ (ok3 = false ∧ Evt.getB ((bl g N).drop A) = none)) := inner_end hs4 hs5
              clear hs5
              go_wp2_with fail
              go_meet
              exact ⟨A3, ok3, ve, es, P5, V5, EB, O5, by omega, (fun h => by have := hab3 h; omega), HX.out⟩
        case rest =>
        obtain ⟨A3, ok3, ve, es, P6, V6, EB6, O6, hel, hab3, hs6⟩ := hcut
        have hBB := owns_off BB O6 (fun y hy => by have := (BB.lt y hy).1; omega)
        have hBE : ∀ t, t ∈ L → EBuf wc (w.heap.size + 3) t.2.1 t.2.2 := fun t ht => (BE t ht).off O6 (fun y hy => by have := ((BE t ht).1.lt y hy).1; omega)
        obtain ⟨A9, C9, hve⟩ := EB6.evs.shape
        rw [List.length_map] at hve
        subst hve
        obtain ⟨k0, k1, _⟩ := V6
        obtain ⟨i2, hi2, hh2⟩ := Option.map_eq_some_iff.1 Tryz.infoBatch
        simp only [Prod.mk.injEq] at hh2
        obtain ⟨hy0, hy1, hy2⟩ := hh2
        have bA : Below wc.heap.size wc (wc.alloc (.cells #[.int .i64 (c : Nat), .slice A9 es.length C9] 47)) := (Below.refl _ _).alloc (Nat.le_refl _) _
        have HO := owns_below hBB bA
        have cn := cells_new wc #[.int .i64 (c : Nat), .slice A9 es.length C9] 47
        have hz3 : w.heap.size + 3 ≤ wc.heap.size := P6.room
        have sX : w.heap.size + 3 ≤ (wc.alloc (.cells #[.int .i64 (c : Nat), .slice A9 es.length C9] 47)).heap.size := Nat.le_trans hz3 bA.size
        have hlen : (L.map pr).length = i := by rw [List.length_map]; exact hLi
        clear P4 V4 O4 hs4
        go_wp2_with (at_builtin; go_loud (refine wpList_append_own _ rfl (.tmp 73) (.tmp 75) 26 rfl (w.heap.size + 3) 47 i2 (.agg #[.int .i64 0, .slice none 0 0]) 2 32 Tryz.underlying26 hi2 hy0 hy1 hy2 rfl (by decide) _ _ _ rfl HO ⟨wc.heap.size, 0, none⟩ 1 1 [.int .i64 (c : Nat), .slice A9 es.length C9] rfl rfl cn (by intro u hu; simp at hu; rcases hu with rfl | rfl <;> rfl) (by unfold maxLen; omega) (by omega) sX ?_; intro v7 w7 hown7 hgrow7 _))
        have HG := off_of_grown hgrow7
        have O7 : Off (fun k => u7.ownBlock = some k) wc w7 := (Off.of_below bA).trans HG
        refine ⟨⟨i + 1, by go_num, L ++ [((((c : Nat) : Int), Value.slice A9 es.length C9, es) : BatC)], A3, ok3, ?_, ?_, ?_, by omega, by rw [List.length_append, hLi]; rfl, fun h => ?_, ?_⟩, by simp [intOf]; omega⟩
        · show w7.ownsRow _ _ _ _ _ _
          rw [List.map_append, List.flatMap_append, List.length_append]
          exact hown7
        · intro t ht
          have kp : ∀ (vv : Value) (ee : List EvC), EBuf wc (w.heap.size + 3) vv ee → EBuf w7 (w.heap.size + 3) vv ee := fun vv ee hE => hE.off O7 (fun y hy hu => owns_ne hE.1 hBB (by decide) y hy hu)
          rcases List.mem_append.1 ht with ht | ht
          · exact kp _ _ (hBE t ht)
          · rw [List.mem_singleton] at ht
            subst ht
            exact kp _ _ ⟨owns_lowP EB6.1 (by have := P2.room; omega), EB6.2⟩
        · exact P6.keep (O7.below hz3 (fun y hy => (hBB.lt y hy).1))
        · have h1 := hab3 h
          omega
        · have hni : n - i = (n - (i + 1)) + 1 := by omega
          rcases hs6 with ⟨h1, h2⟩ | ⟨h1, h2⟩
          · refine Or.inl ⟨h1, ?_⟩
            rw [hGB, hni, getBs_step h2, List.map_append]
            rfl
          · refine Or.inr ⟨h1, ?_⟩
            rw [hGB, hni, getBs_fail h2]
      · have hi' : ¬ (i : Int) < (n : Int) := by omega
        obtain rfl : i = n := by omega
        have hGB : Evt.getBs i ((bl g N).drop 1) = some (L.map batOf, (bl g N).drop A) := by
          rcases hst with ⟨_, h⟩ | ⟨h, _⟩
          · rw [h, Nat.sub_self]
            show some (L.map batOf ++ [], _) = _
            rw [List.append_nil]
          · cases h
        have bz := P2.bel
        have hAN := P2.le
        by_cases hA : A = N
        · have hAn : ((A : Int) != (N : Int)) = false := by rw [bne_eq_false_iff_eq]; omega
          rw [hA, drop_none g (Nat.le_refl N)] at hGB
          have HGG : Hid (Evt.parseE (bl g N) = (Evt.wrongL (L.map batOf)).1 ∧ Evt.parse (bl g N) = if (Evt.wrongL (L.map batOf)).1 = 0 then L.map batOf else []) := getL_good HG0.out hGB
          have hBT : Bats wr u7 (L.map batOf) := BB.bats (by simp) (fun idx x y hx hy => by
            rw [List.getElem?_map] at hx hy
            obtain ⟨t, ht, rfl⟩ := Option.map_eq_some_iff.1 hx
            rw [ht] at hy
            cases hy
            exact ⟨rfl, (BE t (List.mem_of_getElem? ht)).evs⟩)
          have hBM : BatsM wr w.heap.size u7 (L.map batOf) := (BBuf.batsM BB (by simp) (fun idx x y hx hy => by
            rw [List.getElem?_map] at hx hy
            obtain ⟨t, ht, rfl⟩ := Option.map_eq_some_iff.1 hx
            rw [ht] at hy
            cases hy
            exact ⟨rfl, (BE t (List.mem_of_getElem? ht)).evs, fun g hg => ((BE t (List.mem_of_getElem? ht)).1.lt g hg).1⟩)).lower (by omega)
          have hLl : (L.map batOf).length = i := by rw [List.length_map]; exact hLi
          obtain ⟨wo, hwo⟩ : ∃ x, x = wr := ⟨wr, rfl⟩
          rw [← hwo] at c0 c1 c2 bz hBT hBM ⊢
          clear hst BB BE P2 HN hLi hc hy hGB hwo hA
          generalize L.map batOf = l at HGG hBT hBM hLl
          subst hLl
          by_cases h150 : 150 < l.length
          · have hm' : (150 : Int) < (l.length : Int) := by omega
            have HW : Hid (Evt.wrongL l = (5, 0)) := if_pos h150
            obtain ⟨X, C, rfl, _⟩ := hBT
            go_wp2_with fail
            go_ret2
            exact ⟨_, by rw [HGG.out.1, HW.out]; rfl, by rw [HGG.out.2, HW.out]; exact batsM_none _ _, bz⟩
          · have hm' : ¬ (150 : Int) < (l.length : Int) := by omega
            have HW : Hid (Evt.wrongL l = Evt.firstB l 0) := if_neg h150
            have HBT : Hid (BatsM wo w.heap.size u7 l) := hBM
            obtain ⟨X, C, rfl, hC1, hC2, hX⟩ := hBT
            clear hC1 hC2
            go_wp2_with fail
            go_loopw [90] (fun x wl => ∃ k : Nat, k ≤ l.length ∧ x = .int .i64 k ∧ Hid (∀ j, j < k → ∃ e, l[j]? = some e ∧ (Evt.wrongB e).1 = 0) ∧ Below wo.heap.size wo wl) (fun x _ => l.length - (intOf x).toNat)
            case atStart => exact ⟨0, Nat.zero_le _, rfl, fun j hj => absurd hj (Nat.not_lt_zero j), Below.refl _ _⟩
            case round =>
              obtain ⟨k, hk, rfl, HS, hbl⟩ := hrel
              by_cases hlt : k < l.length
              · have hlt' : (k : Int) < (l.length : Int) := by omega
                obtain ⟨x, hx⟩ : ∃ x, l[k]? = some x := ⟨l[k], List.getElem?_eq_getElem hlt⟩
                have HX : Hid (l[k]? = some x) := hx
                obtain ⟨b2, o2, rfl, hbi⟩ := hX k x hx
                obtain ⟨ve, d0, d1, hev⟩ := hbi.below hbl
                clear hX hx
                obtain ⟨A3, C3, rfl⟩ := hev.shape
                have bA : Below wr.heap.size wr (wr.alloc (.cells #[.int .i64 x.cmd, .slice A3 x.evs.length C3] 47)) := (Below.refl _ _).alloc (Nat.le_refl _) _
                have HWB := refWrongB_any x.cmd _ x.evs _ (hev.below bA)
                have HE0 : Hid (∀ y, y = (Evt.wrongB ⟨x.cmd, x.evs⟩).1 → y = (Evt.wrongB x).1) := fun y hy => hy
                generalize (Evt.wrongB ⟨x.cmd, x.evs⟩).2 = E2 at HWB
                obtain ⟨E, hE⟩ : ∃ E, E = (Evt.wrongB ⟨x.cmd, x.evs⟩).1 := ⟨_, rfl⟩
                rw [← hE] at HWB
                have HE : Hid (E = (Evt.wrongB x).1) := HE0.out E hE
                clear hE HE0 hev
                by_cases hz : E = 0
                · have HZ : Hid ((Evt.wrongB x).1 = 0) := HE.out.symm.trans hz
                  subst hz
                  go_wp2_with fail
                  refine HWB.mono ?_
                  rintro e w3 ⟨rfl, b3⟩
                  have b3 := bt bA b3
                  have b4 := b3.alloc b3.size (.cells #[.int .i64 0, .int .i64 (E2 : Nat)] 78)
                  clear HWB
                  go_wp2_with fail
                  refine ⟨⟨k + 1, by omega, by go_num, fun j hj => ?_, bt hbl b4⟩, by simp [intOf]; omega⟩
                  by_cases e : j = k
                  · rw [e]; exact ⟨x, HX.out, HZ.out⟩
                  · exact HS.out j (by omega)
                · have HF : Hid (Evt.firstB l 0 = (E, k)) := by
                    show _ = _
                    rw [Evt.firstB_some l k x HX.out (by rw [← HE.out]; exact hz) HS.out, HE.out]
                  have HEZ : Hid (E ≠ 0) := hz
                  have hx' : ((E : Int) == 0) = false := by rw [beq_eq_false_iff_ne]; omega
                  have hxn : ((E : Int) != 0) = true := by rw [bne, hx']; rfl
                  clear hz
                  go_wp2_with fail
                  refine HWB.mono ?_
                  rintro e w3 ⟨rfl, b3⟩
                  have b3 := bt bA b3
                  have b4 := b3.alloc b3.size (.cells #[.int .i64 (E : Nat), .int .i64 (E2 : Nat)] 78)
                  clear HWB
                  go_wp2_with fail
                  go_quiet (fail)
                  go_wp2_with fail
                  go_ret2
                  refine ⟨_, by rw [HGG.out.1, HW.out, HF.out]; rfl, by rw [HGG.out.2, HW.out, HF.out, if_neg HEZ.out]; exact batsM_none _ _, ?_⟩
                  exact bdn (bt bz (bt hbl b4)) _
              · obtain rfl : k = l.length := by omega
                have HZ : Hid (Evt.firstB l 0 = (0, 0)) := Evt.firstB_none l 0 (fun e he => by
                  obtain ⟨j, hj, rfl⟩ := List.mem_iff_getElem.1 he
                  obtain ⟨e', h1, h2⟩ := HS.out j hj
                  rw [List.getElem?_eq_getElem hj, Option.some.injEq] at h1
                  rw [h1]
                  exact h2)
                clear hX
                go_wp2_with fail
                go_ret2
                exact ⟨_, by rw [HGG.out.1, HW.out, HZ.out]; rfl, by rw [HGG.out.2, HW.out, HZ.out, if_pos rfl]; exact HBT.out.below hbl, bt bz hbl⟩
        · have HZ : Hid (Evt.parseE (bl g N) = 2 ∧ Evt.parse (bl g N) = []) := getL_long HG0.out hGB (by rw [drop_cons g (by omega)]; exact List.cons_ne_nil _ _)
          have hAn : ((A : Int) != (N : Int)) = true := by rw [bne_iff_ne]; omega
          clear hst BB BE P2 HN hLi hc hy hGB
          go_wp2_with fail
          go_ret2
          exact ⟨_, by rw [HZ.out.1]; rfl, by rw [HZ.out.2]; exact batsM_none _ _, bz⟩
set_option maxHeartbeats 400000 in
theorem parseJ_none (X : Option Addr) (C : Nat) (g : Nat → Nat) (w : World) :
    Calls Tryz.prog 65 #[.slice X 0 C] w fun e w' => ∃ v', e = .returned (.tuple #[v', .int .i64 (Evt.parseE (bl g 0) : Nat)]) ∧ BatsM w' w.heap.size v' (Evt.parse (bl g 0)) ∧ Below w.heap.size w w' := by
  rw [(parse_empty g).1, (parse_empty g).2]
  have eg := Tryz.enters_num
  have P0 : PS w (((w.alloc (.cells #[.slice X 0 C] 59)).alloc (.cells #[.int .i64 0] 3)).alloc (.cells #[.bool true] 4)) (.slice X 0 C) 0 0 true := by
    refine ⟨by go_simp, by go_simp, by go_simp, by go_simp, by go_simp, ?_, Nat.zero_le _⟩
    have h1 : Below w.heap.size w (w.alloc (.cells #[.slice X 0 C] 59)) := (Below.refl _ _).alloc (Nat.le_refl _) _
    have h2 := h1.alloc h1.size (.cells #[.int .i64 0] 3)
    exact h2.alloc h2.size _
  have HN := num_none X C w _ P0
  clear P0
  go_enter Tryz.func65, Tryz.ntmps65
  go_wp2_with fail
  refine HN.mono ?_
  rintro e w1 ⟨rfl, P1⟩
  have c0 := P1.at_
  have c1 := P1.b_
  have c2 := P1.ok_
  have bz := P1.bel
  clear HN P1
  go_wp2_with fail
  refine wp_loop_rounds 1 ?_
  rw [rounds_succ]
  go_wp2_with fail
  go_ret2
  exact ⟨_, rfl, batsM_none _ _, bz⟩

theorem parseJ_any (v : Value) (N : Nat) (g : Nat → Nat) (w : World) (h : Byts w v N g) :
    Calls Tryz.prog 65 #[v] w fun e w' => ∃ v', e = .returned (.tuple #[v', .int .i64 (Evt.parseE (bl g N) : Nat)]) ∧ BatsM w' w.heap.size v' (Evt.parse (bl g N)) ∧ Below w.heap.size w w' := by
  by_cases hN : 1 ≤ N
  · obtain ⟨b, o, cap, rfl, _⟩ := h.some hN
    exact parseJ_some b o cap N g w h hN
  · obtain rfl : N = 0 := by omega
    obtain ⟨X, C, rfl⟩ := h.zero
    exact parseJ_none X C g w

end Go.Proofs.YtmcaejooaaahdaaGreat
