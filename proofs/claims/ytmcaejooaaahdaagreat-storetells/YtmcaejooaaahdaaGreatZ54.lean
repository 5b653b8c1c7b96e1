/-
  Texts of the proof, joined: RefInv.
-/
import Derived.Test.YtmcaejooaaahdaaGreatZ53
import Derived.StillTailTactics
namespace Go.Proofs.YtmcaejooaaahdaaGreat
open Go.RowKit

theorem rowTo_len (f : Nat → Nat) (n : Nat) : (rowTo f n).length = n := by simp [rowTo]
theorem rowTo_get (f : Nat → Nat) (n j : Nat) (h : j < n) : (rowTo f n)[j]? = some (.int .u8 (f j : Nat)) := by simp [rowTo, h]

/-- A row of the matrix with noughts behind it, and a 1 among them. -/
theorem wide_row (n k : Nat) (f : Nat → Nat → Nat) (j : Nat) (_hk : k < n) (hj : j < n + n) :
    (if j = n + k then Value.int .u8 1 else (rowTo (f k) n ++ List.replicate n (Value.int .u8 0)).getD j (.slice none 0 0)) = Value.int .u8 (Gf.wide0 n f k j : Nat) := by
  unfold Gf.wide0
  by_cases h1 : j = n + k
  · rw [if_pos h1, if_neg (by omega), show j - n = k by omega, Gf.one_self]
    rfl
  · rw [if_neg h1]
    by_cases h2 : j < n
    · rw [if_pos h2, List.getD, List.getElem?_append_left (by rw [rowTo_len]; exact h2), rowTo_get _ _ _ h2]
      rfl
    · rw [if_neg h2, Gf.one_ne (by omega), List.getD, List.getElem?_append_right (by rw [rowTo_len]; omega), rowTo_len]
      simp [show j - n < n by omega]

set_option maxRecDepth 100000 in
set_option maxHeartbeats 2000000 in
theorem refUndo_any (v : Value) (n : Nat) (f : Nat → Nat → Nat) (w : World) (h : Mx w v n n f) :
    Calls Tryz.prog 128 #[v] w fun e w' => ((∃ v' r, e = .returned (.tuple #[v', .int .i64 0]) ∧ Mx w' v' n n r ∧ Gf.Und n f r) ∨ (e = .returned (.tuple #[.slice none 0 0, .int .i64 6]) ∧ Gf.Sing n f)) ∧ Below w.heap.size w w' := by
  have ok := h.ok
  have H1 := fun w' hb' => refWrong_any v n _ f w' (h.below (w' := w') hb').arg
  rw [ok] at H1
  have hbd := h.bd
  obtain ⟨d1, d2, d3, d4⟩ := h.dim
  obtain ⟨b, o, p, G0, O0, K0, rfl, hm⟩ := h.lies
  have h0 : (0 : Int) < (n : Int) := by omega
  obtain ⟨i0, hi, hh⟩ := Option.map_eq_some_iff.1 Tryz.infoRow
  simp only [Prod.mk.injEq] at hh
  obtain ⟨hz0, hz1, hz2⟩ := hh
  obtain ⟨i1, hi1, hh1⟩ := Option.map_eq_some_iff.1 Tryz.infoByte
  simp only [Prod.mk.injEq] at hh1
  obtain ⟨hy0, hy1, hy2⟩ := hh1
  clear h ok
  go_enter Tryz.func128, Tryz.ntmps128
  go_wp2_with fail
  refine (H1 _ (Below.refl _ _)).mono ?_
  rintro e w1 ⟨rfl, b1⟩
  have t1 : w1.cell? ⟨b, o, none⟩ = some (.slice (some ⟨G0 0, O0 0, none⟩) n (K0 0)) := by simpa using (hm.below b1).top 0 (by omega)
  clear H1
  go_wp2_with fail
  clear t1
  go_loopw [6, 35] (fun v i wr => ∃ k : Nat, k ≤ n ∧ i = .int .i64 k ∧ (∃ G K, Acc wr w.heap.size v k (n + n) G K (Gf.wide0 n f) ∧ (∀ x y, x < k → y < k → x ≠ y → G x ≠ G y) ∧ ∀ x, x < k → n + n ≤ K x) ∧ Below w.heap.size w wr) (fun _ i _ => n - (intOf i).toNat)
  case atStart => exact ⟨0, Nat.zero_le _, rfl, ⟨fun _ => 0, fun _ => 0, Acc.start w1 _ _ _ _ _, fun x _ hx => absurd hx (Nat.not_lt_zero x), fun x hx => absurd hx (Nat.not_lt_zero x)⟩, b1⟩
  case round =>
    clear b1
    obtain ⟨k, hk, rfl, ⟨G, K, hA, hinj, hKK⟩, hb⟩ := hrel
    by_cases hlt : k < n
    · have hlt' : (k : Int) < (n : Int) := by omega
      obtain ⟨wo, rfl⟩ : ∃ x, x = wr := ⟨wr, rfl⟩
      have hmo := hm.below hb
      have tk := hmo.top k hlt
      have hsum : (n : Int) + (k : Int) < ((n + n : Nat) : Int) := by omega
      have hE : Below wo.heap.size wo (wo.alloc (.cells #[] 5)) := (Below.refl _ _).alloc (Nat.le_refl _) _
      have hown0 : (wo.alloc (.cells #[] 5)).ownsRow wo.heap.size 5 1 (.slice (some ⟨wo.heap.size, 0, none⟩) 0 0) 0 [] := World.ownsRow_made wo #[] 0 (Nat.le_refl _) (by unfold maxLen; omega) rfl
      have hnews : ∀ j u, (rowTo (f k) n)[j]? = some u → (wo.alloc (.cells #[] 5)).cell? ((⟨G0 k, O0 k, none⟩ : Addr).add j) = some u := fun j u hj => by
        rcases Nat.lt_or_ge j n with hjn | hjn
        · rw [rowTo_get _ _ _ hjn] at hj
          rw [WideShapes.add_plain, (hmo.below hE).row k hlt j hjn, hj]
        · rw [List.getElem?_eq_none (by rw [rowTo_len]; exact hjn)] at hj
          cases hj
      have lb := World.block_lt_of_cell? _ _ tk
      clear hmo
      go_wp2_with (first
        | (at_builtin; refine wpList_append_own _ rfl (.tmp 38) (.tmp 42) 59 rfl wo.heap.size 5 i1 (.int .u8 0) 1 1 Tryz.underlying59 hi1 hy0 hy1 hy2 rfl (by decide) _ _ _ rfl hown0 ⟨G0 k, O0 k, none⟩ n (K0 k) (rowTo (f k) n) rfl (by rw [rowTo_len]; omega) hnews (by intro u hu; obtain ⟨l, _, rfl⟩ := List.mem_map.1 hu; rfl) (by unfold maxLen; omega) (by omega) (by simp) ?_; intro v1 w2 hown1 hgrow1 _; rw [Nat.zero_add, List.nil_append] at hown1; have b2 := hE.grown hgrow1 (by simp) (fun x hx => (hown0.lt x hx).1); obtain ⟨v2, w3, hr2, hown2, hgrow2⟩ := run_append_zeros w2 wo.heap.size 59 3 59 5 i1 (.int .u8 0) 1 .i64 .i64 Tryz.underlying59 Tryz.underlying3 hi1 hy0 hy1 hy2 rfl rfl v1 n (rowTo (f k) n) hown1 d1 n d1 (by omega) (by omega) b2.size; have b3 := b2.grown hgrow2 b2.size (fun x hx => (hown1.lt x hx).1); obtain ⟨g, cap, rfl, hMg, hcap, hrow⟩ := rowC_owns hown2 (by omega); have hcc := hrow.cell (show n + k < n + n by omega); have hfz := hrow.frozen (n + k); have bS := b3.setCell (p := ⟨g, n + k, none⟩) hMg (.int .u8 1); have bX := bS.alloc bS.size (.cells #[.slice (some ⟨g, 0, none⟩) (n + n) cap] 59); have AX := hA.below bX; have rX := (((hrow.set (n + k) (.int .u8 1)).alloc (.cells #[.slice (some ⟨g, 0, none⟩) (n + n) cap] 59)).congr (fun j hj => wide_row n k f j hlt hj)); have sX := Nat.le_trans hb.size bX.size; have cX := cell_new (w := w3.setCell ⟨g, n + k, none⟩ (.int .u8 1)) (t := 59) (x := .slice (some ⟨g, 0, none⟩) (n + n) cap); rw [Deep.nblk_setCell] at cX)
        | (at_builtin; refine Lib.wpList_append_run _ rfl (.tmp 43) (.tmp 44) 59 3 rfl _ _ rfl rfl _ _ hr2 ?_)
        | (at_builtin; refine wpList_append_own _ rfl (.tmp 51) (.tmp 53) 86 rfl w.heap.size 59 i0 (.slice none 0 0) 1 24 Tryz.underlying86 hi hz0 hz1 hz2 rfl (by decide) _ _ _ rfl AX.own ⟨w3.heap.size, 0, none⟩ 1 1 [.slice (some ⟨g, 0, none⟩) (n + n) cap] rfl rfl cX (by intro u hu; simp at hu; subst hu; rfl) (by unfold maxLen; omega) (by omega) sX ?_; intro v4 w4 hown4 hgrow4 _))
      have A1 := AX.step ⟨Nat.le_trans hb.size hMg, rX⟩ hown4 hgrow4
      have b4 : Below w.heap.size w w4 := (hb.trans (bX.mono hb.size)).grown hgrow4 sX (fun x hx => (AX.own.lt x hx).1)
      have hinj' : ∀ x y, x < k + 1 → y < k + 1 → x ≠ y → updG G k g x ≠ updG G k g y := fun x y hx hy hne => by
        have low : ∀ z, z < k → G z < wo.heap.size := fun z hz => (hA.row z hz).2.lt
        unfold updG
        by_cases ex : x = k
        · have := low y (by omega)
          rw [if_pos ex, if_neg (by omega)]
          omega
        · by_cases ey : y = k
          · have := low x (by omega)
            rw [if_neg ex, if_pos ey]
            omega
          · rw [if_neg ex, if_neg ey]
            exact hinj x y (by omega) (by omega) hne
      have hK' : ∀ x, x < k + 1 → n + n ≤ updG K k cap x := fun x hx => by
        unfold updG
        by_cases ex : x = k
        · rw [if_pos ex]
          exact hcap
        · rw [if_neg ex]
          exact hKK x (by omega)
      clear hKK hcap
      clear hown4 hgrow4 AX rX hown2 hown1 hown0 hgrow1 hgrow2 hr2 hnews hcc hfz hrow bS bX b2 b3 hE cX tk lb hA hinj
      go_wp2_with fail
      exact ⟨⟨k + 1, by omega, by go_num, ⟨_, _, A1, hinj', hK'⟩, b4⟩, by simp [intOf]; omega⟩
    · have e8 : k = n := by omega
      subst e8
      obtain ⟨bw, capw, rfl, hNb, _, htop⟩ := rowC_owns hA.own d1
      have HW : Work wr w.heap.size bw k (k + k) G K (Gf.wide0 k f) := ⟨htop.congr (fun r hr => by simp [List.getD, hr]), fun r hr => (hA.row r hr).2, hNb, fun r hr => (hA.row r hr).1, hinj⟩
      clear hA hinj htop hm hi1 hy0 hy1 hy2
      go_wp2_with fail
      go_loopw [9] (fun i wr => ∃ m : Nat, m ≤ k ∧ i = .int .i64 ((m : Int) - 1) ∧ (∃ G K W, Work wr w.heap.size bw k (k + k) G K W ∧ Gf.Elim k f (fun j => m ≤ j ∧ j < k) W ∧ ∀ r, r < k → k + k ≤ K r) ∧ Below w.heap.size w wr) (fun i _ => (intOf i + 1).toNat)
      case atStart => exact ⟨k, Nat.le_refl _, rfl, ⟨G, K, _, HW, Gf.Elim.start hbd (fun j hj => by omega), hKK⟩, hb⟩
      case round =>
        clear HW hb hKK
        obtain ⟨m, hm, rfl, ⟨G, K, W, HW, HE, hKK⟩, hb⟩ := hrel
        by_cases hm0 : m = 0
        · subst hm0
          rw [show ((0 : Nat) : Int) - 1 = (-1 : Int) from rfl]
          have HU : Hid (Gf.Und k f (fun i j => W i (k + j))) := HE.done hbd (fun j hj => ⟨Nat.zero_le _, hj⟩)
          have hWbd := HE.bd
          clear HE
          have hkk : (k : Int) ≤ ((k + k : Nat) : Int) := by omega
          obtain ⟨wo, rfl⟩ : ∃ x, x = wr := ⟨wr, rfl⟩
          go_wp2_with fail
          go_loopw [17, 174] (fun v i wi => ∃ t : Nat, t ≤ k ∧ i = .int .i64 t ∧ wi.ownsRow wo.heap.size 59 1 v t ((List.range t).map fun r => .slice (some ⟨G r, k, none⟩) k (K r - k)) ∧ Below wo.heap.size wo wi) (fun _ i _ => k - (intOf i).toNat)
          case atStart => exact ⟨0, Nat.zero_le _, rfl, World.ownsRow_nil wo _ _ 1, Below.refl _ _⟩
          case round =>
            obtain ⟨t, ht, rfl, hown, hbt⟩ := hrel
            have HT := HW.below hbt
            by_cases htk : t < k
            · have htk' : (t : Int) < (k : Int) := by omega
              have u1 := HT.top.cell htk
              have hKt : ¬ K t = k := by have := hKK t htk; omega
              have hoX := owns_below hown ((Below.refl wr.heap.size wr).alloc (Nat.le_refl _) (.cells #[.slice (some ⟨G t, k, none⟩) k (K t - k)] 59))
              have sX : wo.heap.size ≤ (wr.alloc (.cells #[.slice (some ⟨G t, k, none⟩) k (K t - k)] 59)).heap.size := Nat.le_trans hbt.size (by simp)
              have hst : ((List.range t).map fun r => Value.slice (some ⟨G r, k, none⟩) k (K r - k)) ++ [.slice (some ⟨G t, k, none⟩) k (K t - k)] = (List.range (t + 1)).map fun r => Value.slice (some ⟨G r, k, none⟩) k (K r - k) := by
                rw [List.range_succ, List.map_append]
                rfl
              have HST : Hid (((List.range t).map fun r => Value.slice (some ⟨G r, k, none⟩) k (K r - k)) ++ [.slice (some ⟨G t, k, none⟩) k (K t - k)] = (List.range (t + 1)).map fun r => Value.slice (some ⟨G r, k, none⟩) k (K r - k)) := hst
              clear hown HT hst
              go_wp2_with (at_builtin; (refine wpList_append_own _ rfl (.tmp 178) (.tmp 182) 169 rfl wo.heap.size 59 i0 (.slice none 0 0) 1 24 Tryz.underlying169 hi hz0 hz1 hz2 rfl (by decide) _ _ _ rfl hoX ⟨wr.heap.size, 0, none⟩ 1 1 [.slice (some ⟨G t, k, none⟩) k (K t - k)] rfl rfl cell_new (by intro u hu; simp at hu; subst hu; rfl) (by unfold maxLen; omega) (by omega) sX ?_); intro v1 w1 hown1 hgrow1 _)
              rw [HST.out] at hown1
              have b1 : Below wo.heap.size wo w1 := (hbt.alloc hbt.size (.cells #[.slice (some ⟨G t, k, none⟩) k (K t - k)] 59)).grown hgrow1 sX (fun x hx => (hoX.lt x hx).1)
              clear hgrow1 hoX u1
              go_wp2_with fail
              exact ⟨⟨t + 1, by omega, by go_num, hown1, b1⟩, by simp [intOf]; omega⟩
            · have et : t = k := by omega
              subst et
              obtain ⟨g, cap, rfl, _, _, hrow⟩ := rowC_owns hown d1
              have HMX : Hid (Mx wr (.slice (some ⟨g, 0, none⟩) t cap) t t (fun i j => W i (t + j))) := ⟨fun i j => hWbd i (t + j), ⟨d1, d2, d3, d4⟩, g, 0, cap, G, fun _ => t, fun r => K r - t, rfl, fun r hr => by
                rw [Nat.zero_add, hrow.cell hr]
                simp [List.getD, hr], fun r hr j hj => (HT.row r hr).cell (show t + j < t + t by omega)⟩
              clear hrow hown HT HW
              go_wp2_with fail
              go_ret2
              exact ⟨Or.inl ⟨_, _, rfl, HMX.out, HU.out⟩, bt hb hbt⟩
        · obtain ⟨c, rfl⟩ : ∃ c, m = c + 1 := ⟨m - 1, by omega⟩
          have hck : c < k := by omega
          rw [show ((c + 1 : Nat) : Int) - 1 = (c : Int) by omega]
          have hck' : (c : Int) < (k : Int) := by omega
          have hcc' : (c : Int) < ((k + k : Nat) : Int) := by omega
          have HEE : Hid (Gf.Elim k f (fun j => c + 1 ≤ j ∧ j < k) W) := HE
          have hWbd := HE.bd
          clear HE
          go_wp2_with fail
          go_loop [10, 11] (fun a i => ∃ t : Nat, t ≤ c + 1 ∧ i = .int .i64 t ∧ ∃ x : Int, a = .int .i64 x ∧ Hid ((x = -1 ∧ ∀ r, r < t → W r c = 0) ∨ ∃ q : Nat, q < t ∧ x = (q : Int) ∧ W q c ≠ 0)) (fun _ i => (c + 1) - (intOf i).toNat)
          case atStart => exact ⟨0, Nat.zero_le _, rfl, -1, rfl, Or.inl ⟨rfl, fun r hr => absurd hr (Nat.not_lt_zero r)⟩⟩
          case round =>
            obtain ⟨t, ht, rfl, x, rfl, HX⟩ := hrel
            by_cases htc : t ≤ c
            · have htc' : (t : Int) ≤ (c : Int) := by omega
              have htk' : (t : Int) < (k : Int) := by omega
              have u1 := HW.top.cell (show t < k by omega)
              have u2 := (HW.row t (by omega)).cell (show c < k + k by omega)
              by_cases hz : W t c = 0
              · rw [hz] at u2
                have HZ : Hid (W t c = 0) := hz
                clear hz
                go_wp2_with fail
                refine ⟨⟨t + 1, by omega, by go_num, x, rfl, ?_⟩, by simp [intOf]; omega⟩
                rcases HX.out with ⟨h1, h2⟩ | ⟨q, h1, h2, h3⟩
                · exact Or.inl ⟨h1, fun r hr => by
                    by_cases e : r = t
                    · rw [e]; exact HZ.out
                    · exact h2 r (by omega)⟩
                · exact Or.inr ⟨q, by omega, h2, h3⟩
              · have hz' : ((W t c : Int) == 0) = false := by rw [beq_eq_false_iff_ne]; omega
                have HZ : Hid (W t c ≠ 0) := hz
                clear hz
                go_wp2_with fail
                exact ⟨⟨t + 1, by omega, by go_num, t, rfl, Or.inr ⟨t, by omega, rfl, HZ.out⟩⟩, by simp [intOf]; omega⟩
            · have et : t = c + 1 := by omega
              subst et
              have hnl : ¬ ((c + 1 : Nat) : Int) ≤ (c : Int) := by omega
              rcases HX.out with ⟨rfl, h2⟩ | ⟨q, hq, rfl, hqz⟩
              · have HS : Hid (Gf.Sing k f) := HEE.out.fails hck (by omega) (fun i hi hd => h2 i (by omega))
                clear h2 HX HEE HW
                go_wp2_with fail
                go_ret2
                exact ⟨Or.inr ⟨rfl, HS.out⟩, hb⟩
              · clear HX
                have HQ : Hid (W q c ≠ 0) := hqz
                have hqk' : (q : Int) < (k : Int) := by omega
                have hq0 : ¬ (q : Int) < 0 := by omega
                clear hqz
                have HO := HW.swap (a := q) (p := c) (by omega) hck
                obtain ⟨wS, hS⟩ : ∃ wS, wS = (wr.setCell ⟨bw, q, none⟩ (.slice (some ⟨G c, 0, none⟩) (k + k) (K c))).setCell ⟨bw, c, none⟩ (.slice (some ⟨G q, 0, none⟩) (k + k) (K q)) := ⟨_, rfl⟩
                rw [← hS, swp_comm] at HO
                have hbS : Below w.heap.size w wS := by rw [hS]; exact (hb.setCell (p := ⟨bw, q, none⟩) HW.lob _).setCell (p := ⟨bw, c, none⟩) HW.lob _
                have HS : Hid (wS = (wr.setCell ⟨bw, q, none⟩ (.slice (some ⟨G c, 0, none⟩) (k + k) (K c))).setCell ⟨bw, c, none⟩ (.slice (some ⟨G q, 0, none⟩) (k + k) (K q))) := hS
                clear hS
                have t1 := HW.top.cell (show q < k by omega)
                have t2 := HW.top.cell hck
                have z1 := HW.top.frozen q
                have z2 := HW.top.frozen c
                obtain ⟨v3, t3⟩ : ∃ v3, (wr.setCell ⟨bw, q, none⟩ (.slice (some ⟨G c, 0, none⟩) (k + k) (K c))).cell? ⟨bw, c, none⟩ = some v3 := ⟨_, (HW.top.set q _).cell hck⟩
                have z3 := (HW.top.set q (.slice (some ⟨G c, 0, none⟩) (k + k) (K c))).frozen c
                have HWW : Hid (Work wr w.heap.size bw k (k + k) G K W) := HW
                clear HW
                go_wp2_with fail
                go_region
                rw [← HS.out]
                clear HS t1 t2 z1 z2 t3 z3 HWW hb
                have e0 : Gf.swp c q W c c = W q c := by
                  unfold Gf.swp
                  rw [if_pos rfl]
                have hW0 : Gf.Bd2 (Gf.swp c q W) := Gf.swp_bd hWbd
                have HD : Hid (Gf.add c (Gf.scl c (Gf.inv (W q c)) (Gf.swp c q W)) = Gf.clr c q W) := rfl
                have hbnd := hWbd q c
                generalize swpG q c G = G' at HO
                have hK2 : ∀ r, r < k → k + k ≤ swpG q c K r := fun r hr => by
                  unfold swpG
                  split
                  · exact hKK _ hck
                  · split
                    · exact hKK _ (by omega)
                    · exact hKK _ hr
                generalize swpG q c K = K' at HO hK2
                clear hKK
                generalize Gf.swp c q W = W0 at HO e0 hW0 HD
                have u1 := HO.top.cell hck
                have u2 := (HO.row c hck).cell (show c < k + k by omega)
                rw [e0] at u2
                go_wp2_with fail
                refine (refInv_nat (W q c) _ hbnd).mono ?_
                rintro e w2 ⟨rfl, rfl⟩
                go_wp2_with fail
                clear u1 u2 e0
                have hx0 := Gf.inv_lt (W q c)
                generalize Gf.inv (W q c) = x at HD hx0
                have hx : Hid (x < 256) := hx0
                clear hx0
                go_loopw [105] (fun i wi => ∃ t : Nat, t ≤ k + k ∧ i = .int .i64 t ∧ Work wi w.heap.size bw k (k + k) G' K' (sclTo c t x W0) ∧ Below w.heap.size w wi) (fun i _ => (k + k) - (intOf i).toNat)
                case atStart => exact ⟨0, Nat.zero_le _, rfl, HO.drew.congr (fun i _ j _ => by unfold sclTo; rw [if_neg (fun h => absurd h.2 (Nat.not_lt_zero j))]), hbS.drew⟩
                case round =>
                  clear HO hbS
                  obtain ⟨t, ht, rfl, HT, hbt⟩ := hrel
                  by_cases htk : t < k + k
                  · have htk' : (t : Int) < ((k + k : Nat) : Int) := by omega
                    have u1 := HT.top.cell hck
                    have u2 := (HT.row c hck).cell htk
                    have z2 := (HT.row c hck).frozen t
                    rw [show sclTo c t x W0 c t = W0 c t from if_neg (fun h => absurd h.2 (Nat.lt_irrefl _))] at u2
                    have HP := HT.put (x := Gf.mul (W0 c t) x) (f' := sclTo c (t + 1) x W0) hck htk (fun r j _ _ => sclTo_step c t x W0 r j)
                    have u3 := HP.top.cell hck
                    have hbP : Below w.heap.size w (wr.setCell ⟨G' c, t, none⟩ (.int .u8 ((Gf.mul (W0 c t) x : Nat) : Int))) := hbt.setCell (p := ⟨G' c, t, none⟩) (HT.low c hck) _
                    clear HT
                    go_wp2_with fail
                    go_region_with (go_at_call 125; refine (refMul_same _ _ _ (hW0 c t) hx.out).mono ?_; rintro e w2 ⟨rfl, rfl⟩)
                    all_goals go_wp2_with fail
                    all_goals exact ⟨⟨t + 1, by omega, by go_num, HP.drew, hbP.drew⟩, by simp [intOf]; omega⟩
                  · have et : t = k + k := by omega
                    subst et
                    have HT1 : Work wr w.heap.size bw k (k + k) G' K' (Gf.scl c x W0) := HT.congr (fun i _ j hj => by
                      unfold sclTo Gf.scl
                      by_cases h : i = c
                      · rw [if_pos ⟨h, hj⟩, if_pos h]
                      · rw [if_neg (fun h' => h h'.1), if_neg h])
                    have hW1 : Gf.Bd2 (Gf.scl c x W0) := Gf.scl_bd hW0
                    clear HT
                    generalize Gf.scl c x W0 = W1 at HT1 hW1 HD
                    go_wp2_with fail
                    go_loopw [126] (fun i wi => ∃ r : Nat, r ≤ k ∧ i = .int .i64 r ∧ Work wi w.heap.size bw k (k + k) G' K' (addAt c r 0 W1) ∧ Below w.heap.size w wi) (fun i _ => k - (intOf i).toNat)
                    case atStart => exact ⟨0, Nat.zero_le _, rfl, HT1.congr (fun i _ j _ => by unfold addAt; rw [if_neg (by omega)]), hbt⟩
                    case round =>
                      clear HT1 hbt
                      obtain ⟨r, hr, rfl, HR, hbr⟩ := hrel
                      by_cases hrk : r < k
                      · have hrk' : (r : Int) < (k : Int) := by omega
                        have y1 := HR.top.cell hrk
                        have y2 := (HR.row r hrk).cell (show c < k + k by omega)
                        rw [show addAt c r 0 W1 r c = W1 r c from if_neg (by omega)] at y2
                        go_wp2_with fail
                        clear y1 y2
                        go_loopw [141] (fun i wi => ∃ t : Nat, t ≤ k + k ∧ i = .int .i64 t ∧ Work wi w.heap.size bw k (k + k) G' K' (addAt c r t W1) ∧ Below w.heap.size w wi) (fun i _ => (k + k) - (intOf i).toNat)
                        case atStart => exact ⟨0, Nat.zero_le _, rfl, HR, hbr⟩
                        case round =>
                          clear HR hbr
                          obtain ⟨t, ht, rfl, HT, hbt⟩ := hrel
                          by_cases htk : t < k + k
                          · have htk' : (t : Int) < ((k + k : Nat) : Int) := by omega
                            by_cases hrc : r = c
                            · subst hrc
                              go_wp2_with fail
                              refine ⟨⟨t + 1, by omega, by go_num, HT.congr (fun i _ j _ => ?_), hbt⟩, by simp [intOf]; omega⟩
                              rw [addAt_step]
                              by_cases h : i = r ∧ j = t
                              · rw [if_pos h, h.1, h.2]
                                unfold addAt
                                rw [if_neg (by omega)]
                                exact (if_pos rfl).symm
                              · rw [if_neg h]
                            · have hrc' : ((r : Int) == (c : Int)) = false := by rw [beq_eq_false_iff_ne]; omega
                              have ea : addAt c r t W1 c t = W1 c t := by
                                unfold addAt
                                by_cases h : c < r ∨ (c = r ∧ t < t)
                                · rw [if_pos h]
                                  exact if_pos rfl
                                · rw [if_neg h]
                              have u1 := HT.top.cell hrk
                              have u2 := HT.top.cell hck
                              have u3 := (HT.row r hrk).cell htk
                              have u4 := (HT.row c hck).cell htk
                              rw [show addAt c r t W1 r t = W1 r t from if_neg (by omega)] at u3
                              rw [ea] at u4
                              have z3 := (HT.row r hrk).frozen t
                              have hxor := xor_nat (hW1 r t) (Gf.mul_lt (W1 c t) (hW1 r c))
                              have HP := HT.put (x := W1 r t ^^^ Gf.mul (W1 r c) (W1 c t)) (f' := addAt c r (t + 1) W1) hrk htk (fun i j _ _ => by
                                rw [addAt_step, show Gf.add c W1 r t = W1 r t ^^^ Gf.mul (W1 c t) (W1 r c) from if_neg hrc, Gf.mul_comm (hW1 c t) (hW1 r c)])
                              have hbP : Below w.heap.size w (wr.setCell ⟨G' r, t, none⟩ (.int .u8 ((W1 r t ^^^ Gf.mul (W1 r c) (W1 c t) : Nat) : Int))) := hbt.setCell (p := ⟨G' r, t, none⟩) (HT.low r hrk) _
                              clear HT ea hrc
                              go_wp2_with fail
                              refine wp_region_still_tail 23 (by kernel_rfl) (by kernel_rfl) ?_
                              simp only [List.take_succ_cons, List.take_zero, List.drop_succ_cons, List.drop_zero]
                              have v1 : ({ wr with drawn := wr.drawn + 1 } : World).cell? ⟨bw, r, none⟩ = some (.slice (some ⟨G' r, 0, none⟩) (k + k) (K' r)) := u1
                              have v2 : ({ wr with drawn := wr.drawn + 1 } : World).cell? ⟨bw, c, none⟩ = some (.slice (some ⟨G' c, 0, none⟩) (k + k) (K' c)) := u2
                              have v3 : ({ wr with drawn := wr.drawn + 1 } : World).cell? ⟨G' r, t, none⟩ = some (.int .u8 (W1 r t : Nat)) := u3
                              have v4 : ({ wr with drawn := wr.drawn + 1 } : World).cell? ⟨G' c, t, none⟩ = some (.int .u8 (W1 c t : Nat)) := u4
                              iterate 20 still_step
                              still_call (refMul_same _ _ _ (hW1 r c) (hW1 c t))
                              iterate 2 still_step
                              refine wpStill_nil ?_
                              go_wp2_with fail
                              refine ⟨?_, ?_⟩
                              · repeat apply Exists.intro
                                refine ⟨?_, rfl⟩
                                exact ⟨t + 1, by omega, by go_num, HP.drew, hbP.drew⟩
                              · simp [intOf]
                                omega
                          · have et : t = k + k := by omega
                            subst et
                            go_wp2_with fail
                            exact ⟨⟨r + 1, by omega, by go_num, HT.congr (fun i _ j hj => by
                              unfold addAt
                              by_cases h : i < r ∨ (i = r ∧ j < k + k)
                              · rw [if_pos h, if_pos (by omega)]
                              · rw [if_neg h, if_neg (by omega)]), hbt⟩, by simp [intOf]; omega⟩
                      · have er : r = k := by omega
                        subst er
                        have HF : Work wr w.heap.size bw r (r + r) G' K' (Gf.clr c q W) := HR.congr (fun i hi j _ => by
                          rw [← HD.out]
                          unfold addAt
                          rw [if_pos (Or.inl hi)])
                        have HEF : Hid (Gf.Elim r f (fun j => c ≤ j ∧ j < r) (Gf.clr c q W)) := HEE.out.step hck (by omega) (by omega) (by omega) HQ.out (fun j hj => by omega)
                        clear HR HEE HQ
                        go_wp2_with fail
                        exact ⟨⟨c, by omega, by go_num, ⟨G', K', _, HF, HEF.out, hK2⟩, hbr⟩, by simp [intOf]⟩

end Go.Proofs.YtmcaejooaaahdaaGreat
