/-
  What the statements' own hurt does, call by call.
-/
import Derived.Test.YtmlboaejkmffjadTHurt
import Derived.Maps.OwnOps
namespace Go.Proofs.Ytmlboaejkmffjad
open Go.RowKit Go.Maps

/-- What a struck block is: none, or one of which a byte is another one. -/
def Turn (n : Nat) (f : Nat → Nat) (l : Nat) (f' : Nat → Nat) : Prop := l = 0 ∨ (l = n ∧ ∃ p x, p < n ∧ x ≠ 0 ∧ x < 256 ∧ f' = fun k => if k = p then f p ^^^ x else f k)
/-- A list of blocks, of the call's own, of which those that M strikes are turned; the others are those that came in. -/
structure HS (w wr : World) (go N n : Nat) (U : Nat → Value) (g : Nat → Nat → Nat) (M : Nat → Bool) (V : Nat → Value) (Ls : Nat → Nat) (g' : Nat → Nat → Nat) : Prop where
  bel : Below w.heap.size w wr
  low : w.heap.size ≤ go
  top : RowC wr go 25 N V
  bd : Gf.Bd2 g'
  ok : ∀ i, i < N → M i = false → V i = U i ∧ Ls i = n ∧ g' i = g i
  bad : ∀ i, i < N → M i = true → Pce wr w.heap.size (V i) (Ls i) (g' i) ∧ Turn n (g i) (Ls i) (g' i)
section
variable {w wr : World} {go N n : Nat} {U : Nat → Value} {g : Nat → Nat → Nat} {M : Nat → Bool} {V : Nat → Value} {Ls : Nat → Nat} {g' : Nat → Nat → Nat}
theorem HS.kept {w' : World} (h : HS w wr go N n U g M V Ls g') (bel' : Below w.heap.size w w') (e : ∀ x t m F, RowC wr x t m F → w'.heap[x]? = wr.heap[x]?) : HS w w' go N n U g M V Ls g' :=
  ⟨bel', h.low, h.top.of_block (e _ _ _ _ h.top), h.bd, h.ok, fun i hi hM => ⟨(h.bad i hi hM).1.of_block (fun _ _ _ _ hr => e _ _ _ _ hr), (h.bad i hi hM).2⟩⟩
theorem HS.below {w' : World} (h : HS w wr go N n U g M V Ls g') (hb : Below wr.heap.size wr w') : HS w w' go N n U g M V Ls g' := h.kept (bt h.bel hb) (fun x _ _ _ hr => hb.block x hr.lt)
theorem HS.map {w' : World} {b m : Nat} {M' : Nat → Bool} (h : HS w wr go N n U g M V Ls g') (hd : Hd wr b m N M') (hb : w.heap.size ≤ b) (hg : wr.grownBy w' (some b)) : HS w w' go N n U g M V Ls g' :=
  h.kept (h.bel.grown hg h.bel.size (fun x hx => by cases hx; exact hb)) (fun x _ _ _ hr => hg.block x hr.lt (fun e => hd.ne hr (by cases e; rfl)))
theorem HS.set {k l : Nat} {u : Value} {f : Nat → Nat} (h : HS w wr go N n U g M V Ls g') (hu : Pce wr w.heap.size u l f) (ht : Turn n (g k) l f) : HS w (wr.setCell ⟨go, k, none⟩ u) go N n U g (lose k M) (updV V k u) (updV Ls k l) (updV g' k f) := by
  have e : ∀ x m F, RowC wr x 5 m F → (wr.setCell ⟨go, k, none⟩ u).heap[x]? = wr.heap[x]? := fun x m F hr => Deep.blk_setCell_other _ _ _ _ (fun q => hr.ne h.top (by decide) q)
  refine ⟨h.bel.setCell h.low _, h.low, (h.top.set k u).congr (fun j _ => rfl), fun i j => ?_, fun i hi hM => ?_, fun i hi hM => ?_⟩
  · show updV g' k f i j < 256
    by_cases q : i = k
    · rw [q, updV_at]; exact hu.byts.bd j
    · rw [updV_ne _ _ q]; exact h.bd i j
  · have q : i ≠ k := fun q => by
      rw [q, show lose k M k = true from if_pos rfl] at hM
      cases hM
    rw [updV_ne _ _ q, updV_ne _ _ q, updV_ne _ _ q]
    exact h.ok i hi (by rw [← hM, show lose k M i = M i from if_neg q])
  · by_cases q : i = k
    · rw [q, updV_at, updV_at, updV_at]
      exact ⟨hu.of_block (fun x m F _ hr => e x m F hr), ht⟩
    · rw [updV_ne _ _ q, updV_ne _ _ q, updV_ne _ _ q]
      have hMi : M i = true := by rw [← hM, show lose k M i = M i from if_neg q]
      exact ⟨(h.bad i hi hMi).1.of_block (fun x m F _ hr => e x m F hr), (h.bad i hi hMi).2⟩
theorem HS.lls {cap : Nat} (h : HS w wr go N n U g M V Ls g') (hU : ∀ i, i < N → Byts w (U i) n (g i)) (hc : N ≤ cap) (hcm : cap ≤ maxLen) : Lls wr (.slice (some ⟨go, 0, none⟩) N cap) N Ls g' := by
  refine ⟨h.bd, _, _, rfl, hc, hcm, fun i hi => ⟨go, 0, V i, rfl, by rw [Nat.zero_add]; exact h.top.cell hi, ?_⟩⟩
  cases hM : M i with
  | false =>
    obtain ⟨e1, e2, e3⟩ := h.ok i hi hM
    rw [e1, e2, e3]
    exact (hU i hi).below h.bel
  | true => exact (h.bad i hi hM).1.byts
end
theorem Hd.of_block {w w' : World} {b m N : Nat} {M : Nat → Bool} (h : Hd w b m N M) (e : w'.heap[b]? = w.heap[b]?) : Hd w' b m N M := by
  obtain ⟨D, ⟨es, clock, q, r⟩, hr⟩ := h
  exact ⟨D, ⟨es, clock, e.trans q, r⟩, hr⟩

/-- What hurt tells. -/
def HurtO (w : World) (N n : Nat) (g : Nat → Nat → Nat) (e : Ending) (w' : World) : Prop :=
  ∃ v bm M Ls g', e = .returned (.tuple #[v, .map (some bm)]) ∧ Lls w' v N Ls g' ∧ Hd w' bm (cnt M N) N M ∧ (∀ i, i < N → M i = false → Ls i = n ∧ g' i = g i) ∧ (∀ i, i < N → M i = true → Turn n (g i) (Ls i) (g' i)) ∧ Below w.heap.size w w'

set_option maxHeartbeats 2000000 in
set_option maxRecDepth 100000 in
theorem hurt_any (vl vh : Value) (N n K : Nat) (g : Nat → Nat → Nat) (X : Nat → Int × Int × Nat) (w : World) (hl : Lls w vl N (fun _ => n) g) (hh : Harms w vh K X) (h1 : 1 ≤ N) (h2 : N ≤ 12) (h3 : 1 ≤ n) (h4 : n ≤ 1000) :
    Calls Try.prog 31 #[vl, vh] w fun e w' => HurtO w N n g e w' := by
  obtain ⟨A, C, rfl⟩ := hl.shape
  obtain ⟨A', C', hv, hcc, hcm, hc⟩ := hl.lies
  cases hv
  have each : ∀ r, r < N → ∃ u, ∃ b o, A = some ⟨b, o, none⟩ ∧ w.cell? ⟨b, o + r, none⟩ = some u ∧ Byts w u n (g r) := fun r hr => by
    obtain ⟨b, o, u, e1, e2, e3⟩ := hc r hr
    exact ⟨u, b, o, e1, e2, e3⟩
  obtain ⟨U, hU⟩ := Deep.choose_lt each
  have hbd := hl.bd
  have HBD : Hid (Gf.Bd2 g) := hbd
  clear hl hc each hbd
  obtain ⟨b, o, rfl, _, _⟩ := hU 0 (by omega)
  have HUC : Hid (∀ r, r < N → w.cell? ⟨b, o + r, none⟩ = some (U r) ∧ Byts w (U r) n (g r)) := fun r hr => by
    obtain ⟨b', o', e1, e2, e3⟩ := hU r hr
    cases e1
    exact ⟨e2, e3⟩
  clear hU
  have hK := hh.len
  obtain ⟨Ah, Ch, hv, _, _, hcells⟩ := hh.lies
  subst hv
  have HX : Hid (∀ i, (X i).2.2 < 256) := hh.bd
  have HXC : Hid (∀ wr, Below w.heap.size w wr → ∀ i, i < K → ∃ b o, Ah = some ⟨b, o, none⟩ ∧ wr.cell? ⟨b, o + i * 3, none⟩ = some (.int .i64 (X i).1) ∧ wr.cell? ⟨b, o + i * 3 + 1, none⟩ = some (.int .i64 (X i).2.1) ∧ wr.cell? ⟨b, o + i * 3 + 2, none⟩ = some (.int .u8 ((X i).2.2 : Nat))) := fun wr hb i hi => by
    obtain ⟨b, o, e, c0, c1, c2⟩ := hcells i hi
    exact ⟨b, o, e, (hb.cell (p := ⟨b, o + i * 3, none⟩) (World.block_lt_of_cell? _ _ c0)).trans c0, (hb.cell (p := ⟨b, o + (i * 3 + 1), none⟩) (World.block_lt_of_cell? _ _ c1)).trans c1, (hb.cell (p := ⟨b, o + (i * 3 + 2), none⟩) (World.block_lt_of_cell? _ _ c2)).trans c2⟩
  clear hcells hh
  obtain ⟨i0, hi0, hh⟩ := Option.map_eq_some_iff.1 Try.infoRow
  simp only [Prod.mk.injEq] at hh
  obtain ⟨hz0, hz1, hz2⟩ := hh
  have own0 : (w.alloc (.cells #[] 25)).ownsRow w.heap.size 25 1 (.slice (some ⟨w.heap.size, 0, none⟩) 0 0) 0 [] := World.ownsRow_made w #[] 0 (Nat.le_refl _) (by unfold maxLen; omega) rfl
  have bX : Below w.heap.size w (w.alloc (.cells #[] 25)) := (Below.refl _ _).alloc (Nat.le_refl _) _
  have hsc : ∀ j u, ((List.range N).map U)[j]? = some u → (w.alloc (.cells #[] 25)).cell? ((⟨b, o, none⟩ : Addr).add j) = some u := fun j u hj => by
    rcases Nat.lt_or_ge j N with q | q
    · simp [q] at hj
      rw [WideShapes.add_plain, ← hj]
      exact (bX.cell (p := ⟨b, o + j, none⟩) (World.block_lt_of_cell? _ _ (HUC.out j q).1)).trans (HUC.out j q).1
    · simp [List.getElem?_eq_none (show ((List.range N).map U).length ≤ j by simpa using q)] at hj
  have hs1 : ∀ u ∈ (List.range N).map U, u.oneCell' = true := fun u hu => by
    obtain ⟨r, hr, rfl⟩ := List.mem_map.1 hu
    obtain ⟨_, A', C', e, _⟩ := (HUC.out r (List.mem_range.1 hr)).2
    rw [e]
    rfl
  go_enter Try.func31, Try.ntmps31
  go_wp2_with (at_builtin; go_loud (refine wpList_append_own _ rfl (.tmp 11) (.tmp 12) 43 rfl w.heap.size 25 i0 (.slice none 0 0) 1 24 Try.underlying43 hi0 hz0 hz1 hz2 rfl (by decide) _ _ _ rfl own0 ⟨b, o, none⟩ N C ((List.range N).map U) rfl (by simp) hsc hs1 (by unfold maxLen; omega) (by omega) bX.size ?_; intro v1 w1 hown1 hgrow1 _))
  have hown2 : w1.ownsRow w.heap.size 25 1 v1 N ((List.range N).map U) := by simpa using hown1
  have b1 : Below w.heap.size w w1 := bX.grown hgrow1 bX.size (fun x hx => (own0.lt x hx).1)
  obtain ⟨go, co, rfl, hgo, hco, hrow⟩ := rowC_owns hown2 h1
  have hcom : co ≤ maxLen := by
    rcases hown2.2 with ⟨q, _⟩ | ⟨_, _, _, q, _, _, _, q2, _⟩
    · cases q
    · cases q
      exact q2
  have HS0 : HS w w1 go N n U g (fun _ => false) U (fun _ => n) g := ⟨b1, hgo, hrow.congr (fun j hj => by simp [List.getD, hj]), HBD.out, fun i _ _ => ⟨rfl, rfl, rfl⟩, fun i _ q => by cases q⟩
  have bM : Below w1.heap.size w1 (w1.alloc (.map #[] 0)) := (Below.refl _ _).alloc (Nat.le_refl _) _
  have HS1 := HS0.below bM
  have HD1 : Hd (w1.alloc (.map #[] 0)) w1.heap.size (cnt (fun _ => false) N) N (fun _ => false) := by
    rw [cnt_none]
    exact hd_start w1 N
  have hbm : w.heap.size ≤ w1.heap.size := b1.size
  have hmm := @run_makeMap Try.prog
  clear hown1 hgrow1 hown2 own0 bX hsc hs1 hrow HS0 bM b1
  go_wp2_with fail
  clear hmm
  go_loopw [17] (fun x wr => ∃ (i : Nat) (M : Nat → Bool) (V : Nat → Value) (Ls : Nat → Nat) (g' : Nat → Nat → Nat), i ≤ K ∧ x = .int .i64 i ∧ HS w wr go N n U g M V Ls g' ∧ Hd wr w1.heap.size (cnt M N) N M) (fun x _ => K - (intOf x).toNat)
  case atStart => exact ⟨0, _, _, _, _, Nat.zero_le _, rfl, HS1, HD1⟩
  case round =>
    obtain ⟨i, M, V, Ls, g', hi, rfl, HSr, HDr⟩ := hrel
    by_cases hlt : i < K
    · have hlt' : (i : Int) < (K : Int) := by omega
      obtain ⟨bh, oh, rfl, c0, c1, c2⟩ := HXC.out wr HSr.bel i hlt
      have hB := HX.out i
      generalize (X i).1 = S at c0
      generalize (X i).2.1 = At at c1
      generalize (X i).2.2 = B at c2 hB
      obtain ⟨wo, rfl⟩ : ∃ x, x = wr := ⟨wr, rfl⟩
      have bV : Below wo.heap.size wo (wo.alloc (.cells #[.int .i64 S, .int .i64 At, .int .u8 (B : Nat)] 87)) := (Below.refl _ _).alloc (Nat.le_refl _) _
      have HSv := HSr.below bV
      have HDv := HDr.below bV
      by_cases hS : S < 0
      · clear HSr HDr
        go_wp2_with fail
        exact ⟨⟨i + 1, M, V, Ls, g', by omega, by go_num, HSv, HDv⟩, by simp [intOf]; omega⟩
      · obtain ⟨k, rfl⟩ := Int.eq_ofNat_of_zero_le (show 0 ≤ S by omega)
        by_cases hk : k < N
        case neg =>
          have hk' : (N : Int) ≤ (k : Int) := by omega
          clear HSr HDr
          go_wp2_with fail
          exact ⟨⟨i + 1, M, V, Ls, g', by omega, by go_num, HSv, HDv⟩, by simp [intOf]; omega⟩
        case pos =>
          have hk' : ¬ (N : Int) ≤ (k : Int) := by omega
          have hki : (k : Int) < (N : Int) := by omega
          have hlook := HDv.look k hk (by omega)
          obtain ⟨bk, ok, Kk, hUk, _, _, _⟩ := (HUC.out k hk).2.some h3
          have tk := (HSv.bel.cell (p := ⟨b, o + k, none⟩) (World.block_lt_of_cell? _ _ (HUC.out k hk).1)).trans (HUC.out k hk).1
          rw [hUk] at tk
          have hn0 : ((n : Int) == 0) = false := by rw [beq_eq_false_iff_ne]; omega
          cases hM : M k with
          | true =>
            rw [hM] at hlook
            clear HSr HDr
            go_wp2_with fail
            exact ⟨⟨i + 1, M, V, Ls, g', by omega, by go_num, HSv, HDv⟩, by simp [intOf]; omega⟩
          | false =>
            rw [hM] at hlook
            obtain ⟨D, hoM, hT, hh, hat, hsz⟩ := HDv
            have hcl := cnt_le M N
            have HPUT : Hid (∀ w', w'.ownsMap Try.prog 3 (plainElem Try.prog 4) w1.heap.size (cnt M N + 1) (D.put (.int .i64 (k : Int)) (.lit (.bool true))) → Hd w' w1.heap.size (cnt (lose k M) N) N (lose k M)) := fun w' q => by
              rw [cnt_lose hM N hk]
              exact Hd.put hT hh hat hsz hk hM q
            have HDk : Hid (Hd (wo.alloc (.cells #[.int .i64 (k : Int), .int .i64 At, .int .u8 (B : Nat)] 87)) w1.heap.size (cnt M N) N M) := ⟨D, hoM, hT, hh, hat, hsz⟩
            have hXlt : w1.heap.size < wo.heap.size := HDr.lt
            have hne : ∀ j : Nat, some (⟨wo.heap.size, j, none⟩ : Addr).block ≠ some w1.heap.size := fun j e => by
              simp at e
              omega
            have x0 : (wo.alloc (.cells #[.int .i64 (k : Int), .int .i64 At, .int .u8 (B : Nat)] 87)).cell? ⟨wo.heap.size, 0, none⟩ = some (.int .i64 (k : Int)) := by simp
            have x1 : (wo.alloc (.cells #[.int .i64 (k : Int), .int .i64 At, .int .u8 (B : Nat)] 87)).cell? ⟨wo.heap.size, 1, none⟩ = some (.int .i64 At) := by simp
            have x2 : (wo.alloc (.cells #[.int .i64 (k : Int), .int .i64 At, .int .u8 (B : Nat)] 87)).cell? ⟨wo.heap.size, 2, none⟩ = some (.int .u8 (B : Nat)) := by simp
            have hbk : Byts (wo.alloc (.cells #[.int .i64 (k : Int), .int .i64 At, .int .u8 (B : Nat)] 87)) (.slice (some ⟨bk, ok, none⟩) n Kk) n (g k) := by
              rw [← hUk]
              exact (HUC.out k hk).2.below HSv.bel
            clear HSr HDr hh hat hsz hT
            go_upto_region 8 with (at_mapUpdate; go_loud (refine wpList_mapUpdate_own _ rfl (.tmp 46) (.tmp 48) (.const (.bool true)) 54 rfl 3 4 hKeyed Try.hMapIntBool (plainElem Try.prog 4) w1.heap.size (cnt M N) D rfl hoM (by unfold maxLen; omega) (.int .i64 (k : Int)) (.bool true) (.int .i64 (k : Int)) rfl rfl (hKey k (by omega)) (.lit (.bool true)) [] (plainElem_bool Try.underlying4 true) ?_; intro w2 hM2 hgM))
            have HS2 := HSv.map HDk.out hbm hgM
            have HD2 := HPUT.out w2 hM2
            have y0 := hgM.cell x0 (hne 0)
            have y1 := hgM.cell x1 (hne 1)
            have y2 := hgM.cell x2 (hne 2)
            have tk2 := (HS2.bel.cell (p := ⟨b, o + k, none⟩) (World.block_lt_of_cell? _ _ (HUC.out k hk).1)).trans (HUC.out k hk).1
            rw [hUk] at tk2
            have hb2 : Byts w2 (.slice (some ⟨bk, ok, none⟩) n Kk) n (g k) := by
              rw [← hUk]
              exact (HUC.out k hk).2.below HS2.bel
            clear hoM hM2 hgM x0 x1 x2 hne hlook tk HSv hbk HDk HPUT c0 c1 c2
            by_cases hB0 : B = 0
            · subst hB0
              have z1 := HS2.top.cell hk
              have z2 := HS2.top.frozen k
              have hgb := HD2.ne HS2.top
              have HS3 := HS2.set (k := k) (u := .slice none 0 0) (l := 0) (f := g k) (Pce.nil _ _ (fun j => HBD.out k j)) (Or.inl rfl)
              have HD3 := HD2.of_block (w' := w2.setCell ⟨go, k, none⟩ (.slice none 0 0)) (Deep.blk_setCell_other _ _ _ _ (fun q => hgb q.symm))
              clear HS2 HD2
              go_wp2_with fail
              exact ⟨⟨i + 1, lose k M, _, _, _, by omega, by go_num, HS3, HD3⟩, by simp [intOf]; omega⟩
            · have hB1 : ((B : Int) == 0) = false := by rw [beq_eq_false_iff_ne]; omega
              obtain ⟨i1, hi1, hh1⟩ := Option.map_eq_some_iff.1 Try.infoByte
              simp only [Prod.mk.injEq] at hh1
              obtain ⟨hq0, hq1, hq2⟩ := hh1
              have bE : Below w2.heap.size w2 (w2.alloc (.cells #[] 5)) := (Below.refl _ _).alloc (Nat.le_refl _) _
              have ownb : (w2.alloc (.cells #[] 5)).ownsRow w2.heap.size 5 1 (.slice (some ⟨w2.heap.size, 0, none⟩) 0 0) 0 [] := World.ownsRow_made w2 #[] 0 (Nat.le_refl _) (by unfold maxLen; omega) rfl
              obtain ⟨bk', ok', Kk', hvk, _, _, hck⟩ := hb2.some h3
              cases hvk
              have hsc : ∀ j u, (cellsOf (g k) n)[j]? = some u → (w2.alloc (.cells #[] 5)).cell? ((⟨bk, ok, none⟩ : Addr).add j) = some u := fun j u hj => by
                rcases Nat.lt_or_ge j n with q | q
                · simp [cellsOf, q] at hj
                  rw [WideShapes.add_plain, ← hj]
                  exact (bE.cell (p := ⟨bk, ok + j, none⟩) (World.block_lt_of_cell? _ _ (hck j q))).trans (hck j q)
                · simp [List.getElem?_eq_none (show (cellsOf (g k) n).length ≤ j by simpa [cellsOf] using q)] at hj
              have hlen : (cellsOf (g k) n).length = n * 1 := by simp [cellsOf]
              have h1c := cellsOf_one (g k) n
              have y0b := (bE.cell (p := ⟨wo.heap.size, 0, none⟩) (World.block_lt_of_cell? _ _ y0)).trans y0
              have tkb := (bE.cell (p := ⟨b, o + k, none⟩) (World.block_lt_of_cell? _ _ tk2)).trans tk2
              clear hb2 hck
              go_upto_region 11 with (at_builtin; go_loud (refine wpList_append_own _ rfl (.tmp 56) (.tmp 61) 25 rfl w2.heap.size 5 i1 (.int .u8 0) 1 1 Try.underlying25 hi1 hq0 hq1 hq2 rfl (by decide) _ _ _ rfl ownb ⟨bk, ok, none⟩ n Kk (cellsOf (g k) n) rfl hlen hsc h1c (by unfold maxLen; omega) (by omega) bE.size ?_; intro v3 w3 hown3 hgrow3 _))
              have HB3 : Buf w3 w2.heap.size v3 n (g k) := by
                have q := hown3
                simp only [Nat.zero_add, List.nil_append] at q
                exact q
              have b3 : Below w2.heap.size w2 w3 := bE.grown hgrow3 bE.size (fun x hx => (ownb.lt x hx).1)
              obtain ⟨gb, cb, rfl, hgb, hcb, hcbm, R3⟩ := HB3.made (fun j => HBD.out k j) h3
              clear hown3 hgrow3 HB3 bE ownb hsc hlen h1c y0b tkb
              obtain ⟨q, hq⟩ : ∃ q, At.tmod (n : Int) = q := ⟨_, rfl⟩
              have hqa : -(n : Int) < q ∧ q < (n : Int) := by
                rw [← hq]
                have e1 := Int.tmod_lt_of_pos At (show (0 : Int) < (n : Int) by omega)
                have e2 := Int.lt_tmod_of_pos At (show (0 : Int) < (n : Int) by omega)
                omega
              obtain ⟨p, hp⟩ : ∃ p : Nat, (q + (n : Int)).tmod (n : Int) = (p : Int) := ⟨((q + (n : Int)).tmod (n : Int)).toNat, (Int.toNat_of_nonneg (Int.tmod_nonneg _ (by omega))).symm⟩
              have hpn : p < n := by
                have := Int.tmod_lt_of_pos (q + (n : Int)) (show (0 : Int) < (n : Int) by omega)
                omega
              have hpn' : (p : Int) < (n : Int) := by omega
              have hwq : IntKind.i64.wrap (q + (n : Int)) = q + (n : Int) := by rw [IntKind.wrap_i64]; omega
              have hn00 : ¬ (n : Int) = 0 := by omega
              have hxb := u8_xor_nat (g k p) B (HBD.out k p) hB
              have s0 := (b3.cell (p := ⟨wo.heap.size, 0, none⟩) (World.block_lt_of_cell? _ _ y0)).trans y0
              have s1 := (b3.cell (p := ⟨wo.heap.size, 1, none⟩) (World.block_lt_of_cell? _ _ y1)).trans y1
              have s2 := (b3.cell (p := ⟨wo.heap.size, 2, none⟩) (World.block_lt_of_cell? _ _ y2)).trans y2
              have s3 := R3.cell hpn
              have f3 := R3.frozen p
              have TD : w3.drew.cell? ⟨wo.heap.size, 1, none⟩ = some (.int .i64 At) ∧ w3.drew.cell? ⟨wo.heap.size, 2, none⟩ = some (.int .u8 (B : Nat)) ∧ w3.drew.cell? ⟨gb, p, none⟩ = some (.int .u8 (g k p : Nat)) := ⟨s1, s2, s3⟩
              generalize hyv : g k p ^^^ B = yv at hxb
              have b4 : Below w2.heap.size w2 (w3.setCell ⟨gb, p, none⟩ (.int .u8 (yv : Nat))).drew := (b3.setCell hgb _).drew
              have HS4 := HS2.below b4
              have HD4 := HD2.below b4
              have w0' := (b4.cell (p := ⟨wo.heap.size, 0, none⟩) (World.block_lt_of_cell? _ _ y0)).trans y0
              have hpc : Pce (w3.setCell ⟨gb, p, none⟩ (.int .u8 (yv : Nat))).drew w.heap.size (.slice (some ⟨gb, 0, none⟩) n cb) n (fun j => if j = p then g k p ^^^ B else g k j) := by
                have hf : Bd (fun j => if j = p then g k p ^^^ B else g k j) := fun j => by
                  show (if j = p then g k p ^^^ B else g k j) < 256
                  split
                  · exact Nat.xor_lt_two_pow (n := 8) (HBD.out k p) hB
                  · exact HBD.out k j
                have R4 : RowC (w3.setCell ⟨gb, p, none⟩ (.int .u8 (yv : Nat))).drew gb 5 n (fun j => .int .u8 ((if j = p then g k p ^^^ B else g k j : Nat) : Int)) := RowC.drew ((R3.set p _).congr (fun j _ => by
                  by_cases e : j = p
                  · rw [if_pos e, if_pos e, hyv]
                  · rw [if_neg e, if_neg e]))
                exact ⟨byts_of_row hf R4 hcb hcbm, Or.inr ⟨gb, 0, cb, _, _, rfl, Nat.le_trans HS2.bel.size hgb, R4⟩⟩
              have z1 := HS4.top.cell hk
              have z2 := HS4.top.frozen k
              have hgbm := HD4.ne HS4.top
              have HS5 := HS4.set (k := k) hpc (Or.inr ⟨rfl, p, B, hpn, hB0, hB, rfl⟩)
              have HD5 := HD4.of_block (w' := ((w3.setCell ⟨gb, p, none⟩ (.int .u8 (yv : Nat))).drew).setCell ⟨go, k, none⟩ (.slice (some ⟨gb, 0, none⟩) n cb)) (Deep.blk_setCell_other _ _ _ _ (fun q => hgbm q.symm))
              clear y0 y1 y2 tk2 TD HS4 HD4 HS2 HD2 R3 hpc
              go_region
              go_wp2_with fail
              exact ⟨⟨i + 1, lose k M, _, _, _, by omega, by go_num, HS5, HD5⟩, by simp [intOf]; omega⟩
    · obtain rfl : i = K := by omega
      have HLL := HSr.lls (fun j hj => (HUC.out j hj).2) hco hcom
      have HOK : Hid (∀ j, j < N → M j = false → Ls j = n ∧ g' j = g j) := fun j hj q => (HSr.ok j hj q).2
      have HBK : Hid (∀ j, j < N → M j = true → Turn n (g j) (Ls j) (g' j)) := fun j hj q => (HSr.bad j hj q).2
      have hbz := HSr.bel
      clear HSr
      go_wp2_with fail
      go_ret2
      exact ⟨_, w1.heap.size, M, Ls, g', rfl, HLL, HDr, HOK.out, HBK.out, hbz⟩

end Go.Proofs.Ytmlboaejkmffjad
