/-
  What the statements' own list of all shards is.
-/
import Derived.Test.YtbidimaljeblgabCAlive
namespace Go.Proofs.Ytbidimaljeblgab
open Go.RowKit

/-- A list of the call's own, in block g, of rows that lie wherever they do. -/
structure Lst (w : World) (B g N c : Nat) (G O K : Nat → Nat) (f : Nat → Nat → Nat) : Prop where
  low : B ≤ g
  top : RowC w g 34 N (fun i => .slice (some ⟨G i, O i, none⟩) c (K i))
  row : ∀ i, i < N → ∀ k, k < c → w.cell? ⟨G i, O i + k, none⟩ = some (.int .u8 (f i k : Nat))
  apart : ∀ i, i < N → G i ≠ g

theorem Lst.mat {w : World} {B g N c : Nat} {G O K : Nat → Nat} {f : Nat → Nat → Nat} (h : Lst w B g N c G O K f) : MatAt w g 0 N c G O K f :=
  ⟨fun r hr => by rw [Nat.zero_add]; exact h.top.cell hr, h.row⟩
theorem Lst.mx {w : World} {B g N c cap : Nat} {G O K : Nat → Nat} {f : Nat → Nat → Nat} (h : Lst w B g N c G O K f) (bd : Gf.Bd2 f) (dim : 1 ≤ N ∧ N ≤ 12 ∧ 1 ≤ c ∧ c ≤ 400) : Mx w (.slice (some ⟨g, 0, none⟩) N cap) N c f :=
  ⟨bd, dim, g, 0, cap, G, O, K, rfl, h.mat⟩
theorem Lst.below {w w' : World} {B g N c : Nat} {G O K : Nat → Nat} {f : Nat → Nat → Nat} (h : Lst w B g N c G O K f) (hb : Below w.heap.size w w') : Lst w' B g N c G O K f :=
  ⟨h.low, h.top.below hb, fun i hi k hk => (hb.cell (p := ⟨G i, O i + k, none⟩) (World.block_lt_of_cell? _ _ (h.row i hi k hk))).trans (h.row i hi k hk), h.apart⟩

theorem rowC_kept {w w' : World} {N : Nat} {v : Value} {n : Nat} {xs : List Value} (ho : w.ownsRow N 34 1 v n xs) (hg : w.grownBy w' v.ownBlock) {x c : Nat} {F : Nat → Value} (hx : RowC w x 5 c F) : RowC w' x 5 c F :=
  hx.of_block (hg.block x hx.lt (fun e => by
    obtain ⟨F2, h2⟩ := owns_block ho e.symm
    exact hx.ne h2 (by decide) rfl))
theorem list_cells {w : World} {b o m : Nat} {F : Nat → Value} (h : ∀ r, r < m → w.cell? ⟨b, o + r, none⟩ = some (F r)) : ∀ j u, ((List.range m).map F)[j]? = some u → w.cell? ((⟨b, o, none⟩ : Addr).add j) = some u := fun j u hj => by
  rcases Nat.lt_or_ge j m with hjm | hjm
  · simp [hjm] at hj
    rw [WideShapes.add_plain, h j hjm, ← hj]
  · simp [List.getElem?_eq_none (show ((List.range m).map F).length ≤ j by simpa using hjm)] at hj

theorem top_kept {w w' : World} {row : Option Nat} {N b s c : Nat} {G : Nat → Nat} {f : Nat → Nat → Nat} (ho : Own w N b s c G f) (hg : w.grownBy w' row) (hne : some b ≠ row) : ∀ r, r < s → w'.cell? ⟨b, 0 + r, none⟩ = some (.slice (some ⟨G r, 0, none⟩) c c) := fun r hr => by
  rw [Nat.zero_add]
  exact hg.cell (ho.top.cell hr) hne

theorem getD_left {n s i : Nat} {F F' : Nat → Value} {d : Value} (h : i < n) : ((List.range n).map F ++ (List.range s).map F').getD i d = F i := by
  rw [List.getD, List.getElem?_append_left (by simpa using h)]
  simp [h]
theorem getD_right {n s j : Nat} {F F' : Nat → Value} {d : Value} (h : j < s) : ((List.range n).map F ++ (List.range s).map F').getD (n + j) d = F' j := by
  rw [List.getD, List.getElem?_append_right (by simp)]
  simp [h]

set_option maxHeartbeats 400000 in
theorem all_bad (v : Value) (n : Nat) (L : Nat → Nat) (f : Nat → Nat → Nat) (s : Int) (w : World) (h : Arg w v n L f) (hx : spareE n L s ≠ 0) :
    Calls Try.prog 26 #[v, .int .i64 s] w fun e w' => e = .returned (.tuple #[.slice none 0 0, .bool true]) ∧ Below w.heap.size w w' := by
  have H := spareO v n L f s w h
  obtain ⟨A, cap, R, C, rfl, _⟩ := h.lies
  generalize spareE n L s = x at H hx
  have hx' : ((x : Int) == 0) = false := by rw [beq_eq_false_iff_ne]; omega
  have hxn : ((x : Int) != 0) = true := by rw [bne, hx']; rfl
  clear h
  go_enter Try.func26, Try.ntmps26
  go_wp2_with fail
  refine H.mono ?_
  rintro e w1 ⟨v', rfl, ho, b1⟩
  rcases ho with ⟨h1, _⟩ | ⟨_, rfl⟩
  · exact absurd h1 hx
  clear H hx
  go_wp2_with fail
  go_ret2
  exact ⟨rfl, b1⟩

set_option maxHeartbeats 1000000 in
theorem all_some (v : Value) (n s c : Nat) (f : Nat → Nat → Nat) (w : World) (h : Mx w v n c f) (h2 : n ≤ 8) (h3 : 1 ≤ s) (h4 : s ≤ 4) :
    Calls Try.prog 26 #[v, .int .i64 (s : Int)] w fun e w' => ∃ g cap, e = .returned (.tuple #[.slice (some ⟨g, 0, none⟩) (n + s) cap, .bool true]) ∧ n + s ≤ cap ∧ (∃ G O K, Lst w' w.heap.size g (n + s) c G O K (Gf.mm n (Gf.rowF n) f)) ∧ Below w.heap.size w w' := by
  have hbd := h.bd
  obtain ⟨d1, d2, d3, d4⟩ := h.dim
  have H := spare_own v n s c f w h h2 h3 h4
  obtain ⟨bl, ol, pl, Gl, Ol, Kl, rfl, hm⟩ := h.lies
  obtain ⟨i0, hi, hh⟩ := Option.map_eq_some_iff.1 Try.infoRow
  simp only [Prod.mk.injEq] at hh
  obtain ⟨hz0, hz1, hz2⟩ := hh
  clear h
  go_enter Try.func26, Try.ntmps26
  go_wp2_with fail
  refine H.mono ?_
  rintro e w1 ⟨bS, GS, rfl, hoS, b1⟩
  have hbX := (Below.refl w1.heap.size w1).alloc (Nat.le_refl _) (.cells #[] 34)
  have bX := bt b1 hbX
  have hown0 : (w1.alloc (.cells #[] 34)).ownsRow w.heap.size 34 1 (.slice (some ⟨w1.heap.size, 0, none⟩) 0 0) 0 [] := World.ownsRow_made w1 #[] 0 b1.size (by unfold maxLen; omega) rfl
  have hn1 := list_cells (fun r hr => (hm.below bX).top r hr)
  have oS0 := hoS.below hbX
  have hneS : some bS ≠ (Value.slice (some ⟨w1.heap.size, 0, none⟩) 0 0).ownBlock := by
    have := hoS.top.lt
    simp [Value.ownBlock]
    omega
  clear H
  go_wp2_with (first
    | (at_builtin; refine wpList_append_own _ rfl (.tmp 29) (.tmp 30) 22 rfl w.heap.size 34 i0 (.slice none 0 0) 1 24 Try.underlying22 hi hz0 hz1 hz2 rfl (by decide) _ _ _ rfl hown0 ⟨bl, ol, none⟩ n pl ((List.range n).map fun r => .slice (some ⟨Gl r, Ol r, none⟩) c (Kl r)) rfl (by simp) hn1 (by intro u hu; obtain ⟨_, _, rfl⟩ := List.mem_map.1 hu; rfl) (by unfold maxLen; omega) (by omega) bX.size ?_; intro v1 w2 hown1 hgrow1 _; rw [Nat.zero_add, List.nil_append] at hown1; have b2 : Below w.heap.size w w2 := bX.grown hgrow1 bX.size (fun x hx => (hown0.lt x hx).1); have rS2 := fun i hi => rowC_kept hown0 hgrow1 (rowC_of (oS0.row i hi)); have tS2 := top_kept oS0 hgrow1 hneS; have hn2 := list_cells tS2)
    | (at_builtin; refine wpList_append_own _ rfl (.tmp 31) (.tmp 32) 22 rfl w.heap.size 34 i0 (.slice none 0 0) 1 24 Try.underlying22 hi hz0 hz1 hz2 rfl (by decide) _ _ _ rfl hown1 ⟨bS, 0, none⟩ s s ((List.range s).map fun r => .slice (some ⟨GS r, 0, none⟩) c c) rfl (by simp) hn2 (by intro u hu; obtain ⟨_, _, rfl⟩ := List.mem_map.1 hu; rfl) (by unfold maxLen; omega) (by omega) b2.size ?_; intro v2 w3 hown2 hgrow2 _))
  have b3 : Below w.heap.size w w3 := b2.grown hgrow2 b2.size (fun x hx => (hown1.lt x hx).1)
  have rS3 := fun i hi => rowC_kept hown1 hgrow2 (rS2 i hi)
  obtain ⟨g, cap, rfl, hg, hcap, hrow⟩ := rowC_owns hown2 (by omega)
  have hm3 := hm.below b3
  have HL : Hid (∃ G O K, Lst w3 w.heap.size g (n + s) c G O K (Gf.mm n (Gf.rowF n) f)) := by
    refine ⟨fun i => if i < n then Gl i else GS (i - n), fun i => if i < n then Ol i else 0, fun i => if i < n then Kl i else c, hg, hrow.congr (fun i hi => ?_), fun i hi k hk => ?_, fun i hi => ?_⟩
    · by_cases hin : i < n
      · refine (getD_left hin).trans ?_
        simp only [if_pos hin]
      · obtain ⟨j, rfl⟩ : ∃ j, i = n + j := ⟨i - n, by omega⟩
        refine (getD_right (show j < s by omega)).trans ?_
        simp only [if_neg hin, Nat.add_sub_cancel_left]
    · by_cases hin : i < n
      · rw [if_pos hin, if_pos hin, allF_data hbd hin]
        exact hm3.row i hin k hk
      · obtain ⟨j, rfl⟩ : ∃ j, i = n + j := ⟨i - n, by omega⟩
        rw [if_neg hin, if_neg hin, Nat.add_sub_cancel_left, Nat.zero_add]
        exact (rS3 j (by omega)).cell hk
    · by_cases hin : i < n
      · rw [if_pos hin]
        have := World.block_lt_of_cell? _ _ (hm.row i hin 0 (by omega))
        have h5 : Gl i < w.heap.size := this
        omega
      · rw [if_neg hin]
        exact (rS3 (i - n) (by omega)).ne hrow (by decide)
  clear hown0 hn1 oS0 hown1 hgrow1 rS2 tS2 hn2 hown2 hgrow2 rS3 hrow hm3 hm hoS
  go_wp2_with fail
  go_ret2
  exact ⟨g, cap, rfl, hcap, HL.out, b3⟩

set_option maxHeartbeats 1000000 in
theorem all_none (v : Value) (n s c : Nat) (f : Nat → Nat → Nat) (w : World) (h : Mx w v n c f) (h2 : n ≤ 8) (hs : s = 0) :
    Calls Try.prog 26 #[v, .int .i64 (s : Int)] w fun e w' => ∃ g cap, e = .returned (.tuple #[.slice (some ⟨g, 0, none⟩) (n + s) cap, .bool true]) ∧ n + s ≤ cap ∧ (∃ G O K, Lst w' w.heap.size g (n + s) c G O K (Gf.mm n (Gf.rowF n) f)) ∧ Below w.heap.size w w' := by
  subst hs
  have hbd := h.bd
  obtain ⟨d1, d2, d3, d4⟩ := h.dim
  have H := spare_none v n (fun _ => c) f w h.arg d1 h2 h.ok
  obtain ⟨bl, ol, pl, Gl, Ol, Kl, rfl, hm⟩ := h.lies
  obtain ⟨i0, hi, hh⟩ := Option.map_eq_some_iff.1 Try.infoRow
  simp only [Prod.mk.injEq] at hh
  obtain ⟨hz0, hz1, hz2⟩ := hh
  clear h
  go_enter Try.func26, Try.ntmps26
  go_wp2_with fail
  refine H.mono ?_
  rintro e w1 ⟨rfl, b1⟩
  have hbX := (Below.refl w1.heap.size w1).alloc (Nat.le_refl _) (.cells #[] 34)
  have bX := bt b1 hbX
  have hown0 : (w1.alloc (.cells #[] 34)).ownsRow w.heap.size 34 1 (.slice (some ⟨w1.heap.size, 0, none⟩) 0 0) 0 [] := World.ownsRow_made w1 #[] 0 b1.size (by unfold maxLen; omega) rfl
  have hn1 := list_cells (fun r hr => (hm.below bX).top r hr)
  clear H
  go_wp2_with (first
    | (at_builtin; refine wpList_append_own _ rfl (.tmp 29) (.tmp 30) 22 rfl w.heap.size 34 i0 (.slice none 0 0) 1 24 Try.underlying22 hi hz0 hz1 hz2 rfl (by decide) _ _ _ rfl hown0 ⟨bl, ol, none⟩ n pl ((List.range n).map fun r => .slice (some ⟨Gl r, Ol r, none⟩) c (Kl r)) rfl (by simp) hn1 (by intro u hu; obtain ⟨_, _, rfl⟩ := List.mem_map.1 hu; rfl) (by unfold maxLen; omega) (by omega) bX.size ?_; intro v1 w2 hown1 hgrow1 _; rw [Nat.zero_add, List.nil_append] at hown1; have b2 : Below w.heap.size w w2 := bX.grown hgrow1 bX.size (fun x hx => (hown0.lt x hx).1); obtain ⟨g, cap, rfl, hg, hcap, hrow⟩ := rowC_owns hown1 d1; have hrun := fun W ty => app_nil W 22 22 Try.underlying22 Try.underlying22 g 0 n cap hcap ty)
    | (at_builtin; refine Lib.wpList_append_run _ rfl (.tmp 31) (.tmp 32) 22 22 rfl _ _ rfl rfl _ _ (hrun _ _) ?_))
  have hm2 := hm.below b2
  have HL : Hid (∃ G O K, Lst w2 w.heap.size g n c G O K (Gf.mm n (Gf.rowF n) f)) := by
    refine ⟨Gl, Ol, Kl, hg, hrow.congr (fun i hi => by simp [List.getD, hi]), fun i hi k hk => ?_, fun i hi => ?_⟩
    · rw [allF_data hbd hi]
      exact hm2.row i hi k hk
    · have := World.block_lt_of_cell? _ _ (hm.row i hi 0 (by omega))
      have h5 : Gl i < w.heap.size := this
      omega
  clear hown0 hn1 hown1 hgrow1 hrow hm2 hm hrun
  go_wp2_with fail
  go_ret2
  exact ⟨g, cap, rfl, hcap, HL.out, b2⟩

theorem all_any (v : Value) (n s c : Nat) (f : Nat → Nat → Nat) (w : World) (h : Mx w v n c f) (h2 : n ≤ 8) (h4 : s ≤ 4) :
    Calls Try.prog 26 #[v, .int .i64 (s : Int)] w fun e w' => ∃ g cap, e = .returned (.tuple #[.slice (some ⟨g, 0, none⟩) (n + s) cap, .bool true]) ∧ n + s ≤ cap ∧ (∃ G O K, Lst w' w.heap.size g (n + s) c G O K (Gf.mm n (Gf.rowF n) f)) ∧ Below w.heap.size w w' := by
  rcases Nat.eq_zero_or_pos s with hs | hs
  · exact all_none v n s c f w h h2 hs
  · exact all_some v n s c f w h h2 hs h4

end Go.Proofs.Ytbidimaljeblgab
