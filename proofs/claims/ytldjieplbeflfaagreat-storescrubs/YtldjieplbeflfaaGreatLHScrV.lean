/-
  StoreScrubs, a wrong setup, walked.
-/
import Derived.Test.YtldjieplbeflfaaGreatX43
import Derived.Test.YtldjieplbeflfaaGreatX42
import Derived.Test.YtldjieplbeflfaaGreatX16
import Derived.Test.YtldjieplbeflfaaGreatLHScrB
import Derived.Deep.CutRange
namespace Go.Proofs.YtldjieplbeflfaaGreat
open Go.RowKit
set_option linter.unusedVariables false

set_option maxHeartbeats 8000000 in
set_option maxRecDepth 100000 in
/-- A wrong setup. -/
theorem scrub_bad (w : World) (d s b : Int) (A : Option Addr) (C : Nat) (l : List Sto.Do) (hD : Dos w (.slice A l.length C) l) (h77 : l.length ≤ 77) (h0 : wrongS d s b ≠ 0) :
    Calls Tryz.prog 5 #[.agg #[.int .i64 d, .int .i64 s, .int .i64 b], .slice A l.length C] w fun e w' => e = .returned (.bool true) ∧ Below w.heap.size w w' := by
  have b0 : Below w.heap.size w (w.alloc (.cells #[.int .i64 d, .int .i64 s, .int .i64 b] 23)) := (Below.refl _ _).alloc (Nat.le_refl _) _
  have VS := varN_new w #[.int .i64 d, .int .i64 s, .int .i64 b] 23
  have HA := alive_any (w.alloc (.cells #[.int .i64 d, .int .i64 s, .int .i64 b] 23))
  have HD : Hid (∀ w', Below w.heap.size w w' → Dos w' (.slice A l.length C) l) := fun w' hb => hD.below hb
  obtain ⟨_, _, hv0, hc1, hc2, hdo⟩ := hD
  cases hv0
  have hAn : A = none → l.length = 0 := fun e => by
    by_cases q : l.length = 0
    · exact q
    · obtain ⟨b, o, e2, _⟩ := hdo 0 l[0] (List.getElem?_eq_getElem (by omega))
      rw [e] at e2
      cases e2
  have hc2 : C ≤ 9223372036854775807 := by unfold maxLen at hc2; exact hc2
  obtain ⟨x, hx⟩ : ∃ x, x = wrongS d s b := ⟨_, rfl⟩
  have HPB : Hid (∀ w' A' n' C', Calls Tryz.prog 10 #[.agg #[.int .i64 d, .int .i64 s, .int .i64 b], .slice A' n' C'] w' fun e w2 => NoPlay e w' w2 x) := fun w' A' n' C' => play_bad d s b A' n' C' w' x hx (by rw [hx]; exact h0)
  have hx0 : x ≠ 0 := by rw [hx]; exact h0
  have hxn : ((x : Int) != 0) = true := by rw [bne_iff_ne]; omega
  obtain ⟨n, hn⟩ : ∃ n, n = l.length := ⟨_, rfl⟩
  have HN : Hid (n = l.length) := hn
  rw [← hn] at hc1 h77 HD hAn ⊢
  clear hn hdo h0 hx hx0
  have hwr : IntKind.i64.wrap ((n : Int) + 3) = (n : Int) + 3 := by rw [IntKind.wrap_i64]; omega
  have x1 : decide ((80 : Int) < (n : Int) + 3) = false := decide_eq_false (by omega)
  go_enter Tryz.func5, Tryz.ntmps5
  go_wp2_with fail
  refine HA.mono ?_
  rintro e W ⟨rfl, b1⟩
  have VSW := VS.below b1
  have bW := bt b0 b1
  clear HA VS b0 b1
  go_upto_region 5 with fail
  obtain ⟨qs, hqm, hqi, hqc⟩ := dos_cells (HD.out W bW)
  have hql : qs.length = n := by
    have := congrArg List.length hqm
    rw [List.length_map] at this
    rw [this, HN.out]
  have HQC : Hid (∀ wX, Below W.heap.size W wX → ∀ A', A = some A' → ∀ j u, (qs.flatMap doC)[j]? = some u → wX.cell? (A'.add j) = some u) := fun wX hb A' e j u hj => by
    have h1 := hqc A' C (by rw [← e, HN.out]) j u hj
    exact (hb.cell (World.block_lt_of_cell? _ _ h1)).trans h1
  have HDI : Hid (∀ q, q ∈ ([((⟨8, 0, 0, 0, 0, ⟨0, []⟩, [], 0⟩ : Sto.Do), .slice none 0 0, ByteArray.empty), ((⟨9, 0, 0, 0, 0, ⟨0, []⟩, [], 0⟩ : Sto.Do), .slice none 0 0, ByteArray.empty), ((⟨8, 0, 0, 0, 0, ⟨0, []⟩, [], 0⟩ : Sto.Do), .slice none 0 0, ByteArray.empty)] : List DoC) → DoIn W q.1 q.2.1 q.2.2) := fun q hq => by
    simp only [List.mem_cons, List.not_mem_nil, or_false] at hq
    rcases hq with rfl | rfl | rfl <;> exact ⟨evs_empty W none 0 (Nat.zero_le _), rfl, Nat.zero_le _, show (0 : Nat) < 256 by decide⟩
  have HQ1 : Hid (∀ q, q ∈ qs → q.2.1.oneCell' = true) := fun q hq => (hqi q hq).2
  have HQ2 : Hid (∀ q, q ∈ ([((⟨8, 0, 0, 0, 0, ⟨0, []⟩, [], 0⟩ : Sto.Do), .slice none 0 0, ByteArray.empty), ((⟨9, 0, 0, 0, 0, ⟨0, []⟩, [], 0⟩ : Sto.Do), .slice none 0 0, ByteArray.empty), ((⟨8, 0, 0, 0, 0, ⟨0, []⟩, [], 0⟩ : Sto.Do), .slice none 0 0, ByteArray.empty)] : List DoC) → q.2.1.oneCell' = true) := fun q hq => by
    simp only [List.mem_cons, List.not_mem_nil, or_false] at hq
    rcases hq with rfl | rfl | rfl <;> rfl
  have HPL : Hid (∀ wX v, RD W wX v (qs ++ [((⟨8, 0, 0, 0, 0, ⟨0, []⟩, [], 0⟩ : Sto.Do), .slice none 0 0, ByteArray.empty), ((⟨9, 0, 0, 0, 0, ⟨0, []⟩, [], 0⟩ : Sto.Do), .slice none 0 0, ByteArray.empty), ((⟨8, 0, 0, 0, 0, ⟨0, []⟩, [], 0⟩ : Sto.Do), .slice none 0 0, ByteArray.empty)]) → Calls Tryz.prog 10 #[.agg #[.int .i64 d, .int .i64 s, .int .i64 b], v] wX fun e w2 => NoPlay e wX w2 x) := fun wX v hRD => by
    obtain ⟨A', C', hv, _⟩ := row_shape hRD.own
    rw [hv]
    exact HPB.out wX A' _ C'
  have HSo : ∀ w', Below W.heap.size W w' → (w'.cell? ⟨w.heap.size, 0, none⟩ = some (.int .i64 d) ∧ w'.cell? ⟨w.heap.size, 1, none⟩ = some (.int .i64 s) ∧ w'.cell? ⟨w.heap.size, 2, none⟩ = some (.int .i64 b)) ∧ Below W.heap.size W w' := fun w' hb => ⟨⟨(VSW.below hb).cell (i := 0) rfl, (VSW.below hb).cell (i := 1) rfl, (VSW.below hb).cell (i := 2) rfl⟩, hb⟩
  have HPL8 := HPL.out
  have HQC8 := HQC.out
  have hql' : qs.length + 3 ≤ 1000 := by omega
  have TD := HSo W.drew (Below.refl _ _).drew
  have bA1 : ∀ x, Below W.heap.size W (W.alloc x).drew := fun x => (belA1 W x).drew
  have bA2 : ∀ x y, Below W.heap.size W ((W.alloc x).alloc y).drew := fun x y => (belA2 W x y).drew
  have bA3 : ∀ x y z, Below W.heap.size W (((W.alloc x).alloc y).alloc z).drew := fun x y z => (belA3 W x y z).drew
  have HKEY : Hid (qs.length = n) := hql
  clear hqm hqi hqc VSW HDI hql
  go_cut [5, 6, 7] from 19 to 31 (fun p5 v6 v7 wx => v7 = .int .i64 (x : Int) ∧ Below W.heap.size W wx)
  case first =>
    go_region_held3 (fun w' => (w'.cell? ⟨w.heap.size, 0, none⟩ = some (.int .i64 d) ∧ w'.cell? ⟨w.heap.size, 1, none⟩ = some (.int .i64 s) ∧ w'.cell? ⟨w.heap.size, 2, none⟩ = some (.int .i64 b)) ∧ Below W.heap.size W w')
      (first | with_reducible exact TD | with_reducible assumption | with_reducible exact HSo _ (bA1 _) | with_reducible exact HSo _ (bA2 _ _) | with_reducible exact HSo _ (bA3 _ _ _) | with_reducible exact HSo _ (R6.alloc _).bel | with_reducible exact HSo _ ((R6.alloc _).alloc _).bel | with_reducible exact HSo _ (R7.alloc _).bel | with_reducible exact HSo _ (bel_al B8) | with_reducible exact HSo _ (bel_nine B8 (by omega)))
      (first | (refine app_rd rfl (.tmp 20) (.tmp 21) rfl (ys := qs) rfl rfl (hAn) (by first | exact rdE | exact rdEo | exact rdoE | exact rdEop | exact rdoEp | exact rdopE) HKEY.out (HQC8 _ (by first | exact bA1 _ | exact bA2 _ _ | exact bA3 _ _ _)) HQ1.out (by simp only [List.length_nil]; omega) ?_; intro v6 w6 R6 TR; (first | (have T6 := TR _ _ _ (td_Eo (cs := #[.int .i64 8, .int .i64 0, .int .i64 0, .int .i64 0, .int .u8 0, .int .i64 0, .slice none 0 0, .string ByteArray.empty, .int .i64 0, .int .i64 9, .int .i64 0, .int .i64 0, .int .i64 0, .int .u8 0, .int .i64 0, .slice none 0 0, .string ByteArray.empty, .int .i64 0, .int .i64 8, .int .i64 0, .int .i64 0, .int .i64 0, .int .u8 0, .int .i64 0, .slice none 0 0, .string ByteArray.empty, .int .i64 0]) (t := 43))) | (have T6 := TR _ _ _ (td_oE (cs := #[.int .i64 8, .int .i64 0, .int .i64 0, .int .i64 0, .int .u8 0, .int .i64 0, .slice none 0 0, .string ByteArray.empty, .int .i64 0, .int .i64 9, .int .i64 0, .int .i64 0, .int .i64 0, .int .u8 0, .int .i64 0, .slice none 0 0, .string ByteArray.empty, .int .i64 0, .int .i64 8, .int .i64 0, .int .i64 0, .int .i64 0, .int .u8 0, .int .i64 0, .slice none 0 0, .string ByteArray.empty, .int .i64 0]) (t := 43))) | (have T6 := TR _ _ _ (td_Eop (cs := #[.int .i64 8, .int .i64 0, .int .i64 0, .int .i64 0, .int .u8 0, .int .i64 0, .slice none 0 0, .string ByteArray.empty, .int .i64 0, .int .i64 9, .int .i64 0, .int .i64 0, .int .i64 0, .int .u8 0, .int .i64 0, .slice none 0 0, .string ByteArray.empty, .int .i64 0, .int .i64 8, .int .i64 0, .int .i64 0, .int .i64 0, .int .u8 0, .int .i64 0, .slice none 0 0, .string ByteArray.empty, .int .i64 0]) (t := 43))) | (have T6 := TR _ _ _ (td_Epo (cs := #[.int .i64 8, .int .i64 0, .int .i64 0, .int .i64 0, .int .u8 0, .int .i64 0, .slice none 0 0, .string ByteArray.empty, .int .i64 0, .int .i64 9, .int .i64 0, .int .i64 0, .int .i64 0, .int .u8 0, .int .i64 0, .slice none 0 0, .string ByteArray.empty, .int .i64 0, .int .i64 8, .int .i64 0, .int .i64 0, .int .i64 0, .int .u8 0, .int .i64 0, .slice none 0 0, .string ByteArray.empty, .int .i64 0]) (t := 43))) | (have T6 := TR _ _ _ (td_oEp (cs := #[.int .i64 8, .int .i64 0, .int .i64 0, .int .i64 0, .int .u8 0, .int .i64 0, .slice none 0 0, .string ByteArray.empty, .int .i64 0, .int .i64 9, .int .i64 0, .int .i64 0, .int .i64 0, .int .u8 0, .int .i64 0, .slice none 0 0, .string ByteArray.empty, .int .i64 0, .int .i64 8, .int .i64 0, .int .i64 0, .int .i64 0, .int .u8 0, .int .i64 0, .slice none 0 0, .string ByteArray.empty, .int .i64 0]) (t := 43))) | (have T6 := TR _ _ _ (td_pEo (cs := #[.int .i64 8, .int .i64 0, .int .i64 0, .int .i64 0, .int .u8 0, .int .i64 0, .slice none 0 0, .string ByteArray.empty, .int .i64 0, .int .i64 9, .int .i64 0, .int .i64 0, .int .i64 0, .int .u8 0, .int .i64 0, .slice none 0 0, .string ByteArray.empty, .int .i64 0, .int .i64 8, .int .i64 0, .int .i64 0, .int .i64 0, .int .u8 0, .int .i64 0, .slice none 0 0, .string ByteArray.empty, .int .i64 0]) (t := 43))) | (have T6 := TR _ _ _ (td_opE (cs := #[.int .i64 8, .int .i64 0, .int .i64 0, .int .i64 0, .int .u8 0, .int .i64 0, .slice none 0 0, .string ByteArray.empty, .int .i64 0, .int .i64 9, .int .i64 0, .int .i64 0, .int .i64 0, .int .u8 0, .int .i64 0, .slice none 0 0, .string ByteArray.empty, .int .i64 0, .int .i64 8, .int .i64 0, .int .i64 0, .int .i64 0, .int .u8 0, .int .i64 0, .slice none 0 0, .string ByteArray.empty, .int .i64 0]) (t := 43))) | (have T6 := TR _ _ _ (td_poE (cs := #[.int .i64 8, .int .i64 0, .int .i64 0, .int .i64 0, .int .u8 0, .int .i64 0, .slice none 0 0, .string ByteArray.empty, .int .i64 0, .int .i64 9, .int .i64 0, .int .i64 0, .int .i64 0, .int .u8 0, .int .i64 0, .slice none 0 0, .string ByteArray.empty, .int .i64 0, .int .i64 8, .int .i64 0, .int .i64 0, .int .i64 0, .int .u8 0, .int .i64 0, .slice none 0 0, .string ByteArray.empty, .int .i64 0]) (t := 43))) | skip); (first | (have Z6 := TR _ _ _ (td_Eo (cs := zSt) (t := 33))) | (have Z6 := TR _ _ _ (td_oE (cs := zSt) (t := 33))) | (have Z6 := TR _ _ _ (td_Eop (cs := zSt) (t := 33))) | (have Z6 := TR _ _ _ (td_Epo (cs := zSt) (t := 33))) | (have Z6 := TR _ _ _ (td_oEp (cs := zSt) (t := 33))) | (have Z6 := TR _ _ _ (td_pEo (cs := zSt) (t := 33))) | (have Z6 := TR _ _ _ (td_opE (cs := zSt) (t := 33))) | (have Z6 := TR _ _ _ (td_poE (cs := zSt) (t := 33))) | skip); have S6 := HSo w6 R6.bel; have hs6 := R6.bel.size; simp only [List.nil_append] at R6)
             | (refine app_rd rfl (.tmp 22) (.tmp 26) rfl (ys := [((⟨8, 0, 0, 0, 0, ⟨0, []⟩, [], 0⟩ : Sto.Do), .slice none 0 0, ByteArray.empty), ((⟨9, 0, 0, 0, 0, ⟨0, []⟩, [], 0⟩ : Sto.Do), .slice none 0 0, ByteArray.empty), ((⟨8, 0, 0, 0, 0, ⟨0, []⟩, [], 0⟩ : Sto.Do), .slice none 0 0, ByteArray.empty)]) rfl rfl (fun e => by cases e) (by first | exact R6 | exact R6.alloc _ | exact (R6.alloc _).alloc _) rfl (by first | exact (fun A9 e => by cases e; exact T6.cells) | exact (fun A9 e => by cases e; exact (T6.alloc _).cells) | exact (fun A9 e => by cases e; exact (td_n0 (cs := #[.int .i64 8, .int .i64 0, .int .i64 0, .int .i64 0, .int .u8 0, .int .i64 0, .slice none 0 0, .string ByteArray.empty, .int .i64 0, .int .i64 9, .int .i64 0, .int .i64 0, .int .i64 0, .int .u8 0, .int .i64 0, .slice none 0 0, .string ByteArray.empty, .int .i64 0, .int .i64 8, .int .i64 0, .int .i64 0, .int .i64 0, .int .u8 0, .int .i64 0, .slice none 0 0, .string ByteArray.empty, .int .i64 0]) (t := 43) R6).cells) | exact (fun A9 e => by cases e; exact ((td_n0 (cs := #[.int .i64 8, .int .i64 0, .int .i64 0, .int .i64 0, .int .u8 0, .int .i64 0, .slice none 0 0, .string ByteArray.empty, .int .i64 0, .int .i64 9, .int .i64 0, .int .i64 0, .int .i64 0, .int .u8 0, .int .i64 0, .slice none 0 0, .string ByteArray.empty, .int .i64 0, .int .i64 8, .int .i64 0, .int .i64 0, .int .i64 0, .int .u8 0, .int .i64 0, .slice none 0 0, .string ByteArray.empty, .int .i64 0]) (t := 43) R6).alloc _).cells) | exact (fun A9 e => by cases e; exact (td_n1 (cs := #[.int .i64 8, .int .i64 0, .int .i64 0, .int .i64 0, .int .u8 0, .int .i64 0, .slice none 0 0, .string ByteArray.empty, .int .i64 0, .int .i64 9, .int .i64 0, .int .i64 0, .int .i64 0, .int .u8 0, .int .i64 0, .slice none 0 0, .string ByteArray.empty, .int .i64 0, .int .i64 8, .int .i64 0, .int .i64 0, .int .i64 0, .int .u8 0, .int .i64 0, .slice none 0 0, .string ByteArray.empty, .int .i64 0]) (t := 43) R6 _).cells)) HQ2.out hql' ?_; intro v7 w7 R7 TR7; (first | (have Z7 := TR7 _ _ _ Z6) | (have Z7 := TR7 _ _ _ (Z6.alloc _)) | (have Z7 := TR7 _ _ _ (td_n0 (cs := zSt) (t := 33) R6)) | (have Z7 := TR7 _ _ _ ((td_n0 (cs := zSt) (t := 33) R6).alloc _)) | (have Z7 := TR7 _ _ _ (td_n1 (cs := zSt) (t := 33) R6 _)) | skip); have S7 := HSo w7 R7.bel; have hs7 := R7.bel.size)
             | (go_at_call 10; refine (HPL8 _ _ (by first | exact R7 | exact R7.alloc _)).mono ?_; rintro e8 w8 ⟨rfl, b8⟩; have B8 : Below W.heap.size W w8 := (by first | exact bt R7.bel b8 | exact bt (R7.alloc _).bel b8); have S8 := HSo w8 B8; (first | (have Y := Z7.row.below b8; have y0 := Y.cell (i := 0) rfl; have f0 := Y.frozen 0; have y1 := Y.cell (i := 1) rfl; have f1 := Y.frozen 1; have y2 := Y.cell (i := 2) rfl; have f2 := Y.frozen 2; have y3 := Y.cell (i := 3) rfl; have f3 := Y.frozen 3; have y4 := Y.cell (i := 4) rfl; have f4 := Y.frozen 4; have y5 := Y.cell (i := 5) rfl; have f5 := Y.frozen 5; have y6 := Y.cell (i := 6) rfl; have f6 := Y.frozen 6; have y7 := Y.cell (i := 7) rfl; have f7 := Y.frozen 7; have y8 := Y.cell (i := 8) rfl; have f8 := Y.frozen 8; have Yl : _ < w8.heap.size := RowC.lt Y; have Yn := Nat.ne_of_lt Yl; have Ym := Nat.ne_of_gt Yl) | (have Y := (varN_new w7 zSt 33).below b8; have y0 := Y.cell (i := 0) rfl; have f0 := Y.frozen 0; have y1 := Y.cell (i := 1) rfl; have f1 := Y.frozen 1; have y2 := Y.cell (i := 2) rfl; have f2 := Y.frozen 2; have y3 := Y.cell (i := 3) rfl; have f3 := Y.frozen 3; have y4 := Y.cell (i := 4) rfl; have f4 := Y.frozen 4; have y5 := Y.cell (i := 5) rfl; have f5 := Y.frozen 5; have y6 := Y.cell (i := 6) rfl; have f6 := Y.frozen 6; have y7 := Y.cell (i := 7) rfl; have f7 := Y.frozen 7; have y8 := Y.cell (i := 8) rfl; have f8 := Y.frozen 8; have Yl : _ < w8.heap.size := RowC.lt Y; have Yn := Nat.ne_of_lt Yl; have Ym := Nat.ne_of_gt Yl) | skip)))
    all_goals go_wp2_with fail
    all_goals go_meet
    all_goals first | with_reducible exact ⟨rfl, bel_al B8⟩ | with_reducible exact ⟨rfl, bel_nine B8 (by omega)⟩ | with_reducible exact ⟨rfl, B8⟩
  case rest =>
    obtain ⟨rfl, bP⟩ := hcut
    have bz := bt bW bP
    clear HSo TD bA1 bA2 bA3 HPL8 HQC8 HPL HQC HQ1 HQ2 HKEY hql'
    go_wp2_with fail
    go_ret
    exact ⟨rfl, bz⟩

end Go.Proofs.YtldjieplbeflfaaGreat
