/-
  StoreScrubs, walked.
-/
import Derived.Test.YtldjieplbeflfaaGreatX43
import Derived.Test.YtldjieplbeflfaaGreatX42
import Derived.Test.YtldjieplbeflfaaGreatX16
import Derived.Test.YtldjieplbeflfaaGreatLHScrB
import Derived.Deep.CutRange
namespace Go.Proofs.YtldjieplbeflfaaGreat
open Go.RowKit
set_option linter.unusedVariables false

set_option maxHeartbeats 8000000 in
set_option maxRecDepth 100000 in
/-- A right one. -/
theorem scrub_main (w : World) (d s b : Int) (A : Option Addr) (C : Nat) (l : List Sto.Do) (hD : Dos w (.slice A l.length C) l) (hz : ∀ d, d ∈ l → RngD d) (c : Sto.Cfg) (ed : d = (c.d : Int)) (es : s = (c.s : Int)) (eb : b = (c.b : Int)) (h1 : 1 ≤ c.d) (h2 : c.d ≤ 8) (h3 : c.s ≤ 4) (h4 : 1 ≤ c.b) (h5 : c.b ≤ 10) (X : Sto.Six) (hX : Sto.SixOk X) (h77 : l.length ≤ 77) :
    Calls Tryz.prog 5 #[.agg #[.int .i64 d, .int .i64 s, .int .i64 b], .slice A l.length C] w fun e w' => e = .returned (.bool true) ∧ Below w.heap.size w w' := by
  have b0 : Below w.heap.size w (w.alloc (.cells #[.int .i64 d, .int .i64 s, .int .i64 b] 23)) := (Below.refl _ _).alloc (Nat.le_refl _) _
  have VS := varN_new w #[.int .i64 d, .int .i64 s, .int .i64 b] 23
  have HA := alive_any (w.alloc (.cells #[.int .i64 d, .int .i64 s, .int .i64 b] 23))
  have HD : Hid (∀ w', Below w.heap.size w w' → Dos w' (.slice A l.length C) l) := fun w' hb => hD.below hb
  obtain ⟨r2, hr2⟩ : ∃ r2, r2 = Sto.steps X c (Sto.start c) (l ++ [(⟨8, 0, 0, 0, 0, ⟨0, []⟩, [], 0⟩ : Sto.Do), (⟨9, 0, 0, 0, 0, ⟨0, []⟩, [], 0⟩ : Sto.Do), (⟨8, 0, 0, 0, 0, ⟨0, []⟩, [], 0⟩ : Sto.Do)]) := ⟨_, rfl⟩
  have HP2 : Hid (∀ w' v, Dos w' v (l ++ [(⟨8, 0, 0, 0, 0, ⟨0, []⟩, [], 0⟩ : Sto.Do), (⟨9, 0, 0, 0, 0, ⟨0, []⟩, [], 0⟩ : Sto.Do), (⟨8, 0, 0, 0, 0, ⟨0, []⟩, [], 0⟩ : Sto.Do)]) → Calls Tryz.prog 10 #[.agg #[.int .i64 d, .int .i64 s, .int .i64 b], v] w' fun e w2 => PlayR e w' w2 c r2) := fun w' v hd => by
    rw [hr2]
    exact playR hX c d s b ed es eb h1 h2 h3 h4 h5 _ _ w' hd (by rw [List.length_append]; show l.length + 3 ≤ 80; omega)
  have HON : Hid (∀ w', Below w.heap.size w w' → Calls Tryz.prog 11 #[.slice A l.length C] w' fun e w2 => OnceY e l ∧ Below w'.heap.size w' w2) := fun w' hb => once_any l _ w' (HD.out w' hb) hz (by omega)
  have HSC : Hid (∃ a1 a2 a3, r2.2[l.length]? = some a1 ∧ r2.2[l.length + 1]? = some a2 ∧ r2.2[l.length + 2]? = some a3 ∧ (Sto.Once l [] → a1.err = 0 ∨ a1.err = 10) ∧ (a1.err = 0 → (∀ (i : Nat) (d : Sto.Disk), r2.1.disks[i]? = some d → d.gone = false → d.bl.length = r2.1.segs) ∧ a2.n = ((Sto.gcnt c r2.1.disks * r2.1.segs : Nat) : Int) ∧ a3.err = 0 ∧ a3.n = 0)) := Sto.scrubs hX l _ _ _ rfl rfl rfl (fun d hd => by
    obtain ⟨i, hi⟩ := List.mem_iff_getElem?.1 hd
    obtain ⟨_, _, _, _, _, hdo⟩ := hD
    obtain ⟨_, _, _, _, _, hdin, _⟩ := hdo i d hi
    exact hdin.byte) hr2
  have HSG : Hid (r2.1.segs ≤ 80 ∧ r2.1.disks.length = c.d + c.s) := by
    have q1 := Sto.steps_segs X c (l ++ [(⟨8, 0, 0, 0, 0, ⟨0, []⟩, [], 0⟩ : Sto.Do), (⟨9, 0, 0, 0, 0, ⟨0, []⟩, [], 0⟩ : Sto.Do), (⟨8, 0, 0, 0, 0, ⟨0, []⟩, [], 0⟩ : Sto.Do)]) (Sto.start c)
    have q2 := (Sto.si_steps (X := X) (l ++ [(⟨8, 0, 0, 0, 0, ⟨0, []⟩, [], 0⟩ : Sto.Do), (⟨9, 0, 0, 0, 0, ⟨0, []⟩, [], 0⟩ : Sto.Do), (⟨8, 0, 0, 0, 0, ⟨0, []⟩, [], 0⟩ : Sto.Do)]) (Sto.start c) (Sto.si_start c)).dl
    rw [← hr2] at q1 q2
    rw [List.length_append] at q1
    have q1 : r2.1.segs ≤ 0 + (l.length + 3) := q1
    exact ⟨by omega, q2⟩
  have HC12 : Hid (c.d + c.s ≤ 12) := show c.d + c.s ≤ 12 by omega
  obtain ⟨_, _, hv0, hc1, hc2, hdo⟩ := hD
  cases hv0
  have hAn : A = none → l.length = 0 := fun e => by
    by_cases q : l.length = 0
    · exact q
    · obtain ⟨b, o, e2, _⟩ := hdo 0 l[0] (List.getElem?_eq_getElem (by omega))
      rw [e] at e2
      cases e2
  have hc2 : C ≤ 9223372036854775807 := by unfold maxLen at hc2; exact hc2
  obtain ⟨n, hn⟩ : ∃ n, n = l.length := ⟨_, rfl⟩
  have HN : Hid (n = l.length) := hn
  rw [← hn] at hc1 h77 HD hAn HON HSC ⊢
  clear hn hdo hr2 h1 h2 h3 h4 h5 ed es eb hX hz
  have hwr : IntKind.i64.wrap ((n : Int) + 3) = (n : Int) + 3 := by rw [IntKind.wrap_i64]; omega
  have x1 : decide ((80 : Int) < (n : Int) + 3) = false := decide_eq_false (by omega)
  go_enter Tryz.func5, Tryz.ntmps5
  go_wp2_with fail
  refine HA.mono ?_
  rintro e W ⟨rfl, b1⟩
  have VSW := VS.below b1
  have bW := bt b0 b1
  clear HA VS b0 b1
  go_upto_region 5 with fail
  obtain ⟨qs, hqm, hqi, hqc⟩ := dos_cells (HD.out W bW)
  have hql : qs.length = n := by
    have := congrArg List.length hqm
    rw [List.length_map] at this
    rw [this, HN.out]
  have HQC : Hid (∀ wX, Below W.heap.size W wX → ∀ A', A = some A' → ∀ j u, (qs.flatMap doC)[j]? = some u → wX.cell? (A'.add j) = some u) := fun wX hb A' e j u hj => by
    have h1 := hqc A' C (by rw [← e, HN.out]) j u hj
    exact (hb.cell (World.block_lt_of_cell? _ _ h1)).trans h1
  have HDI : Hid (∀ q, q ∈ ([((⟨8, 0, 0, 0, 0, ⟨0, []⟩, [], 0⟩ : Sto.Do), .slice none 0 0, ByteArray.empty), ((⟨9, 0, 0, 0, 0, ⟨0, []⟩, [], 0⟩ : Sto.Do), .slice none 0 0, ByteArray.empty), ((⟨8, 0, 0, 0, 0, ⟨0, []⟩, [], 0⟩ : Sto.Do), .slice none 0 0, ByteArray.empty)] : List DoC) → DoIn W q.1 q.2.1 q.2.2) := fun q hq => by
    simp only [List.mem_cons, List.not_mem_nil, or_false] at hq
    rcases hq with rfl | rfl | rfl <;> exact ⟨evs_empty W none 0 (Nat.zero_le _), rfl, Nat.zero_le _, show (0 : Nat) < 256 by decide⟩
  have HQ1 : Hid (∀ q, q ∈ qs → q.2.1.oneCell' = true) := fun q hq => (hqi q hq).2
  have HQ2 : Hid (∀ q, q ∈ ([((⟨8, 0, 0, 0, 0, ⟨0, []⟩, [], 0⟩ : Sto.Do), .slice none 0 0, ByteArray.empty), ((⟨9, 0, 0, 0, 0, ⟨0, []⟩, [], 0⟩ : Sto.Do), .slice none 0 0, ByteArray.empty), ((⟨8, 0, 0, 0, 0, ⟨0, []⟩, [], 0⟩ : Sto.Do), .slice none 0 0, ByteArray.empty)] : List DoC) → q.2.1.oneCell' = true) := fun q hq => by
    simp only [List.mem_cons, List.not_mem_nil, or_false] at hq
    rcases hq with rfl | rfl | rfl <;> rfl
  have HPL : Hid (∀ wX v, RD W wX v (qs ++ [((⟨8, 0, 0, 0, 0, ⟨0, []⟩, [], 0⟩ : Sto.Do), .slice none 0 0, ByteArray.empty), ((⟨9, 0, 0, 0, 0, ⟨0, []⟩, [], 0⟩ : Sto.Do), .slice none 0 0, ByteArray.empty), ((⟨8, 0, 0, 0, 0, ⟨0, []⟩, [], 0⟩ : Sto.Do), .slice none 0 0, ByteArray.empty)]) → Calls Tryz.prog 10 #[.agg #[.int .i64 d, .int .i64 s, .int .i64 b], v] wX fun e w2 => PlayR e wX w2 c r2) := fun wX v hRD => by
    refine HP2.out wX v ?_
    have := hRD.dos (fun q hq => by
      rcases List.mem_append.1 hq with z | z
      · exact (hqi q z).1
      · exact HDI.out q z)
    rw [List.map_append, hqm] at this
    exact this
  have HSo : ∀ w', Below W.heap.size W w' → (w'.cell? ⟨w.heap.size, 0, none⟩ = some (.int .i64 d) ∧ w'.cell? ⟨w.heap.size, 1, none⟩ = some (.int .i64 s) ∧ w'.cell? ⟨w.heap.size, 2, none⟩ = some (.int .i64 b)) ∧ Below W.heap.size W w' := fun w' hb => ⟨⟨(VSW.below hb).cell (i := 0) rfl, (VSW.below hb).cell (i := 1) rfl, (VSW.below hb).cell (i := 2) rfl⟩, hb⟩
  have HPL8 := HPL.out
  have HQC8 := HQC.out
  have hql' : qs.length + 3 ≤ 1000 := by omega
  have TD := HSo W.drew (Below.refl _ _).drew
  have bA1 : ∀ x, Below W.heap.size W (W.alloc x).drew := fun x => (belA1 W x).drew
  have bA2 : ∀ x y, Below W.heap.size W ((W.alloc x).alloc y).drew := fun x y => (belA2 W x y).drew
  have bA3 : ∀ x y z, Below W.heap.size W (((W.alloc x).alloc y).alloc z).drew := fun x y z => (belA3 W x y z).drew
  have HKEY : Hid (qs.length = n) := hql
  clear hqm hqi hqc VSW HDI hql
  go_cut [5, 6, 7] from 19 to 31 (fun p5 v6 v7 wx => PlayV W wx c r2 p5 v6 v7)
  case first =>
    go_region_held3 (fun w' => (w'.cell? ⟨w.heap.size, 0, none⟩ = some (.int .i64 d) ∧ w'.cell? ⟨w.heap.size, 1, none⟩ = some (.int .i64 s) ∧ w'.cell? ⟨w.heap.size, 2, none⟩ = some (.int .i64 b)) ∧ Below W.heap.size W w')
      (first | with_reducible exact TD | with_reducible assumption | with_reducible exact HSo _ (bA1 _) | with_reducible exact HSo _ (bA2 _ _) | with_reducible exact HSo _ (bA3 _ _ _) | with_reducible exact HSo _ (R6.alloc _).bel | with_reducible exact HSo _ ((R6.alloc _).alloc _).bel | with_reducible exact HSo _ (R7.alloc _).bel | with_reducible exact HSo _ (bel_al B8) | with_reducible exact HSo _ (bel_nine B8 (by omega)))
      (first | (refine app_rd rfl (.tmp 20) (.tmp 21) rfl (ys := qs) rfl rfl (hAn) (by first | exact rdE | exact rdEo | exact rdoE | exact rdEop | exact rdoEp | exact rdopE) HKEY.out (HQC8 _ (by first | exact bA1 _ | exact bA2 _ _ | exact bA3 _ _ _)) HQ1.out (by simp only [List.length_nil]; omega) ?_; intro v6 w6 R6 TR; (first | (have T6 := TR _ _ _ (td_Eo (cs := #[.int .i64 8, .int .i64 0, .int .i64 0, .int .i64 0, .int .u8 0, .int .i64 0, .slice none 0 0, .string ByteArray.empty, .int .i64 0, .int .i64 9, .int .i64 0, .int .i64 0, .int .i64 0, .int .u8 0, .int .i64 0, .slice none 0 0, .string ByteArray.empty, .int .i64 0, .int .i64 8, .int .i64 0, .int .i64 0, .int .i64 0, .int .u8 0, .int .i64 0, .slice none 0 0, .string ByteArray.empty, .int .i64 0]) (t := 43))) | (have T6 := TR _ _ _ (td_oE (cs := #[.int .i64 8, .int .i64 0, .int .i64 0, .int .i64 0, .int .u8 0, .int .i64 0, .slice none 0 0, .string ByteArray.empty, .int .i64 0, .int .i64 9, .int .i64 0, .int .i64 0, .int .i64 0, .int .u8 0, .int .i64 0, .slice none 0 0, .string ByteArray.empty, .int .i64 0, .int .i64 8, .int .i64 0, .int .i64 0, .int .i64 0, .int .u8 0, .int .i64 0, .slice none 0 0, .string ByteArray.empty, .int .i64 0]) (t := 43))) | (have T6 := TR _ _ _ (td_Eop (cs := #[.int .i64 8, .int .i64 0, .int .i64 0, .int .i64 0, .int .u8 0, .int .i64 0, .slice none 0 0, .string ByteArray.empty, .int .i64 0, .int .i64 9, .int .i64 0, .int .i64 0, .int .i64 0, .int .u8 0, .int .i64 0, .slice none 0 0, .string ByteArray.empty, .int .i64 0, .int .i64 8, .int .i64 0, .int .i64 0, .int .i64 0, .int .u8 0, .int .i64 0, .slice none 0 0, .string ByteArray.empty, .int .i64 0]) (t := 43))) | (have T6 := TR _ _ _ (td_Epo (cs := #[.int .i64 8, .int .i64 0, .int .i64 0, .int .i64 0, .int .u8 0, .int .i64 0, .slice none 0 0, .string ByteArray.empty, .int .i64 0, .int .i64 9, .int .i64 0, .int .i64 0, .int .i64 0, .int .u8 0, .int .i64 0, .slice none 0 0, .string ByteArray.empty, .int .i64 0, .int .i64 8, .int .i64 0, .int .i64 0, .int .i64 0, .int .u8 0, .int .i64 0, .slice none 0 0, .string ByteArray.empty, .int .i64 0]) (t := 43))) | (have T6 := TR _ _ _ (td_oEp (cs := #[.int .i64 8, .int .i64 0, .int .i64 0, .int .i64 0, .int .u8 0, .int .i64 0, .slice none 0 0, .string ByteArray.empty, .int .i64 0, .int .i64 9, .int .i64 0, .int .i64 0, .int .i64 0, .int .u8 0, .int .i64 0, .slice none 0 0, .string ByteArray.empty, .int .i64 0, .int .i64 8, .int .i64 0, .int .i64 0, .int .i64 0, .int .u8 0, .int .i64 0, .slice none 0 0, .string ByteArray.empty, .int .i64 0]) (t := 43))) | (have T6 := TR _ _ _ (td_pEo (cs := #[.int .i64 8, .int .i64 0, .int .i64 0, .int .i64 0, .int .u8 0, .int .i64 0, .slice none 0 0, .string ByteArray.empty, .int .i64 0, .int .i64 9, .int .i64 0, .int .i64 0, .int .i64 0, .int .u8 0, .int .i64 0, .slice none 0 0, .string ByteArray.empty, .int .i64 0, .int .i64 8, .int .i64 0, .int .i64 0, .int .i64 0, .int .u8 0, .int .i64 0, .slice none 0 0, .string ByteArray.empty, .int .i64 0]) (t := 43))) | (have T6 := TR _ _ _ (td_opE (cs := #[.int .i64 8, .int .i64 0, .int .i64 0, .int .i64 0, .int .u8 0, .int .i64 0, .slice none 0 0, .string ByteArray.empty, .int .i64 0, .int .i64 9, .int .i64 0, .int .i64 0, .int .i64 0, .int .u8 0, .int .i64 0, .slice none 0 0, .string ByteArray.empty, .int .i64 0, .int .i64 8, .int .i64 0, .int .i64 0, .int .i64 0, .int .u8 0, .int .i64 0, .slice none 0 0, .string ByteArray.empty, .int .i64 0]) (t := 43))) | (have T6 := TR _ _ _ (td_poE (cs := #[.int .i64 8, .int .i64 0, .int .i64 0, .int .i64 0, .int .u8 0, .int .i64 0, .slice none 0 0, .string ByteArray.empty, .int .i64 0, .int .i64 9, .int .i64 0, .int .i64 0, .int .i64 0, .int .u8 0, .int .i64 0, .slice none 0 0, .string ByteArray.empty, .int .i64 0, .int .i64 8, .int .i64 0, .int .i64 0, .int .i64 0, .int .u8 0, .int .i64 0, .slice none 0 0, .string ByteArray.empty, .int .i64 0]) (t := 43))) | skip); (first | (have Z6 := TR _ _ _ (td_Eo (cs := zSt) (t := 33))) | (have Z6 := TR _ _ _ (td_oE (cs := zSt) (t := 33))) | (have Z6 := TR _ _ _ (td_Eop (cs := zSt) (t := 33))) | (have Z6 := TR _ _ _ (td_Epo (cs := zSt) (t := 33))) | (have Z6 := TR _ _ _ (td_oEp (cs := zSt) (t := 33))) | (have Z6 := TR _ _ _ (td_pEo (cs := zSt) (t := 33))) | (have Z6 := TR _ _ _ (td_opE (cs := zSt) (t := 33))) | (have Z6 := TR _ _ _ (td_poE (cs := zSt) (t := 33))) | skip); have S6 := HSo w6 R6.bel; have hs6 := R6.bel.size; simp only [List.nil_append] at R6)
             | (refine app_rd rfl (.tmp 22) (.tmp 26) rfl (ys := [((⟨8, 0, 0, 0, 0, ⟨0, []⟩, [], 0⟩ : Sto.Do), .slice none 0 0, ByteArray.empty), ((⟨9, 0, 0, 0, 0, ⟨0, []⟩, [], 0⟩ : Sto.Do), .slice none 0 0, ByteArray.empty), ((⟨8, 0, 0, 0, 0, ⟨0, []⟩, [], 0⟩ : Sto.Do), .slice none 0 0, ByteArray.empty)]) rfl rfl (fun e => by cases e) (by first | exact R6 | exact R6.alloc _ | exact (R6.alloc _).alloc _) rfl (by first | exact (fun A9 e => by cases e; exact T6.cells) | exact (fun A9 e => by cases e; exact (T6.alloc _).cells) | exact (fun A9 e => by cases e; exact (td_n0 (cs := #[.int .i64 8, .int .i64 0, .int .i64 0, .int .i64 0, .int .u8 0, .int .i64 0, .slice none 0 0, .string ByteArray.empty, .int .i64 0, .int .i64 9, .int .i64 0, .int .i64 0, .int .i64 0, .int .u8 0, .int .i64 0, .slice none 0 0, .string ByteArray.empty, .int .i64 0, .int .i64 8, .int .i64 0, .int .i64 0, .int .i64 0, .int .u8 0, .int .i64 0, .slice none 0 0, .string ByteArray.empty, .int .i64 0]) (t := 43) R6).cells) | exact (fun A9 e => by cases e; exact ((td_n0 (cs := #[.int .i64 8, .int .i64 0, .int .i64 0, .int .i64 0, .int .u8 0, .int .i64 0, .slice none 0 0, .string ByteArray.empty, .int .i64 0, .int .i64 9, .int .i64 0, .int .i64 0, .int .i64 0, .int .u8 0, .int .i64 0, .slice none 0 0, .string ByteArray.empty, .int .i64 0, .int .i64 8, .int .i64 0, .int .i64 0, .int .i64 0, .int .u8 0, .int .i64 0, .slice none 0 0, .string ByteArray.empty, .int .i64 0]) (t := 43) R6).alloc _).cells) | exact (fun A9 e => by cases e; exact (td_n1 (cs := #[.int .i64 8, .int .i64 0, .int .i64 0, .int .i64 0, .int .u8 0, .int .i64 0, .slice none 0 0, .string ByteArray.empty, .int .i64 0, .int .i64 9, .int .i64 0, .int .i64 0, .int .i64 0, .int .u8 0, .int .i64 0, .slice none 0 0, .string ByteArray.empty, .int .i64 0, .int .i64 8, .int .i64 0, .int .i64 0, .int .i64 0, .int .u8 0, .int .i64 0, .slice none 0 0, .string ByteArray.empty, .int .i64 0]) (t := 43) R6 _).cells)) HQ2.out hql' ?_; intro v7 w7 R7 TR7; (first | (have Z7 := TR7 _ _ _ Z6) | (have Z7 := TR7 _ _ _ (Z6.alloc _)) | (have Z7 := TR7 _ _ _ (td_n0 (cs := zSt) (t := 33) R6)) | (have Z7 := TR7 _ _ _ ((td_n0 (cs := zSt) (t := 33) R6).alloc _)) | (have Z7 := TR7 _ _ _ (td_n1 (cs := zSt) (t := 33) R6 _)) | skip); have S7 := HSo w7 R7.bel; have hs7 := R7.bel.size)
             | (go_at_call 10; refine (HPL8 _ _ (by first | exact R7 | exact R7.alloc _)).mono ?_; rintro e8 w8 ⟨vd8, vt8, vs8, va8, vr8, rfl, hS8, hR8, b8, hF8⟩; have B8 : Below W.heap.size W w8 := (by first | exact bt R7.bel b8 | exact bt (R7.alloc _).bel b8); have S8 := HSo w8 B8; obtain ⟨Ad8, nd8, Cd8, rfl⟩ : ∃ A n C, vd8 = .slice A n C := (by obtain ⟨A, C, h, _⟩ := hS8.dk; exact ⟨A, _, C, h⟩); obtain ⟨At8, nt8, Ct8, rfl⟩ : ∃ A n C, vt8 = .slice A n C := (by obtain ⟨A, C, h, _⟩ := hS8.tl; exact ⟨A, _, C, h⟩); obtain ⟨As8, ns8, Cs8, rfl⟩ : ∃ A n C, vs8 = .slice A n C := (by obtain ⟨A, C, h, _⟩ := hS8.sn; exact ⟨A, _, C, h⟩); obtain ⟨Aa8, na8, Ca8, rfl⟩ : ∃ A n C, va8 = .slice A n C := (by obtain ⟨A, C, h, _⟩ := hS8.ac; exact ⟨A, _, C, h⟩); (first | (have Y := Z7.row.below b8; have y0 := Y.cell (i := 0) rfl; have f0 := Y.frozen 0; have y1 := Y.cell (i := 1) rfl; have f1 := Y.frozen 1; have y2 := Y.cell (i := 2) rfl; have f2 := Y.frozen 2; have y3 := Y.cell (i := 3) rfl; have f3 := Y.frozen 3; have y4 := Y.cell (i := 4) rfl; have f4 := Y.frozen 4; have y5 := Y.cell (i := 5) rfl; have f5 := Y.frozen 5; have y6 := Y.cell (i := 6) rfl; have f6 := Y.frozen 6; have y7 := Y.cell (i := 7) rfl; have f7 := Y.frozen 7; have y8 := Y.cell (i := 8) rfl; have f8 := Y.frozen 8; have Yl : _ < w8.heap.size := RowC.lt Y; have Yn := Nat.ne_of_lt Yl; have Ym := Nat.ne_of_gt Yl) | (have Y := (varN_new w7 zSt 33).below b8; have y0 := Y.cell (i := 0) rfl; have f0 := Y.frozen 0; have y1 := Y.cell (i := 1) rfl; have f1 := Y.frozen 1; have y2 := Y.cell (i := 2) rfl; have f2 := Y.frozen 2; have y3 := Y.cell (i := 3) rfl; have f3 := Y.frozen 3; have y4 := Y.cell (i := 4) rfl; have f4 := Y.frozen 4; have y5 := Y.cell (i := 5) rfl; have f5 := Y.frozen 5; have y6 := Y.cell (i := 6) rfl; have f6 := Y.frozen 6; have y7 := Y.cell (i := 7) rfl; have f7 := Y.frozen 7; have y8 := Y.cell (i := 8) rfl; have f8 := Y.frozen 8; have Yl : _ < w8.heap.size := RowC.lt Y; have Yn := Nat.ne_of_lt Yl; have Ym := Nat.ne_of_gt Yl) | skip)))
    all_goals go_wp2_with fail
    all_goals go_meet
    all_goals first | with_reducible exact playV_new hS8 hR8 B8 | with_reducible exact playV_set hF8 B8 Y (by first | exact Z7.row.lt8 | simp) (by omega)
  case rest =>
    obtain ⟨P, vd', vt', vs', va', rfl, rfl, VP, hSP, hRP, bP⟩ := hcut
    obtain ⟨w8, hw8⟩ : ∃ y, y = wc := ⟨wc, rfl⟩
    rw [← hw8] at VP hSP hRP bP ⊢
    have bW8 := bt bW bP
    have HO := HON.out w8 bW8
    clear hw8 HSo TD bA1 bA2 bA3 HPL8 HQC8 HPL HQC HQ1 HQ2 HKEY hql' bP HP2 HON
    obtain ⟨a1, a2, a3, g1, g2, g3, hor, hcl⟩ := HSC.out
    obtain ⟨Ap, Cp, hvp, hp1, hp2, hpa⟩ := hRP
    have hnp : n + 2 < r2.2.length := (List.getElem?_eq_some_iff.1 g3).1
    obtain ⟨np, hnpe⟩ : ∃ np, np = r2.2.length := ⟨_, rfl⟩
    rw [← hnpe] at hvp hp1 hnp
    subst hvp
    have hp2 : Cp ≤ 9223372036854775807 := by unfold maxLen at hp2; exact hp2
    obtain ⟨bp, op, rfl, _, _, p0, _⟩ := hpa n _ g1
    obtain ⟨bp', op', e', _, _, _, p1, _⟩ := hpa (n + 1) _ g2
    cases e'
    obtain ⟨bp', op', e', _, _, p2, p3, _⟩ := hpa (n + 2) _ g3
    cases e'
    have hnp1 : (n : Int) < (np : Int) := by omega
    have hnp2 : (n : Int) + 1 < (np : Int) := by omega
    have hnp3 : (n : Int) + 2 < (np : Int) := by omega
    have hw1 : IntKind.i64.wrap ((n : Int) + 1) = (n : Int) + 1 := by rw [IntKind.wrap_i64]; omega
    have hw2 : IntKind.i64.wrap ((n : Int) + 2) = (n : Int) + 2 := by rw [IntKind.wrap_i64]; omega
    clear hpa hnpe g1 g2 g3 HSC
    by_cases h0 : a1.err = 0
    · have z1 : ((a1.err : Int) != 0) = false := by rw [h0]; rfl
      obtain ⟨c1, c2, c3, c4⟩ := hcl h0
      have HC1 : Hid (∀ (i : Nat) (d : Sto.Disk), r2.1.disks[i]? = some d → d.gone = false → d.bl.length = r2.1.segs) := c1
      have HC2 : Hid (a2.n = ((Sto.gcnt c r2.1.disks * r2.1.segs : Nat) : Int)) := c2
      have z3 : ((a3.err : Int) == 0) = true := by rw [c3]; rfl
      have z4 : (a3.n == 0) = true := by rw [c4]; rfl
      obtain ⟨Ad, Cd, hvd, hd1, hd2, hdk⟩ := hSP.dk
      obtain ⟨nd, hnd⟩ : ∃ nd, nd = r2.1.disks.length := ⟨_, rfl⟩
      rw [← hnd] at hvd hd1
      subst hvd
      have hd2 : Cd ≤ 9223372036854775807 := by unfold maxLen at hd2; exact hd2
      have HDK : Hid (∀ i x, r2.1.disks[i]? = some x → ∃ b o, Ad = some ⟨b, o, none⟩ ∧ DkIn w8 b (o + i * 2) x) := hdk
      have HND : Hid (nd = r2.1.disks.length) := hnd
      have HVP : Hid (VarN w8 P 33 [.int .i64 (c.d : Int), .int .i64 (c.s : Int), .int .i64 (c.b : Int), .slice Ad nd Cd, .int .i64 (r2.1.segs : Int), vt', vs', .int .i64 r2.1.u, va']) := VP
      have v3 := VP.cell (i := 3) rfl
      have hnd12 : nd ≤ 12 := by have := HSG.out.2; have := HC12.out; omega
      obtain ⟨sg, hsg⟩ : ∃ sg, sg = r2.1.segs := ⟨_, rfl⟩
      have HSGE : Hid (sg = r2.1.segs) := hsg
      have hsg80 : sg ≤ 80 := by have := HSG.out.1; omega
      rw [← hsg] at HVP
      have HP : Hid (w8.cell? ⟨bp, op + n * 5, none⟩ = some (.int .i64 (a1.err : Nat)) ∧ w8.cell? ⟨bp, op + (n + 1) * 5 + 1, none⟩ = some (.int .i64 a2.n) ∧ w8.cell? ⟨bp, op + (n + 2) * 5, none⟩ = some (.int .i64 (a3.err : Nat)) ∧ w8.cell? ⟨bp, op + (n + 2) * 5 + 1, none⟩ = some (.int .i64 a3.n)) := ⟨p0, p1, p2, p3⟩
      clear hdk hnd hsg VP hcl c1 c2 c3 c4 h0 hor hSP HO p1 p2 p3
      go_wp2_with fail
      clear v3 p0
      go_loopw [9, 56] (fun y x wr => ∃ k : Nat, k ≤ nd ∧ x = .int .i64 k ∧ y = .int .i64 (((List.range k).filter (Sto.gn r2.1.disks)).length : Nat) ∧ Below w8.heap.size w8 wr) (fun _ x _ => nd - (intOf x).toNat)
      case atStart => exact ⟨0, Nat.zero_le _, rfl, rfl, Below.refl _ _⟩
      case round =>
        obtain ⟨k, hk, rfl, rfl, hbr⟩ := hrel
        have br := bt bW8 hbr
        have hgl : ((List.range k).filter (Sto.gn r2.1.disks)).length ≤ k := by
          have := List.length_filter_le (Sto.gn r2.1.disks) (List.range k)
          rw [List.length_range] at this
          exact this
        by_cases hlt : k < nd
        · have hlt' : (k : Int) < (nd : Int) := by omega
          obtain ⟨q, hq⟩ : ∃ q, r2.1.disks[k]? = some q := ⟨r2.1.disks[k]'(by rw [← HND.out]; exact hlt), List.getElem?_eq_getElem _⟩
          obtain ⟨bd, od, rfl, r0⟩ := HDK.out k q hq
          obtain ⟨vh, e0, e1, hh⟩ := r0.below hbr
          obtain ⟨Ah, Ch, rfl, _⟩ := hh
          have hrs : (List.range (k + 1)).filter (Sto.gn r2.1.disks) = (List.range k).filter (Sto.gn r2.1.disks) ++ (if q.gone = true then [k] else []) := by
            rw [List.range_succ, List.filter_append]
            congr 1
            have hg : Sto.gn r2.1.disks k = q.gone := Sto.gn_at hq
            by_cases z : q.gone = true
            · rw [if_pos z, List.filter_cons_of_pos (by rw [hg]; exact z)]
              rfl
            · rw [if_neg z, List.filter_cons_of_neg (by rw [hg]; exact z)]
              rfl
          have bE : ∀ o, Below w8.heap.size w8 (wr.alloc o) := fun o => bt hbr ((Below.refl _ _).alloc (Nat.le_refl _) _)
          cases hqg : q.gone with
          | true =>
            rw [hqg] at e0
            rw [hqg, if_pos rfl] at hrs
            obtain ⟨g, hg⟩ : ∃ g, g = ((List.range k).filter (Sto.gn r2.1.disks)).length := ⟨_, rfl⟩
            have HNX : Hid (((List.range (k + 1)).filter (Sto.gn r2.1.disks)).length = g + 1) := by
              show _ = _
              rw [hrs, List.length_append, hg]
              rfl
            rw [← hg] at hgl ⊢
            have hwg : IntKind.i64.wrap ((g : Int) + 1) = (g : Int) + 1 := by rw [IntKind.wrap_i64]; omega
            clear hrs hq r0 hg
            go_wp2_with fail
            exact ⟨⟨k + 1, by omega, by go_num, by rw [HNX.out]; first | rfl | go_num, bE _⟩, by simp [intOf]; omega⟩
          | false =>
            rw [hqg] at e0
            rw [hqg, if_neg Bool.false_ne_true, List.append_nil] at hrs
            have hln := HC1.out k q hq hqg
            rw [hln, ← HSGE.out] at e1
            have v4 := ((HVP.out.below hbr).below (show Below wr.heap.size wr (wr.alloc (.cells #[.bool false, .slice Ah sg Ch] 52)) from (Below.refl _ _).alloc (Nat.le_refl _) _)).cell (i := 4) rfl
            have hss : ((sg : Int) != (sg : Int)) = false := by simp
            have HNX : Hid (((List.range (k + 1)).filter (Sto.gn r2.1.disks)).length = ((List.range k).filter (Sto.gn r2.1.disks)).length) := by
              show _ = _
              rw [hrs]
            clear hrs hq r0 hln
            go_wp2_with fail
            exact ⟨⟨k + 1, by omega, by go_num, by rw [HNX.out], bE _⟩, by simp [intOf]; omega⟩
        · obtain rfl : k = nd := by omega
          obtain ⟨g, hg⟩ : ∃ g, g = ((List.range k).filter (Sto.gn r2.1.disks)).length := ⟨_, rfl⟩
          have hn2 : a2.n = (g : Int) * (sg : Int) := by
            rw [HC2.out, HSGE.out, hg]
            unfold Sto.gcnt
            rw [← HSG.out.2, ← HND.out]
            push_cast
            rfl
          rw [← hg] at hgl ⊢
          have hgb : (g : Int) * (sg : Int) ≤ 960 := by
            have h1 : g * sg ≤ 12 * 80 := Nat.mul_le_mul (by omega) hsg80
            have h2 : ((g * sg : Nat) : Int) = (g : Int) * (sg : Int) := by push_cast; rfl
            omega
          have hgb0 : 0 ≤ (g : Int) * (sg : Int) := Int.mul_nonneg (by omega) (by omega)
          have hwm : IntKind.i64.wrap ((g : Int) * (sg : Int)) = (g : Int) * (sg : Int) := by rw [IntKind.wrap_i64]; omega
          have z2 : (a2.n == (g : Int) * (sg : Int)) = true := beq_iff_eq.2 hn2
          have v4 := (HVP.out.below hbr).cell (i := 4) rfl
          have u1 := (hbr.cell (p := ⟨bp, op + (n + 1) * 5 + 1, none⟩) (World.block_lt_of_cell? _ _ HP.out.2.1)).trans HP.out.2.1
          have u2 := (hbr.cell (p := ⟨bp, op + (n + 2) * 5, none⟩) (World.block_lt_of_cell? _ _ HP.out.2.2.1)).trans HP.out.2.2.1
          have u3 := (hbr.cell (p := ⟨bp, op + (n + 2) * 5 + 1, none⟩) (World.block_lt_of_cell? _ _ HP.out.2.2.2)).trans HP.out.2.2.2
          clear hg hn2
          go_wp2_with fail
          go_quiet (fail)
          go_wp2_with fail
          go_ret
          exact ⟨rfl, bdn br _⟩
    · have z1 : ((a1.err : Int) != 0) = true := by rw [bne_iff_ne]; omega
      clear hcl hSP VP p1 p2 p3
      by_cases h10 : a1.err = 10
      · have z2 : ((a1.err : Int) == 10) = true := by rw [h10]; rfl
        clear h0 hor h10 HO
        go_wp2_with fail
        go_ret
        exact ⟨rfl, bW8⟩
      · have z2 : ((a1.err : Int) == 10) = false := by rw [beq_eq_false_iff_ne]; omega
        go_wp2_with fail
        refine HO.mono ?_
        rintro e w9 ⟨⟨y, rfl, hy⟩, b9⟩
        have hyf : y = false := by
          cases y
          · rfl
          · rcases hor (hy rfl) with q | q
            · exact absurd q h0
            · exact absurd q h10
        subst hyf
        have b09 := bt bW8 b9
        clear HO hy h0 hor h10
        go_wp2_with fail
        go_ret
        exact ⟨rfl, b09⟩

end Go.Proofs.YtldjieplbeflfaaGreat
