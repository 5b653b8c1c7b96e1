/-
  Texts of the proof, joined: HWrite, Pce.
-/
import Derived.Test.YtmcaejooaaahdaaGreatZ23
import Derived.Test.YtmcaejooaaahdaaGreatZ13
namespace Go.Proofs.YtmcaejooaaahdaaGreat
open Go.RowKit

/-- Blocks of a segment that were made: each in a place of its own. -/
structure LayB (w : World) (N : Nat) (v : Value) (L : List (List Nat)) (Y : Nat → Sl) : Prop where
  own : w.ownsRow N 59 1 v L.length ((List.range L.length).map fun i => slV (Y i))
  byt : ∀ i, i < L.length → OwnB w N (slV (Y i)) (L.getD i [])
  sep : ∀ i j g, i < L.length → j < L.length → (slV (Y i)).ownBlock = some g → (slV (Y j)).ownBlock = some g → i = j
theorem LayB.off {S : Nat → Prop} {w w' : World} {N : Nat} {v : Value} {L : List (List Nat)} {Y : Nat → Sl} (h : LayB w N v L Y) (ho : Off S w w') (hS : ∀ k, S k → ∃ t, TyB w k t ∧ t ≠ 59 ∧ t ≠ 5) : LayB w' N v L Y :=
  ⟨owns_off h.own ho fun g hg s => by
    obtain ⟨t, ht, q, _⟩ := hS g s
    exact ht.ne (owns_ty h.own hg) q rfl, fun i hi => (h.byt i hi).off ho fun g hg s => by
    obtain ⟨t, ht, _, q⟩ := hS g s
    exact ht.ne ((h.byt i hi).ty hg) q rfl, h.sep⟩
theorem LayB.below {w w' : World} {N : Nat} {v : Value} {L : List (List Nat)} {Y : Nat → Sl} (h : LayB w N v L Y) (hb : Below w.heap.size w w') : LayB w' N v L Y :=
  h.off (Off.of_below (S := fun _ => False) hb) fun _ s => s.elim
theorem LayB.at {w : World} {N : Nat} {v : Value} {L : List (List Nat)} {Y : Nat → Sl} (h : LayB w N v L Y) (hn : 1 ≤ L.length) : ∃ b cap, v = .slice (some ⟨b, 0, none⟩) L.length cap ∧ L.length ≤ cap ∧ cap ≤ maxLen ∧ TyB w b 59 ∧ ∀ i, i < L.length → w.cell? ⟨b, i, none⟩ = some (slV (Y i)) := by
  obtain ⟨g, cap, rfl, _, h1, h2, _, hc⟩ := owns_cells h.own hn
  exact ⟨g, cap, rfl, h1, h2, owns_ty h.own rfl, fun i hi => hc i _ (by rw [List.getElem?_map, List.getElem?_range hi]; rfl)⟩

theorem join_next {α : Type} {a b : List α} (hl : a.length = b.length) {q : Nat} {x : α} (hx : a[q]? = some x) : (a.take q ++ b.drop q).set q x = a.take (q + 1) ++ b.drop (q + 1) := by
  obtain ⟨hq, rfl⟩ := List.getElem?_eq_some_iff.1 hx
  have hqb : q < b.length := by omega
  rw [List.set_append_right _ _ (by rw [List.length_take]; omega), List.length_take, show q - min q a.length = 0 by omega, List.drop_eq_getElem_cons hqb, List.set_cons_zero, List.take_succ_eq_append_getElem hq, List.append_assoc]
  rfl
theorem join_at {α : Type} {a b : List α} (hl : a.length = b.length) {q : Nat} (hq : q ≤ a.length) : (a.take q ++ b.drop q)[q]? = b[q]? := by
  rw [List.getElem?_append_right (by rw [List.length_take]; omega), List.length_take, show q - min q a.length = 0 by omega, List.getElem?_drop, Nat.add_zero]
theorem join_len {α : Type} {a b : List α} (hl : a.length = b.length) (q : Nat) : (a.take q ++ b.drop q).length = b.length := by
  simp
  omega

/-- Disks under way: those below q are written. -/
structure HoldS (w wr : World) (N D : Nat) (k : Int) (n q : Nat) (V : Nat → Value) (U : Nat → List HeC) (ds : List Sto.Disk) (L : List (List Nat)) (Y : Nat → Sl) (V' : Nat → Value) (U' : Nat → List HeC) : Prop where
  dk : DkAt wr N D V' U' ((Sto.write k L 0 ds).take q ++ ds.drop q)
  off : Off (fun b => b = D ∨ ∃ i, i < n ∧ (V i).ownBlock = some b) w wr
  newV : ∀ i g, i < n → (V' i).ownBlock = some g → (V i).ownBlock = some g ∨ w.heap.size ≤ g
  newU : ∀ (i : Nat) (x : HeC) (g : Nat), i < n → x ∈ U' i → (slV x.2.1).ownBlock = some g → (∃ y, y ∈ U i ∧ (slV y.2.1).ownBlock = some g) ∨ (i < q ∧ (slV (Y i)).ownBlock = some g)
  same : ∀ i, q ≤ i → V' i = V i ∧ U' i = U i
/-- What hold leaves. -/
def HoldO (w w' : World) (N D : Nat) (k : Int) (n : Nat) (V : Nat → Value) (U : Nat → List HeC) (ds : List Sto.Disk) (L : List (List Nat)) (Y : Nat → Sl) : Prop := ∃ V' U', HoldS w w' N D k n n V U ds L Y V' U'

section
variable {w wr : World} {N D n q : Nat} {k : Int} {V : Nat → Value} {U : Nat → List HeC} {ds : List Sto.Disk} {L : List (List Nat)} {Y : Nat → Sl} {V' : Nat → Value} {U' : Nat → List HeC}
theorem HoldS.typed (h : HoldS w wr N D k n q V U ds L Y V' U') (hd : DkAt w N D V U ds) (hn : ds.length = n) : ∀ b, (b = D ∨ ∃ i, i < n ∧ (V i).ownBlock = some b) → ∃ t, TyB w b t ∧ (t = 58 ∨ t = 61) := fun b s => by
  rcases s with rfl | ⟨i, hi, hb⟩
  · exact ⟨_, hd.row.ty, Or.inl rfl⟩
  · exact ⟨_, owns_ty (hd.own i (by omega)) hb, Or.inr rfl⟩
theorem HoldS.start (hd : DkAt w N D V U ds) : HoldS w w N D k n 0 V U ds L Y V U :=
  ⟨by rw [List.take_zero, List.drop_zero]; exact hd, Off.refl _ _, fun _ _ _ h => Or.inl h, fun i x g _ hx hg => Or.inl ⟨x, hx, hg⟩, fun _ _ => ⟨rfl, rfl⟩⟩
/-- One disk more is done. -/
theorem HoldS.next (h : HoldS w wr N D k n q V U ds L Y V' U') (hq : q < n) {w' : World} {d' : Sto.Disk} (hd' : (Sto.write k L 0 ds)[q]? = some d') (v' : Value) (hs' : List HeC)
    (hk : DkAt w' N D (upd V' q v') (upd U' q hs') (((Sto.write k L 0 ds).take q ++ ds.drop q).set q d')) (ho : Off (fun b => b = D ∨ (V q).ownBlock = some b) wr w') (hv : ∀ g, v'.ownBlock = some g → (V q).ownBlock = some g ∨ w.heap.size ≤ g)
    (hu : ∀ (x : HeC) (g : Nat), x ∈ hs' → (slV x.2.1).ownBlock = some g → (∃ y, y ∈ U q ∧ (slV y.2.1).ownBlock = some g) ∨ (slV (Y q)).ownBlock = some g) : HoldS w w' N D k n (q + 1) V U ds L Y (upd V' q v') (upd U' q hs') := by
  have hlen : (Sto.write k L 0 ds).length = ds.length := Sto.write_length k L ds 0
  refine ⟨?_, h.off.past ho fun b s _ => ?_, fun i g hi hg => ?_, fun i x g hi hx hg => ?_, fun i hi => ?_⟩
  · rw [← join_next hlen hd']
    exact hk
  · rcases s with s | s
    · exact Or.inl s
    · exact Or.inr ⟨q, hq, s⟩
  · by_cases e : i = q
    · subst e
      rw [upd_at] at hg
      exact hv g hg
    · rw [upd_ne _ _ e] at hg
      exact h.newV i g hi hg
  · by_cases e : i = q
    · subst e
      rw [upd_at] at hx
      rcases hu x g hx hg with z | z
      · exact Or.inl z
      · exact Or.inr ⟨by omega, z⟩
    · rw [upd_ne _ _ e] at hx
      rcases h.newU i x g hi hx hg with z | ⟨z1, z2⟩
      · exact Or.inl z
      · exact Or.inr ⟨by omega, z2⟩
  · rw [upd_ne _ _ (by omega), upd_ne _ _ (by omega)]
    exact h.same i (by omega)
theorem HoldS.sep (h : HoldS w wr N D k n q V U ds L Y V' U') (hn : ds.length = n) (hq : q < n) (hLn : L.length = n) {v : Value} {M : Nat} (hL : LayB w M v L Y)
    (hf : ∀ (i j : Nat) (x : HeC) (g : Nat), i < n → j < n → x ∈ U i → (slV x.2.1).ownBlock = some g → (slV (Y j)).ownBlock ≠ some g) :
    ∀ (j : Nat) (z : HeC) (b : Nat), j < ((Sto.write k L 0 ds).take q ++ ds.drop q).length → z ∈ U' j → (slV (Y q)).ownBlock = some b → (slV z.2.1).ownBlock ≠ some b := fun j z b hj hz hb e => by
  rw [join_len (Sto.write_length k L ds 0)] at hj
  rcases h.newU j z b (by omega) hz e with ⟨y, hy, hyb⟩ | ⟨hjq, hyb⟩
  · exact hf j q y b (by omega) hq hy hyb hb
  · have := hL.sep j q b (by omega) (by omega) hyb hb
    omega
end

set_option maxHeartbeats 2000000 in
set_option maxRecDepth 100000 in
theorem hold_any (R D n N m : Nat) (k : Int) (V : Nat → Value) (U : Nat → List HeC) (ds : List Sto.Disk) (L : List (List Nat)) (Y : Nat → Sl) (vl : Value) (M : Nat) (w : World) (tR : TyB w R 45) (c3 : w.cell? ⟨R, 3, none⟩ = some (.slice (some ⟨D, 0, none⟩) n n)) (hd : DkAt w N D V U ds) (hn : ds.length = n) (h1 : 1 ≤ n) (h12 : n ≤ 12) (hw : WfD ds m) (hm : m ≤ 100000)
    (hL : LayB w M vl L Y) (hLn : L.length = n) (hNM : N ≤ M) (hNw : N ≤ w.heap.size) (hf : ∀ (i j : Nat) (x : HeC) (g : Nat), i < n → j < n → x ∈ U i → (slV x.2.1).ownBlock = some g → (slV (Y j)).ownBlock ≠ some g) :
    Calls Tryz.prog 56 #[.pointer (some ⟨R, 0, none⟩), .int .i64 k, vl] w fun e w' => e = .returned (.tuple #[]) ∧ HoldO w w' N D k n V U ds L Y := by
  have HD : Hid (DkAt w N D V U ds) := hd
  have HN : Hid (ds.length = n) := hn
  have HW : Hid (WfD ds m) := hw
  have HL : Hid (LayB w M vl L Y) := hL
  have HLN : Hid (L.length = n) := hLn
  have HFR : Hid (∀ (i j : Nat) (x : HeC) (g : Nat), i < n → j < n → x ∈ U i → (slV x.2.1).ownBlock = some g → (slV (Y j)).ownBlock ≠ some g) := hf
  have HTR : Hid (TyB w R 45) := tR
  obtain ⟨bL, cL, hvl, hcL1, hcL2, _, _⟩ := hL.at (by omega)
  rw [hLn] at hvl hcL1
  subst hvl
  have hcL2' : cL ≤ 9223372036854775807 := by unfold maxLen at hcL2; exact hcL2
  clear hd hn hw hL hLn hf tR hcL2
  go_enter Tryz.func56, Tryz.ntmps56
  go_wp2_with fail
  go_loopw [16] (fun x wr => ∃ q : Nat, q ≤ n ∧ x = .int .i64 q ∧ Hid (∃ V' U', HoldS w wr N D k n q V U ds L Y V' U')) (fun x _ => n - (intOf x).toNat)
  case atStart => exact ⟨0, Nat.zero_le _, rfl, V, U, HoldS.start HD.out⟩
  case round =>
    obtain ⟨q, hq, rfl, HS⟩ := hrel
    by_cases hlt : q < n
    · have hlt' : (q : Int) < (n : Int) := by omega
      obtain ⟨V', U', hS⟩ := HS.out
      have hwl : (Sto.write k L 0 ds).length = ds.length := Sto.write_length k L ds 0
      have hql : q < ds.length := by rw [HN.out]; exact hlt
      obtain ⟨d, hdq⟩ : ∃ d, ds[q]? = some d := ⟨ds[q], List.getElem?_eq_getElem hql⟩
      have hcur : ((Sto.write k L 0 ds).take q ++ ds.drop q)[q]? = some d := by
        rw [join_at hwl (by omega)]
        exact hdq
      have hqc : q < ((Sto.write k L 0 ds).take q ++ ds.drop q).length := by
        rw [join_len hwl]
        exact hql
      have DK := hS.dk
      have g0 := DK.gone hcur
      have g1 := DK.held hqc
      obtain ⟨hVq, hUq⟩ := hS.same q (Nat.le_refl q)
      rw [hVq] at g1
      have hRb : wr.heap[R]? = w.heap[R]? := hS.off.block R HTR.out.lt fun s => by
        obtain ⟨t, ht, z⟩ := hS.typed HD.out HN.out R s
        rcases z with rfl | rfl
        · exact ht.ne HTR.out (by decide) rfl
        · exact ht.ne HTR.out (by decide) rfl
      have c3r : wr.cell? ⟨R, 3, none⟩ = some (.slice (some ⟨D, 0, none⟩) n n) := (World.cell?_of_block (w := w) (a := ⟨R, 3, none⟩) hRb).trans c3
      have hwq : (Sto.write k L 0 ds)[q]? = some (if d.gone then d else ⟨false, Sto.ins k (L.getD q []) false d.bl⟩) := by
        rw [Sto.write_at, hdq, Nat.zero_add]
        rfl
      cases hg : d.gone with
      | true =>
        rw [hg] at g0 hwq
        have HNX : Hid (∃ V' U', HoldS w wr N D k n (q + 1) V U ds L Y V' U') := ⟨_, _, hS.next hlt (d' := d) hwq (V' q) (U' q) (by
          rw [upd_self, upd_self, show ((Sto.write k L 0 ds).take q ++ ds.drop q).set q d = (Sto.write k L 0 ds).take q ++ ds.drop q from by
            obtain ⟨h1, h2⟩ := List.getElem?_eq_some_iff.1 hcur
            rw [← h2]
            exact List.set_getElem_self h1]
          exact DK) (Off.refl _ _) (fun g hg => Or.inl (by rw [← hVq]; exact hg)) (fun x g hx hg => Or.inl ⟨x, by rw [← hUq]; exact hx, hg⟩)⟩
        clear hS DK hcur hqc hwq hdq hwl hVq hUq hRb
        go_wp2_with fail
        exact ⟨⟨q + 1, by omega, by go_num, HNX.out⟩, by simp [intOf]; omega⟩
      | false =>
        rw [hg] at g0 hwq
        obtain ⟨hup, hlen⟩ := HD.out.up HW.out hql
        have HE : HeIn wr (V q) (U q) := by
          have := DK.heIn hqc
          rw [hVq, hUq] at this
          exact this
        have HF := find_any k (V q) (U q) wr HE hup (by omega)
        obtain ⟨A, C, hV, hC1, hC2, _⟩ := HE
        rw [hV] at HF g1
        have hC2' : C ≤ 9223372036854775807 := by unfold maxLen at hC2; exact hC2
        have hown : wr.ownsRow N 61 2 (.slice A (U q).length C) (U q).length ((U q).flatMap heCells) := by
          have := DK.own q hqc
          rw [hVq, hUq, hV] at this
          exact this
        have LB := HL.out.off hS.off fun b s => by
          obtain ⟨t, ht, z⟩ := hS.typed HD.out HN.out b s
          rcases z with rfl | rfl
          · exact ⟨_, ht, by decide, by decide⟩
          · exact ⟨_, ht, by decide, by decide⟩
        have hbl : d.bl = (U q).map heOf := HD.out.bl q d hdq
        have HBL : Hid (d.bl = (U q).map heOf) := hbl
        have HUP : Hid (Sto.Up d.bl) := (HW.out q d hdq).1
        have HDK : Hid (DkAt wr N D V' U' ((Sto.write k L 0 ds).take q ++ ds.drop q)) := DK
        have HSS : Hid (HoldS w wr N D k n q V U ds L Y V' U') := hS
        have HVQ : Hid (V' q = V q ∧ U' q = U q ∧ V q = .slice A (U q).length C) := ⟨hVq, hUq, hV⟩
        have HCUR : Hid (((Sto.write k L 0 ds).take q ++ ds.drop q)[q]? = some d) := hcur
        have HWQ : Hid ((Sto.write k L 0 ds)[q]? = some ⟨false, Sto.ins k (L.getD q []) false d.bl⟩) := hwq
        have HG : Hid (d.gone = false) := hg
        have HLB : Hid (LayB wr M (.slice (some ⟨bL, 0, none⟩) n cL) L Y) := LB
        clear hS DK hcur hqc hwq hdq hwl hVq hUq hV hRb hbl hup hC2 hg LB
        go_wp2_with fail
        refine HF.mono ?_
        rintro e w1 ⟨⟨i, y, rfl, hcut, hy⟩, b1⟩
        have HCU : Hid (CutI (d.bl.map (·.1)) k i) := by
          show CutI (d.bl.map (·.1)) k i
          rw [HBL.out, keys_of]
          exact hcut
        have hil : i ≤ (U q).length := by
          have := hcut.1
          rw [List.length_map] at this
          exact this
        have HKE : Hid ((d.bl.map (·.1))[i]? = ((U q).map (·.1))[i]?) := by
          show (d.bl.map (·.1))[i]? = _
          rw [HBL.out, keys_of]
        have hown1 := owns_below hown b1
        have HDK1 : Hid (DkAt w1 N D V' U' ((Sto.write k L 0 ds).take q ++ ds.drop q)) := HDK.out.below b1
        have HLB1 : Hid (LayB w1 M (.slice (some ⟨bL, 0, none⟩) n cL) L Y) := HLB.out.below b1
        have hLc : w1.cell? ⟨bL, q, none⟩ = some (slV (Y q)) := by
          obtain ⟨b', c', hv', _, _, _, hc'⟩ := HLB1.out.at (by rw [HLN.out]; omega)
          rw [HLN.out] at hv'
          cases hv'
          exact hc' q (by rw [HLN.out]; exact hlt)
        have g0 := (b1.cell (p := ⟨D, q * 2, none⟩) (World.block_lt_of_cell? _ _ g0)).trans g0
        have g1 := (b1.cell (p := ⟨D, q * 2 + 1, none⟩) (World.block_lt_of_cell? _ _ g1)).trans g1
        have hlw : D < w1.heap.size := World.block_lt_of_cell? _ _ g0
        have fD := HDK1.out.row.frozen (q * 2 + 1)
        have HB1 : Hid (Below wr.heap.size wr w1) := b1
        unfold slV at hLc
        clear HF hcut hown c3r b1
        cases y with
        | true =>
          have hk := hy.1 rfl
          rw [List.getElem?_map] at hk
          obtain ⟨x, hx, hxk⟩ := Option.map_eq_some_iff.1 hk
          have hil2 : i < (U q).length := (List.getElem?_eq_some_iff.1 hx).1
          obtain ⟨g, cap, hve, _, _, _, _, hce⟩ := owns_cells hown1 (by omega)
          cases hve
          have d1 := hce (i * 2 + 1) _ (flat_get heCells 2 (U q) (fun _ _ => rfl) i 1 (by decide) x hx)
          have fg := hown1.frozenAt (i * 2 + 1)
          have bD : Below w1.heap.size w1 w1.drew := (Below.refl _ _).drew
          have HNX : Hid (∃ V' U', HoldS w (w1.drew.setCell ⟨g, i * 2 + 1, none⟩ (slV (Y q))) N D k n (q + 1) V U ds L Y V' U') := by
            obtain ⟨hVq, hUq, hV⟩ := HVQ.out
            have hx' : (U' q)[i]? = some x := by rw [hUq]; exact hx
            have hT := (HDK1.out.below bD).there (q := q) (i := i) HCUR.out (by rw [hVq]; exact hV) hx' (Y q) (L.getD q []) (((HLB1.out.below bD).byt q (by rw [HLN.out]; exact hlt)).lower hNM) (HSS.out.sep HN.out hlt HLN.out HL.out HFR.out)
            have hdx : d.bl[i]? = some (heOf x) := by
              rw [HBL.out, List.getElem?_map, hx]
              rfl
            rw [hxk, HG.out, ← Sto.ins_there HUP.out HCU.out hdx hxk (L.getD q [])] at hT
            refine ⟨_, _, HSS.out.next hlt HWQ.out (V' q) ((U' q).set i (k, Y q, L.getD q [])) (by rw [upd_self]; exact hT) ?_ (fun b hb => Or.inl (by rw [← hVq]; exact hb)) (fun z b hz hb => ?_)⟩
            · exact ((Off.of_below HB1.out).trans (Off.of_below bD)).set (p := ⟨g, i * 2 + 1, none⟩) (Or.inr (by rw [hV]; rfl)) _
            · rcases List.mem_or_eq_of_mem_set hz with z1 | rfl
              · exact Or.inl ⟨z, by rw [← hUq]; exact z1, hb⟩
              · exact Or.inr hb
          have hil3 : (i : Int) < ((U q).length : Int) := by omega
          unfold slV at d1 HNX
          clear hy hk hx hxk hown1 hce
          go_wp2_with fail
          go_region
          go_wp2_with fail
          exact ⟨⟨q + 1, by omega, by go_num, HNX.out⟩, by simp [intOf]; omega⟩
        | false =>
          have bA : Below w1.heap.size w1 (w1.alloc (.cells #[.int .i64 k, .slice none 0 0] 61)) := (Below.refl _ _).alloc (Nat.le_refl _) _
          have hlA : ∀ b, (Value.slice A (U q).length C).ownBlock = some b → b < w1.heap.size := fun b hb => (hown1.lt b hb).2
          have HI := insH_any N i w1.heap.size (.slice A (U q).length C) (U q) (k, (none, 0, 0), []) (w1.alloc (.cells #[.int .i64 k, .slice none 0 0] 61)) (owns_below hown1 bA) (Nat.le_trans (Nat.le_trans (Nat.le_trans hNw HSS.out.off.size) HB1.out.size) bA.size) hil (by omega) (heap_alloc_new w1 _) (fun e => by
            have := hlA _ e
            omega)
          have HNK : Hid ((d.bl.map (·.1))[i]? ≠ some k) := fun z => by
            rw [HKE.out] at z
            exact absurd (hy.2 z) (by decide)
          have HDA : Hid (DkAt (w1.alloc (.cells #[.int .i64 k, .slice none 0 0] 61)) N D V' U' ((Sto.write k L 0 ds).take q ++ ds.drop q)) := HDK1.out.below bA
          have HLA : Hid (LayB (w1.alloc (.cells #[.int .i64 k, .slice none 0 0] 61)) M (.slice (some ⟨bL, 0, none⟩) n cL) L Y) := HLB1.out.below bA
          have HBA : Hid (Below wr.heap.size wr (w1.alloc (.cells #[.int .i64 k, .slice none 0 0] 61))) := bt HB1.out bA
          have HLB9 : Hid (w.heap.size ≤ w1.heap.size) := Nat.le_trans HSS.out.off.size HB1.out.size
          clear hy hown1 HDK1 HLB1 hlA
          go_wp2_with fail
          generalize w1.alloc (.cells #[.int .i64 k, .slice none 0 0] 61) = wa at HI HDA HLA HBA bA
          refine HI.mono ?_
          rintro e w2 ⟨v2, rfl, hown2, hoff2, hat2⟩
          obtain ⟨g, cap, hv2, hgN, hcap1, hcap2, hgl, hce⟩ := owns_cells hown2 (by rw [List.length_append, List.length_cons]; omega)
          have hlen2 : ((U q).take i ++ (k, ((none, 0, 0) : Sl), ([] : List Nat)) :: (U q).drop i).length = (U q).length + 1 := by
            simp
            omega
          rw [hlen2] at hv2 hown2 hcap1
          subst hv2
          have hx2 : ((U q).take i ++ (k, ((none, 0, 0) : Sl), ([] : List Nat)) :: (U q).drop i)[i]? = some (k, (none, 0, 0), []) := by
            rw [ins_get _ _ hil, if_neg (Nat.lt_irrefl i), if_pos rfl]
          have d1 := hce (i * 2 + 1) _ (flat_get heCells 2 _ (fun _ _ => rfl) i 1 (by decide) _ hx2)
          have fg := hown2.frozenAt (i * 2 + 1)
          have hgT : TyB w2 g 61 := owns_ty hown2 rfl
          have hownV := HDA.out.own q (by rw [join_len (Sto.write_length k L ds 0), HN.out]; exact hlt)
          have hofV : ∀ b t, TyB wa b t → t ≠ 61 → w2.heap[b]? = wa.heap[b]? := fun b t ht hne => hoff2.block b ht.lt fun s => by
            obtain ⟨hVq, _, hV⟩ := HVQ.out
            rw [← hV, ← hVq] at s
            exact ht.ne (owns_ty hownV s) hne rfl
          have hDT := HDA.out.row.ty
          have hD2 := hofV D _ hDT (by decide)
          have hDg : D ≠ g := (hDT.of_block hD2).ne hgT (by decide)
          have hgD : g ≠ D := fun e => hDg e.symm
          obtain ⟨b9, c9, hv9, _, _, hT9, hc9⟩ := HLA.out.at (by rw [HLN.out]; omega)
          rw [HLN.out] at hv9
          cases hv9
          have hL2 := hofV bL _ hT9 (by decide)
          have hLD : bL ≠ D := hT9.ne hDT (by decide)
          have hLc2 : w2.cell? ⟨bL, q, none⟩ = some (slV (Y q)) := (World.cell?_of_block (w := wa) (a := ⟨bL, q, none⟩) hL2).trans (hc9 q (by rw [HLN.out]; exact hlt))
          have g12 : w2.cell? ⟨D, q * 2 + 1, none⟩ = some (.slice A (U q).length C) := (World.cell?_of_block (w := wa) (a := ⟨D, q * 2 + 1, none⟩) hD2).trans ((bA.cell (p := ⟨D, q * 2 + 1, none⟩) hlw).trans g1)
          have fD2 : w2.frozen? ⟨D, q * 2 + 1, none⟩ = false := (World.frozen?_of_block (w := wa) (a := ⟨D, q * 2 + 1, none⟩) hD2).trans (HDA.out.row.frozen _)
          have hcap2' : cap ≤ 9223372036854775807 := by unfold maxLen at hcap2; exact hcap2
          have HNX : Hid (∃ V' U', HoldS w ((w2.drew.setCell ⟨D, q * 2 + 1, none⟩ (.slice (some ⟨g, 0, none⟩) ((U q).length + 1) cap)).setCell ⟨g, i * 2 + 1, none⟩ (slV (Y q))) N D k n (q + 1) V U ds L Y V' U') := by
            obtain ⟨hVq, hUq, hV⟩ := HVQ.out
            have hoD : Off (fun k => (V' q).ownBlock = some k) wa w2.drew := by
              rw [hVq, hV]
              exact hoff2.drew
            have hT := HDA.out.fresh (w1 := w2.drew) (q := q) (i := i) (g := g) (cap := cap) (n := (U q).length + 1) HCUR.out k (by rw [hUq]; exact hil) (Y q) (L.getD q []) ((HLA.out.byt q (by rw [HLN.out]; exact hlt)).lower hNM) (by rw [hUq]; exact hown2) hoD (by
              rw [hVq, hV]
              rcases hat2 with z | z
              · exact Or.inl z.symm
              · exact Or.inr (z g rfl)) (HSS.out.sep HN.out hlt HLN.out HL.out HFR.out)
            rw [hUq, HG.out, ← Sto.ins_new HUP.out HCU.out HNK.out (L.getD q [])] at hT
            refine ⟨_, _, HSS.out.next hlt HWQ.out _ _ hT ?_ (fun b hb => ?_) (fun z b hz hb => ?_)⟩
            · have o1 : Off (fun b => b = D ∨ (V q).ownBlock = some b) wr w2.drew := (Off.of_below HBA.out).trans ((hoff2.wider fun b s => Or.inr (by rw [hV]; exact s)).drew)
              refine (o1.set (p := ⟨D, q * 2 + 1, none⟩) (Or.inl rfl) _).past (off_set _ ⟨g, i * 2 + 1, none⟩ (slV (Y q))) fun b s hb => ?_
              have s : b = g := s
              rcases hat2 with z | z
              · exact Or.inr (by rw [hV, s]; exact z.symm)
              · have := z g rfl
                have := HBA.out.size
                omega
            · cases hb
              rcases hat2 with z | z
              · exact Or.inl (by rw [hV]; exact z.symm)
              · refine Or.inr ?_
                show w.heap.size ≤ g
                have := z g rfl
                have := HLB9.out
                have := bA.size
                omega
            · rcases List.mem_append.1 hz with z1 | z1
              · exact Or.inl ⟨z, List.mem_of_mem_take z1, hb⟩
              · rcases List.mem_cons.1 z1 with rfl | z1
                · exact Or.inr hb
                · exact Or.inl ⟨z, List.mem_of_mem_drop z1, hb⟩
          have hil3 : (i : Int) < (((U q).length + 1 : Nat) : Int) := by omega
          unfold slV at hLc2 HNX
          have d1 : w2.cell? ⟨g, i * 2 + 1, none⟩ = some (.slice none 0 0) := d1
          clear HI hown2 hce hx2 hoff2 hat2 hofV hDT hD2 hL2 hT9 hc9 hownV hlen2
          go_wp2_with fail
          go_region
          go_wp2_with fail
          exact ⟨⟨q + 1, by omega, by go_num, HNX.out⟩, by simp [intOf]; omega⟩
    · obtain rfl : q = n := by omega
      go_wp2_with fail
      go_end0
      exact ⟨rfl, HS.out⟩

end Go.Proofs.YtmcaejooaaahdaaGreat

namespace Go.Proofs.YtmcaejooaaahdaaGreat
open Go.RowKit

theorem byts_of_block {w w' : World} {g o n cap : Nat} {f : Nat → Nat} (h : Byts w (.slice (some ⟨g, o, none⟩) n cap) n f) (e : w'.heap[g]? = w.heap[g]?) : Byts w' (.slice (some ⟨g, o, none⟩) n cap) n f := by
  obtain ⟨bd, A, C, hv, h1, h2, hc⟩ := h
  refine ⟨bd, A, C, hv, h1, h2, fun k hk => ?_⟩
  obtain ⟨b', o', e1, e2⟩ := hc k hk
  cases hv
  cases e1
  exact ⟨g, o, rfl, (World.cell?_of_block (a := ⟨g, o + k, none⟩) e).trans e2⟩
theorem byts_zero {w w' : World} {v : Value} {f : Nat → Nat} (h : Byts w v 0 f) : Byts w' v 0 f := by
  obtain ⟨bd, A, C, hv, h1, h2, _⟩ := h
  exact ⟨bd, A, C, hv, h1, h2, fun k hk => absurd hk (Nat.not_lt_zero k)⟩

/-- Bytes that lie in a row of bytes of the call's own; or none. -/
structure Pce (w : World) (N : Nat) (v : Value) (n : Nat) (f : Nat → Nat) : Prop where
  byts : Byts w v n f
  own : n = 0 ∨ ∃ g o cap m F, v = .slice (some ⟨g, o, none⟩) n cap ∧ N ≤ g ∧ RowC w g 5 m F
theorem Pce.of_block {w w' : World} {N n : Nat} {v : Value} {f : Nat → Nat} (h : Pce w N v n f) (hb : ∀ g m F, N ≤ g → RowC w g 5 m F → w'.heap[g]? = w.heap[g]?) : Pce w' N v n f := by
  rcases h.own with rfl | ⟨g, o, cap, m, F, rfl, hg, hr⟩
  · exact ⟨byts_zero h.byts, Or.inl rfl⟩
  · exact ⟨byts_of_block h.byts (hb g m F hg hr), Or.inr ⟨g, o, cap, m, F, rfl, hg, hr.of_block (hb g m F hg hr)⟩⟩
theorem Pce.below {w w' : World} {N n : Nat} {v : Value} {f : Nat → Nat} (h : Pce w N v n f) (hb : Below w.heap.size w w') : Pce w' N v n f := h.of_block (fun g _ _ _ hr => hb.block g hr.lt)
theorem Pce.kept {w w' : World} {N n M k : Nat} {v y : Value} {t : TypeId} {xs : List Value} {f : Nat → Nat} (h : Pce w N v n f) (ht : 5 ≠ t) (ho : w.ownsRow M t 1 y k xs) (hg : w.grownBy w' y.ownBlock) : Pce w' N v n f :=
  h.of_block (fun g m F _ hr => hg.block g hr.lt (fun e => by
    obtain ⟨F2, h2⟩ := owns_block ho e.symm
    exact hr.ne h2 ht rfl))
theorem Pce.lower {w : World} {N M n : Nat} {v : Value} {f : Nat → Nat} (h : Pce w N v n f) (hM : M ≤ N) : Pce w M v n f :=
  ⟨h.byts, h.own.imp id (fun ⟨g, o, cap, m, F, e, hg, hr⟩ => ⟨g, o, cap, m, F, e, Nat.le_trans hM hg, hr⟩)⟩
theorem Pce.nil (w : World) (N : Nat) {f : Nat → Nat} (hf : Bd f) : Pce w N (.slice none 0 0) 0 f := ⟨Byts.none w hf, Or.inl rfl⟩
theorem Made.pce {w : World} {N n : Nat} {v : Value} {f : Nat → Nat} (h : Made w N v n f) (hf : Bd f) : Pce w N v n f := by
  refine ⟨h.byts hf, ?_⟩
  obtain ⟨g, cap, rfl, hg, _, _, hr⟩ := h
  exact Or.inr ⟨g, 0, cap, _, _, rfl, hg, hr⟩

/-- A list of such that is appended to. -/
structure Pcs (w : World) (N : Nat) (v : Value) (k : Nat) (U : Nat → Value) (L : Nat → Nat) (f : Nat → Nat → Nat) : Prop where
  own : w.ownsRow N 59 1 v k ((List.range k).map U)
  row : ∀ i, i < k → Pce w N (U i) (L i) (f i)
theorem Pcs.below {w w' : World} {N k : Nat} {v : Value} {U : Nat → Value} {L : Nat → Nat} {f : Nat → Nat → Nat} (h : Pcs w N v k U L f) (hb : Below w.heap.size w w') : Pcs w' N v k U L f :=
  ⟨owns_below h.own hb, fun i hi => (h.row i hi).below hb⟩
theorem Pcs.start (w : World) (N : Nat) (U : Nat → Value) (L : Nat → Nat) (f : Nat → Nat → Nat) : Pcs w N (.slice none 0 0) 0 U L f :=
  ⟨World.ownsRow_nil w N _ 1, fun i hi => absurd hi (Nat.not_lt_zero i)⟩
theorem Pcs.step {w w' : World} {N k : Nat} {v v' u : Value} {U : Nat → Value} {L : Nat → Nat} {f : Nat → Nat → Nat} (h : Pcs w N v k U L f) (hr : Pce w N u (L k) (f k))
    (ho : w'.ownsRow N 59 1 v' (k + 1) ((List.range k).map U ++ [u])) (hg : w.grownBy w' v.ownBlock) : Pcs w' N v' (k + 1) (updV U k u) L f := by
  refine ⟨by rw [range_upd]; exact ho, fun i hi => ?_⟩
  by_cases e : i = k
  · rw [e, updV_at]
    exact hr.kept (by decide) h.own hg
  · rw [updV_ne _ _ e]
    exact (h.row i (by omega)).kept (by decide) h.own hg
theorem Pcs.lls {w : World} {N k : Nat} {v : Value} {U : Nat → Value} {L : Nat → Nat} {f : Nat → Nat → Nat} (h : Pcs w N v k U L f) (bd : Gf.Bd2 f) : Lls w v k L f := by
  rcases h.own.2 with ⟨rfl, h0⟩ | ⟨g, cap, cur, rfl, _, _, h1, h2, _, _⟩
  · subst h0
    exact ⟨bd, none, 0, rfl, Nat.le_refl _, Nat.zero_le _, fun r hr => absurd hr (Nat.not_lt_zero r)⟩
  · refine ⟨bd, some ⟨g, 0, none⟩, cap, rfl, h1, h2, fun r hr => ⟨g, 0, U r, rfl, ?_, (h.row r hr).byts⟩⟩
    have := h.own.cells (g := g) rfl r (U r) (by simp [hr])
    rw [WideShapes.add_plain] at this
    exact this
/-- Another list of the call's own grows. -/
theorem Pcs.kept {w w' : World} {N k M m : Nat} {v y : Value} {t : TypeId} {xs : List Value} {U : Nat → Value} {L : Nat → Nat} {f : Nat → Nat → Nat} (h : Pcs w N v k U L f) (ht : 5 ≠ t) (ht2 : 59 ≠ t) (ho : w.ownsRow M t 1 y m xs) (hg : w.grownBy w' y.ownBlock) : Pcs w' N v k U L f := by
  refine ⟨h.own.kept hg ?_, fun i hi => (h.row i hi).kept ht ho hg⟩
  cases hv : v.ownBlock with
  | none => exact Or.inl rfl
  | some x =>
    refine Or.inr (fun e => ?_)
    obtain ⟨F1, h1⟩ := owns_block h.own hv
    obtain ⟨F2, h2⟩ := owns_block ho e.symm
    exact h1.ne h2 ht2 rfl
theorem Nums.kept {w w' : World} {N M m : Nat} {v y : Value} {t : TypeId} {xs : List Value} {l : List Nat} (h : Nums w N v l) (ht : 3 ≠ t) (ho : w.ownsRow M t 1 y m xs) (hg : w.grownBy w' y.ownBlock) : Nums w' N v l := by
  refine World.ownsRow.kept h hg ?_
  cases hv : v.ownBlock with
  | none => exact Or.inl rfl
  | some x =>
    refine Or.inr (fun e => ?_)
    obtain ⟨F1, h1⟩ := owns_block h hv
    obtain ⟨F2, h2⟩ := owns_block ho e.symm
    exact h1.ne h2 ht rfl

end Go.Proofs.YtmcaejooaaahdaaGreat
