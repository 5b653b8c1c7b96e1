/-
  Texts of the proof, joined: HScrub, HHeld.
-/
import Derived.Test.YtmcaejooaaahdaaGreatZ35
namespace Go.Proofs.YtmcaejooaaahdaaGreat
open Go.RowKit

theorem there_take (ds : List Sto.Disk) (l : List Nat) (k : Nat) {i : Nat} {d : Sto.Disk} (hk : l[k]? = some i) (hd : ds[i]? = some d) : Sto.there ds (l.take (k + 1)) = Sto.there ds (l.take k) + if d.gone then 0 else 1 := by
  unfold Sto.there
  rw [List.take_add_one, hk, List.filter_append, List.length_append]
  congr 1
  show (List.filter _ [i]).length = _
  cases hg : d.gone
  · rw [List.filter_cons_of_pos (by rw [hd]; show (!d.gone) = true; rw [hg]; rfl)]
    rfl
  · rw [List.filter_cons_of_neg (by rw [hd]; show ¬ (!d.gone) = true; rw [hg]; decide)]
    rfl
theorem there_le (ds : List Sto.Disk) (l : List Nat) : Sto.there ds l ≤ l.length := List.length_filter_le ..
section
variable {N R D : Nat} {F E : Nat → Prop} {c : Sto.Cfg} {s : Sto.St} {V : Nat → Value} {U : Nat → List HeC} {vt vs va : Value} {tc : List (Int × Sl)} {X : Sto.Six}
set_option maxHeartbeats 1000000 in
set_option maxRecDepth 100000 in
theorem there_any (v : Value) (l : List Nat) (M : Nat) (w : World) (h : StP w N R F E c s D V U vt vs va tc) (hl : Nums w M v l) (hd : ∀ i, i ∈ l → i < s.disks.length) (hln : l.length ≤ 1000) :
    Calls Tryz.prog 57 #[.pointer (some ⟨R, 0, none⟩), v] w fun e w' => e = .returned (.int .i64 ((Sto.there s.disks l : Nat) : Int)) ∧ w' = w := by
  have c3 := h.c3
  have hlen : s.disks.length ≤ 12 := by have := h.wf.len; have := h.wf.d8; have := h.wf.s4; omega
  have HP : Hid (StP w N R F E c s D V U vt vs va tc) := h
  have HD : Hid (∀ i, i ∈ l → i < s.disks.length) := hd
  obtain ⟨A, C, hv, hcell⟩ := nums_cells hl
  subst hv
  have HC : Hid (∀ r, r < l.length → ∃ b o, A = some ⟨b, o, none⟩ ∧ w.cell? ⟨b, o + r, none⟩ = some (.int .i64 ((l.getD r 0 : Nat) : Int))) := hcell
  obtain ⟨L, hL⟩ : ∃ L, L = s.disks.length := ⟨_, rfl⟩
  rw [← hL] at c3 hlen
  have HL : Hid (L = s.disks.length) := hL
  obtain ⟨n, hn⟩ : ∃ n, n = l.length := ⟨_, rfl⟩
  have HN : Hid (n = l.length) := hn
  rw [← hn] at hln ⊢
  clear h hd hl hcell hL hn
  go_enter Tryz.func57, Tryz.ntmps57
  go_wp2_with fail
  go_loopw [5, 10] (fun y x wr => ∃ k : Nat, k ≤ n ∧ x = .int .i64 k ∧ y = .int .i64 ((Sto.there s.disks (l.take k) : Nat) : Int) ∧ wr = w) (fun _ x _ => n - (intOf x).toNat)
  case atStart => exact ⟨0, Nat.zero_le _, rfl, by rw [List.take_zero]; rfl, rfl⟩
  case round =>
    obtain ⟨k, hk, rfl, rfl, rfl⟩ := hrel
    have hle : Sto.there s.disks (l.take k) ≤ 1000 := Nat.le_trans (there_le _ _) (by rw [List.length_take]; omega)
    by_cases hlt : k < n
    · have hlt' : (k : Int) < (n : Int) := by omega
      have hkl : k < l.length := by rw [← HN.out]; exact hlt
      obtain ⟨b, o, rfl, d0⟩ := HC.out k hkl
      obtain ⟨i, hi⟩ : ∃ i, l[k]? = some i := ⟨l[k], List.getElem?_eq_getElem hkl⟩
      have hig : l.getD k 0 = i := by
        rw [List.getD_eq_getElem?_getD, hi]
        rfl
      rw [hig] at d0
      have hil := HD.out i (List.mem_of_getElem? hi)
      obtain ⟨d, hdi⟩ : ∃ d, s.disks[i]? = some d := ⟨s.disks[i], List.getElem?_eq_getElem hil⟩
      have g0 := HP.out.dk.gone hdi
      have hil' : (i : Int) < (L : Int) := by rw [HL.out]; omega
      have HT : Hid (Sto.there s.disks (l.take (k + 1)) = Sto.there s.disks (l.take k) + if d.gone then 0 else 1) := there_take _ _ _ hi hdi
      generalize Sto.there s.disks (l.take k) = t at hle HT
      clear hkl hi hig hil hdi
      cases hg : d.gone with
      | true =>
        rw [hg] at g0 HT
        clear hg
        go_wp2_with fail
        refine ⟨⟨k + 1, by omega, by go_num, by rw [HT.out]; rfl, trivial⟩, by simp [intOf]; omega⟩
      | false =>
        rw [hg] at g0 HT
        clear hg
        go_wp2_with fail
        refine ⟨⟨k + 1, by omega, by go_num, by rw [HT.out]; go_num, trivial⟩, by simp [intOf]; omega⟩
    · obtain rfl : k = n := by omega
      have HT : Hid (l.take k = l) := by
        show l.take k = l
        rw [HN.out, List.take_length]
      go_wp2_with fail
      go_ret
      exact ⟨by rw [HT.out]; rfl, rfl⟩

theorem StP.blks {w : World} (h : StP w N R F E c s D V U vt vs va tc) (k : Int) : Calls Tryz.prog 52 #[.pointer (some ⟨R, 0, none⟩), .int .i64 k] w fun e w' => BlkO e w' (Sto.blocks s.disks k) ∧ Below w.heap.size w w' :=
  sblocks_any R D s.disks.length N 100 k V U s.disks w h.c3 h.dk rfl (by have := h.wf.len; have := h.wf.d8; have := h.wf.s4; omega) h.wf.wd (by omega)
theorem blocks_len (ds : List Sto.Disk) (k : Int) : (Sto.blocks ds k).length = ds.length := List.length_map ..
theorem health_step (X : Sto.Six) (ds : List Sto.Disk) : ∀ (m k n : Nat), Sto.health X ds (m + 1) k n = Sto.health X ds m k n + (X.bad (Sto.blocks ds ((k + m : Nat) : Int)) (k + m)).length
  | 0, k, n => rfl
  | m + 1, k, n => by
    rw [Sto.health, health_step X ds m (k + 1), Sto.health, show k + 1 + m = k + (m + 1) by omega]
theorem bad_len {X : Sto.Six} (hX : Sto.SixOk X) (bs : List (List Nat)) (k : Nat) : (X.bad bs k).length ≤ bs.length := by
  rw [hX.bad]
  exact badL_len ..
theorem health_le {X : Sto.Six} (hX : Sto.SixOk X) (ds : List Sto.Disk) : ∀ (m : Nat), Sto.health X ds m 0 0 ≤ m * ds.length
  | 0 => Nat.zero_le _
  | m + 1 => by
    rw [health_step, Nat.succ_mul]
    have h1 := health_le hX ds m
    have h2 := bad_len hX (Sto.blocks ds ((0 + m : Nat) : Int)) (0 + m)
    rw [blocks_len] at h2
    omega
set_option maxHeartbeats 1000000 in
set_option maxRecDepth 100000 in
theorem health_any (hX : Sto.SixOk X) (w : World) (h : StP w N R F E c s D V U vt vs va tc) :
    Calls Tryz.prog 30 #[.pointer (some ⟨R, 0, none⟩)] w fun e w' => e = .returned (.int .i64 ((Sto.health X s.disks s.segs 0 0 : Nat) : Int)) ∧ Below w.heap.size w w' := by
  have c4 := h.var.cell (i := 4) rfl
  have hsg := h.wf.segs
  have hlen : s.disks.length ≤ 12 := by have := h.wf.len; have := h.wf.d8; have := h.wf.s4; omega
  have HP : Hid (StP w N R F E c s D V U vt vs va tc) := h
  have HX : Hid (Sto.SixOk X) := hX
  obtain ⟨n, hn⟩ : ∃ n, n = s.segs := ⟨_, rfl⟩
  rw [← hn] at c4 hsg ⊢
  clear h hX hn
  go_enter Tryz.func30, Tryz.ntmps30
  go_wp2_with fail
  go_loopw [3, 10] (fun y x wr => ∃ k : Nat, k ≤ n ∧ x = .int .i64 k ∧ y = .int .i64 ((Sto.health X s.disks k 0 0 : Nat) : Int) ∧ Below w.heap.size w wr) (fun _ x _ => n - (intOf x).toNat)
  case atStart => exact ⟨0, Nat.zero_le _, rfl, rfl, Below.refl _ _⟩
  case round =>
    obtain ⟨k, hk, rfl, rfl, hb⟩ := hrel
    have hle : Sto.health X s.disks k 0 0 ≤ 1000 := by
      have h1 := health_le HX.out s.disks k
      have h2 : k * s.disks.length ≤ 40 * 12 := Nat.mul_le_mul (by omega) hlen
      omega
    by_cases hlt : k < n
    · have hlt' : (k : Int) < (n : Int) := by omega
      have HB := (HP.out.below hb).blks (k : Int)
      have HT : Hid (Sto.health X s.disks (k + 1) 0 0 = Sto.health X s.disks k 0 0 + (X.bad (Sto.blocks s.disks (k : Int)) k).length) := by
        have := health_step X s.disks k 0 0
        rw [Nat.zero_add] at this
        exact this
      have hbl : (X.bad (Sto.blocks s.disks (k : Int)) k).length ≤ 12 := by
        have := bad_len HX.out (Sto.blocks s.disks (k : Int)) k
        rw [blocks_len] at this
        omega
      have HBD : Hid (∀ v' w', Lls w' v' (Sto.blocks s.disks (k : Int)).length (Sto.lenF (Sto.blocks s.disks (k : Int))) (Sto.valF (Sto.blocks s.disks (k : Int))) → Calls Tryz.prog 53 #[v', .int .i64 (k : Int)] w' fun e w2 => ∃ A C, e = .returned (.slice A (X.bad (Sto.blocks s.disks (k : Int)) k).length C) ∧ Below w'.heap.size w' w2) := fun v' w' hL => by
        refine (badX_any HX.out v' _ k w' hL (by rw [blocks_len]; exact hlen)).mono ?_
        rintro e w2 ⟨v2, rfl, hn2, hb2⟩
        obtain ⟨A, C, hv, _⟩ := nums_cells hn2
        exact ⟨A, C, by rw [hv], hb2⟩
      generalize (X.bad (Sto.blocks s.disks (k : Int)) k).length = t at HT hbl HBD
      generalize Sto.health X s.disks k 0 0 = z at hle HT
      go_wp2_with fail
      refine HB.mono ?_
      rintro e w1 ⟨⟨v1, rfl, hL1⟩, b1⟩
      have H2 := HBD.out v1 w1 hL1
      obtain ⟨A1, C1, rfl⟩ := hL1.shape
      clear HB HBD hL1
      go_wp2_with fail
      refine H2.mono ?_
      rintro e w2 ⟨A, C, rfl, b2⟩
      clear H2
      go_wp2_with fail
      exact ⟨⟨k + 1, by omega, by go_num, by rw [HT.out]; go_num, bt hb (bt b1 b2)⟩, by simp [intOf]; omega⟩
    · obtain rfl : k = n := by omega
      go_wp2_with fail
      go_ret
      exact ⟨rfl, hb⟩
end

end Go.Proofs.YtmcaejooaaahdaaGreat

namespace Go.Proofs.YtmcaejooaaahdaaGreat
open Go.RowKit

theorem WfD.write {ds : List Sto.Disk} {m k : Nat} (h : WfD ds m) (hk : k < m) (L : List (List Nat)) : WfD (Sto.write k L 0 ds) m := fun i d hi => by
  rw [Sto.write_at] at hi
  obtain ⟨e, he, rfl⟩ := Option.map_eq_some_iff.1 hi
  obtain ⟨h1, h2, h3⟩ := h i e he
  by_cases q : e.gone = true
  · rw [if_pos q]
    exact ⟨h1, h2, h3⟩
  · rw [if_neg q]
    refine ⟨Sto.ins_sorted h1, fun x hx => ?_, fun z => by cases z⟩
    rcases Sto.ins_mem h1 hx with rfl | ⟨z, _⟩
    · show 0 ≤ (k : Int) ∧ (k : Int) < (m : Int)
      omega
    · exact h2 x z
section
variable {w w0 w1 w2 : World} {N R D : Nat} {F F' E : Nat → Prop} {c : Sto.Cfg} {s : Sto.St} {V : Nat → Value} {U : Nat → List HeC} {vt vs va : Value} {tc : List (Int × Sl)} {X : Sto.Six}
theorem StP.wider (h : StP w N R F E c s D V U vt vs va tc) (hF : ∀ k, F k → F' k) (hF' : ∀ k, F' k → F k ∨ (N ≤ k ∧ k < w.heap.size ∧ ¬ E k)) : StP w N R F' E c s D V U vt vs va tc :=
  ⟨h.var, h.ge, h.dk, h.tail, h.seen, h.acc, hF _ h.fR, hF _ h.fD, fun i g hi hg => hF _ (h.fV i g hi hg), fun i x g hi hx hg => hF _ (h.fU i x g hi hx hg), fun g hg => hF _ (h.fT g hg), fun g hg => hF _ (h.fS g hg), fun k hk => by
    rcases hF' k hk with q | ⟨q1, q2, _⟩
    · exact h.lt k q
    · exact ⟨q1, q2⟩, fun k hk => ⟨fun z => by
    rcases hF' k z with q | ⟨_, _, q⟩
    · exact (h.dis k hk).1 q
    · exact q hk, (h.dis k hk).2⟩, h.wf⟩
theorem StP.small (h : StP w N R F E c s D V U vt vs va tc) : 1 ≤ s.disks.length ∧ s.disks.length ≤ 12 := by
  have h1 := h.wf.len
  have h2 := h.wf.d8
  have h3 := h.wf.s4
  have h4 := h.wf.d1
  omega
/-- What hold leaves: the disks, written. -/
def HeldO (e : Ending) (w0 w2 : World) (N R : Nat) (F E : Nat → Prop) (c : Sto.Cfg) (s : Sto.St) (D : Nat) (vt vs va : Value) (tc : List (Int × Sl)) (ds' : List Sto.Disk) : Prop := e = .returned (.tuple #[]) ∧ ∃ F' V' U', StP w2 N R F' E c { s with disks := ds' } D V' U' vt vs va tc ∧ Frame w0 w2 F F' E E
theorem heldS_any (h : StP w0 N R F E c s D V U vt vs va tc) (b1 : Below w0.heap.size w0 w1) {vl : Value} {L : List (List Nat)} {Y : Nat → Sl} (hL : LayB w1 w0.heap.size vl L Y) (hLn : L.length = s.disks.length) (k : Nat) (hk : k < 100) (hNw : N ≤ w0.heap.size) :
    Calls Tryz.prog 56 #[.pointer (some ⟨R, 0, none⟩), .int .i64 (k : Int), vl] w1 fun e w2 => HeldO e w0 w2 N R F E c s D vt vs va tc (Sto.write k L 0 s.disks) := by
  have h1 := h.below b1
  obtain ⟨n1, n12⟩ := h.small
  have hUlt : ∀ (i : Nat) (x : HeC) (g : Nat), i < s.disks.length → x ∈ U i → (slV x.2.1).ownBlock = some g → g < w0.heap.size := fun i x g hi hx hg => (h.lt g (h.fU i x g hi hx hg)).2
  have hYge : ∀ (j g : Nat), j < s.disks.length → (slV (Y j)).ownBlock = some g → w0.heap.size ≤ g := fun j g hj hg => (hL.byt j (by omega)).ge hg
  have hYlt : ∀ (j g : Nat), j < s.disks.length → (slV (Y j)).ownBlock = some g → g < w1.heap.size := fun j g hj hg => hL.lt (by omega) hg
  refine (hold_any R D s.disks.length N 100 k V U s.disks L Y vl w0.heap.size w1 h1.var.ty h1.c3 h1.dk rfl n1 n12 h.wf.wd (by omega) hL hLn hNw (Nat.le_trans hNw b1.size) (fun i j x g hi hj hx hg e => by
    have z1 := hUlt i x g hi hx hg
    have z2 := hYge j g hj e
    omega)).mono ?_
  rintro e w2 ⟨rfl, V', U', hS⟩
  refine ⟨rfl, fun k => F k ∨ (w0.heap.size ≤ k ∧ k < w2.heap.size), V', U', ?_⟩
  have hs2 := hS.off.size
  have hwide : StP w1 N R (fun k => F k ∨ (w0.heap.size ≤ k ∧ k < w1.heap.size)) E c s D V U vt vs va tc := h1.wider (fun _ q => Or.inl q) fun k q => by
    rcases q with q | ⟨q1, q2⟩
    · exact Or.inl q
    · exact Or.inr ⟨Nat.le_trans hNw q1, q2, fun z => absurd (h.dis k z).2 (Nat.not_lt.2 q1)⟩
  have hdk : DkAt w2 N D V' U' (Sto.write k L 0 s.disks) := by
    have := hS.dk
    rw [show (Sto.write k L 0 s.disks).take s.disks.length = Sto.write k L 0 s.disks from List.take_of_length_le (by rw [Sto.write_length]; exact Nat.le_refl _), List.drop_length, List.append_nil] at this
    exact this
  have H := hwide.disks (F' := fun k => F k ∨ (w0.heap.size ≤ k ∧ k < w2.heap.size)) hS.off (fun b q => ?_) hdk (Sto.write_length ..) (fun b q => ?_) (fun b q => ?_) (Nat.le_trans hNw b1.size) (fun i g hi hg => ?_) (fun i x g hi hx hg => ?_) ⟨by show (Sto.write k L 0 s.disks).length = _; rw [Sto.write_length]; exact h.wf.len, h.wf.d1, h.wf.d8, h.wf.s4, h.wf.b1, h.wf.b10, h.wf.wd.write hk L, h.wf.segs, h.wf.tail, h.wf.bats, h.wf.up, h.wf.cmds, h.wf.right⟩
  · refine ⟨H.1, ⟨(Off.of_below b1).trans (hS.off.wider fun b q => ?_), fun b q => ?_, fun _ q => Or.inl q⟩⟩
    · rcases q with rfl | ⟨i, hi, q⟩
      · exact h.fD
      · exact h.fV i b hi q
    · rcases q with q | ⟨q, _⟩
      · exact Or.inl q
      · exact Or.inr q
  · rcases q with rfl | ⟨i, hi, q⟩
    · exact ⟨Or.inl h.fD, _, h1.dk.row.ty, Or.inl rfl⟩
    · exact ⟨Or.inl (h.fV i b hi q), _, owns_ty (h1.dk.own i hi) q, Or.inr (Or.inl rfl)⟩
  · rcases q with q | ⟨q1, q2⟩
    · exact Or.inl q
    · exact Or.inr ⟨q1, Nat.lt_of_lt_of_le q2 hs2⟩
  · rcases q with q | ⟨q1, q2⟩
    · exact Or.inl (Or.inl q)
    · by_cases z : b < w1.heap.size
      · exact Or.inl (Or.inr ⟨q1, z⟩)
      · exact Or.inr ⟨Nat.not_lt.1 z, q2⟩
  · rcases hS.newV i g hi hg with q | q
    · exact Or.inl (h.fV i g hi q)
    · exact Or.inr ⟨Nat.le_trans b1.size q, hdk.Vlt (by rw [Sto.write_length]; exact hi) hg⟩
  · rcases hS.newU i x g hi hx hg with ⟨y, hy, q⟩ | ⟨_, q⟩
    · exact Or.inl (h.fU i y g hi hy q)
    · exact Or.inr ⟨hYge i g hi q, Nat.lt_of_lt_of_le (hYlt i g hi q) hs2⟩
end

/-! ### The first of two errors -/
def orE (a b : Nat) : Nat := if a = 0 then b else a
set_option maxHeartbeats 400000 in
set_option maxRecDepth 100000 in
theorem or_any (a b p : Nat) (w : World) (c0 : w.cell? ⟨p, 0, none⟩ = some (.int .i64 (a : Int))) (c1 : w.cell? ⟨p, 1, none⟩ = some (.int .i64 (b : Int))) :
    Calls Tryz.prog 55 #[.slice (some ⟨p, 0, none⟩) 2 2] w fun e w' => e = .returned (.int .i64 ((orE a b : Nat) : Int)) ∧ w' = w := by
  by_cases ha : a = 0
  · by_cases hb : b = 0
    · subst ha
      subst hb
      have HO : Hid (orE 0 0 = 0) := rfl
      go_enter Tryz.func55, Tryz.ntmps55
      go_wp2_with fail
      go_loopw [8] (fun x wr => ∃ k : Nat, k ≤ 2 ∧ x = .int .i64 k ∧ wr = w) (fun x _ => 2 - (intOf x).toNat)
      case atStart => exact ⟨0, Nat.zero_le _, rfl, rfl⟩
      case round =>
        obtain ⟨k, hk, rfl, rfl⟩ := hrel
        rcases (show k = 0 ∨ k = 1 ∨ k = 2 by omega) with rfl | rfl | rfl
        · go_wp2_with fail
          exact ⟨⟨1, by omega, rfl, trivial⟩, by simp [intOf]⟩
        · go_wp2_with fail
          exact ⟨⟨2, by omega, rfl, trivial⟩, by simp [intOf]⟩
        · go_wp2_with fail
          go_ret
          exact ⟨rfl, rfl⟩
    · subst ha
      have HO : Hid (orE 0 b = b) := rfl
      have hb' : ((b : Int) != 0) = true := by rw [bne_iff_ne]; omega
      clear hb
      go_enter Tryz.func55, Tryz.ntmps55
      go_wp2_with fail
      go_loopw [8] (fun x wr => ∃ k : Nat, k ≤ 1 ∧ x = .int .i64 k ∧ wr = w) (fun x _ => 2 - (intOf x).toNat)
      case atStart => exact ⟨0, Nat.zero_le _, rfl, rfl⟩
      case round =>
        obtain ⟨k, hk, rfl, rfl⟩ := hrel
        rcases (show k = 0 ∨ k = 1 by omega) with rfl | rfl
        · go_wp2_with fail
          exact ⟨⟨1, by omega, rfl, trivial⟩, by simp [intOf]⟩
        · go_wp2_with fail
          go_ret
          exact ⟨by rw [HO.out]; rfl, rfl⟩
  · have HO : Hid (orE a b = a) := if_neg ha
    have ha' : ((a : Int) != 0) = true := by rw [bne_iff_ne]; omega
    clear ha
    go_enter Tryz.func55, Tryz.ntmps55
    go_wp2_with fail
    go_loopw [8] (fun x wr => x = .int .i64 0 ∧ wr = w) (fun x _ => 2 - (intOf x).toNat)
    case atStart => exact ⟨rfl, rfl⟩
    case round =>
      obtain ⟨rfl, rfl⟩ := hrel
      go_wp2_with fail
      go_ret
      exact ⟨by rw [HO.out]; rfl, rfl⟩

end Go.Proofs.YtmcaejooaaahdaaGreat
