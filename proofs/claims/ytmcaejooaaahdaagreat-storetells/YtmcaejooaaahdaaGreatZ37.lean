/-
  Texts of the proof, joined: HMendS.
-/
import Derived.Test.YtmcaejooaaahdaaGreatZ36
import Derived.StillTailTactics
namespace Go.Proofs.YtmcaejooaaahdaaGreat
open Go.RowKit

/-- One segment is scrubbed. -/
def scrubOne (X : Sto.Six) (c : Sto.Cfg) (j : Nat) (r : List Sto.Disk × Nat × Nat) : List Sto.Disk × Nat × Nat :=
  if X.bad (Sto.blocks r.1 j) j = [] then r
  else if (X.mend (Sto.blocks r.1 j) j c).1 ≠ 0 then (r.1, orE r.2.1 (X.mend (Sto.blocks r.1 j) j c).1, r.2.2)
  else (Sto.write j (X.mend (Sto.blocks r.1 j) j c).2 0 r.1, r.2.1, r.2.2 + Sto.there r.1 (X.bad (Sto.blocks r.1 j) j))
theorem scrub_snoc (X : Sto.Six) (c : Sto.Cfg) : ∀ (m k : Nat) (ds : List Sto.Disk) (e n : Nat), Sto.scrub X c (m + 1) k ds e n = scrubOne X c (k + m) (Sto.scrub X c m k ds e n)
  | 0, k, ds, e, n => by
    show Sto.scrub X c 1 k ds e n = scrubOne X c k (ds, e, n)
    unfold scrubOne orE
    rw [Sto.scrub]
    by_cases h1 : X.bad (Sto.blocks ds k) k = []
    · rw [if_pos h1, if_pos h1]
      rfl
    · rw [if_neg h1, if_neg h1]
      by_cases h2 : (X.mend (Sto.blocks ds k) k c).1 ≠ 0
      · rw [if_pos h2, if_pos h2]
        rfl
      · rw [if_neg h2, if_neg h2]
        rfl
  | m + 1, k, ds, e, n => by
    by_cases h1 : X.bad (Sto.blocks ds k) k = []
    · have e1 : ∀ j, Sto.scrub X c (j + 1) k ds e n = Sto.scrub X c j (k + 1) ds e n := fun j => by rw [Sto.scrub, if_pos h1]
      rw [e1, e1, scrub_snoc X c m (k + 1), show k + 1 + m = k + (m + 1) by omega]
    · by_cases h2 : (X.mend (Sto.blocks ds k) k c).1 ≠ 0
      · have e1 : ∀ j, Sto.scrub X c (j + 1) k ds e n = Sto.scrub X c j (k + 1) ds (if e = 0 then (X.mend (Sto.blocks ds k) k c).1 else e) n := fun j => by rw [Sto.scrub, if_neg h1, if_pos h2]
        rw [e1, e1, scrub_snoc X c m (k + 1), show k + 1 + m = k + (m + 1) by omega]
      · have e1 : ∀ j, Sto.scrub X c (j + 1) k ds e n = Sto.scrub X c j (k + 1) (Sto.write k (X.mend (Sto.blocks ds k) k c).2 0 ds) e (n + Sto.there ds (X.bad (Sto.blocks ds k) k)) := fun j => by rw [Sto.scrub, if_neg h1, if_neg h2]
        rw [e1, e1, scrub_snoc X c m (k + 1), show k + 1 + m = k + (m + 1) by omega]
theorem scrub_len (X : Sto.Six) (c : Sto.Cfg) (ds : List Sto.Disk) : ∀ m : Nat, (Sto.scrub X c m 0 ds 0 0).1.length = ds.length
  | 0 => rfl
  | m + 1 => by
    rw [scrub_snoc]
    unfold scrubOne
    split
    · exact scrub_len X c ds m
    · split
      · exact scrub_len X c ds m
      · show (Sto.write _ _ 0 _).length = _
        rw [Sto.write_length]
        exact scrub_len X c ds m
theorem scrub_le {X : Sto.Six} (hX : Sto.SixOk X) (c : Sto.Cfg) (ds : List Sto.Disk) : ∀ m : Nat, (Sto.scrub X c m 0 ds 0 0).2.2 ≤ m * ds.length
  | 0 => Nat.zero_le _
  | m + 1 => by
    have ih := scrub_le hX c ds m
    have hl := scrub_len X c ds m
    rw [scrub_snoc, Nat.succ_mul]
    unfold scrubOne
    split
    · omega
    · split
      · show (Sto.scrub X c m 0 ds 0 0).2.2 ≤ _
        omega
      · show (Sto.scrub X c m 0 ds 0 0).2.2 + Sto.there _ _ ≤ _
        have h1 := there_le (Sto.scrub X c m 0 ds 0 0).1 (X.bad (Sto.blocks (Sto.scrub X c m 0 ds 0 0).1 ((0 + m : Nat) : Int)) (0 + m))
        have h2 := bad_len hX (Sto.blocks (Sto.scrub X c m 0 ds 0 0).1 ((0 + m : Nat) : Int)) (0 + m)
        rw [blocks_len] at h2
        omega
theorem there_write (k : Int) (L : List (List Nat)) (ds : List Sto.Disk) (l : List Nat) : Sto.there (Sto.write k L 0 ds) l = Sto.there ds l := by
  unfold Sto.there
  congr 1
  refine List.filter_congr fun i _ => ?_
  have h := Sto.write_gone k L ds i
  cases h1 : (Sto.write k L 0 ds)[i]? with
  | none =>
    cases h2 : ds[i]? with
    | none => rfl
    | some d =>
      rw [h1, h2] at h
      cases h
  | some a =>
    cases h2 : ds[i]? with
    | none =>
      rw [h1, h2] at h
      cases h
    | some d =>
      rw [h1, h2] at h
      have h : some a.gone = some d.gone := h
      show (!a.gone) = !d.gone
      rw [Option.some.inj h]
theorem bad_mem {X : Sto.Six} (hX : Sto.SixOk X) {bs : List (List Nat)} {k i : Nat} (h : i ∈ X.bad bs k) : i < bs.length := by
  rw [hX.bad] at h
  exact List.mem_range.1 (List.mem_filter.1 h).1
theorem mend_len {X : Sto.Six} (hX : Sto.SixOk X) {bs : List (List Nat)} {k : Nat} {c : Sto.Cfg} (h : (X.mend bs k c).1 = 0) : (X.mend bs k c).2.length = c.d + c.s := by
  rw [hX.mend] at h ⊢
  by_cases q : (X.read bs k c).1 ≠ 0
  · rw [if_pos q] at h
    exact absurd h q
  · rw [if_neg q] at h ⊢
    exact (Sto.layX_inv (show Sto.layX (X.read bs k c).2 k c = (0, (Sto.layX (X.read bs k c).2 k c).2) from Prod.ext h rfl)).2.1

/-- A scrub under way. -/
structure ScP (w wr : World) (N R : Nat) (F E F' : Nat → Prop) (c : Sto.Cfg) (s : Sto.St) (D : Nat) (V : Nat → Value) (U : Nat → List HeC) (vt vs va : Value) (tc : List (Int × Sl)) (r : List Sto.Disk × Nat × Nat) : Prop where
  st : StP wr N R F' E c { s with disks := r.1 } D V U vt vs va tc
  fr : Frame w wr F F' E E
  no : ∀ k, k = w.heap.size ∨ k = w.heap.size + 1 → ¬ F' k ∧ ¬ E k
  a0 : VarN wr w.heap.size 42 (ansC 0 0).toList
  a1 : VarN wr (w.heap.size + 1) 42 (ansC (r.2.1 : Nat) (r.2.2 : Nat)).toList
def ScS (w wr : World) (N R : Nat) (F E : Nat → Prop) (c : Sto.Cfg) (s : Sto.St) (D : Nat) (vt vs va : Value) (tc : List (Int × Sl)) (r : List Sto.Disk × Nat × Nat) : Prop := ∃ F' V U, ScP w wr N R F E F' c s D V U vt vs va tc r
section
variable {w wr w' : World} {N R D : Nat} {F E F' : Nat → Prop} {c : Sto.Cfg} {s : Sto.St} {V : Nat → Value} {U : Nat → List HeC} {vt vs va : Value} {tc : List (Int × Sl)} {r : List Sto.Disk × Nat × Nat}
theorem ScP.below (h : ScP w wr N R F E F' c s D V U vt vs va tc r) (hb : Below wr.heap.size wr w') : ScP w w' N R F E F' c s D V U vt vs va tc r :=
  ⟨h.st.below hb, h.fr.trans (Frame.of_below F' E hb), h.no, h.a0.below hb, h.a1.below hb⟩
theorem ScP.room (h : ScP w wr N R F E F' c s D V U vt vs va tc r) : w.heap.size + 1 < wr.heap.size := h.a1.ty.lt
theorem ScP.put (h : ScP w wr N R F E F' c s D V U vt vs va tc r) (i : Nat) (v : Value) (e n : Nat) (hi : (ansC (r.2.1 : Nat) (r.2.2 : Nat)).toList.set i v = (ansC (e : Nat) (n : Nat)).toList) (hi5 : i < 5) : ScP w (wr.setCell ⟨w.heap.size + 1, i, none⟩ v) N R F E F' c s D V U vt vs va tc (r.1, e, n) := by
  have ho := off_set wr ⟨w.heap.size + 1, i, none⟩ v
  refine ⟨h.st.out ho fun k q => h.no k (Or.inr q), ⟨h.fr.off.past ho fun k q hk => ?_, h.fr.growF, h.fr.growE⟩, h.no, h.a0.off ho (fun q => ?_), ?_⟩
  · have q : k = w.heap.size + 1 := q
    omega
  · have q : w.heap.size = w.heap.size + 1 := q
    omega
  · have := h.a1.set i v (by simpa using hi5)
    rw [hi] at this
    exact this
/-- A segment is written. -/
theorem ScP.held (h : ScP w wr N R F E F' c s D V U vt vs va tc r) {F2 : Nat → Prop} {V2 : Nat → Value} {U2 : Nat → List HeC} {ds' : List Sto.Disk} (hs : StP w' N R F2 E c { s with disks := ds' } D V2 U2 vt vs va tc) (hf : Frame wr w' F' F2 E E) : ScP w w' N R F E F2 c s D V2 U2 vt vs va tc (ds', r.2) := by
  have hr := h.room
  refine ⟨hs, h.fr.trans hf, fun k q => ⟨fun z => ?_, (h.no k q).2⟩, h.a0.off hf.off (h.no _ (Or.inl rfl)).1, h.a1.off hf.off (h.no _ (Or.inr rfl)).1⟩
  rcases hf.growF k z with y | y
  · exact (h.no k q).1 y
  · omega
end

set_option maxHeartbeats 4000000 in
set_option maxRecDepth 100000 in
theorem scrub_any {N R D : Nat} {F E : Nat → Prop} {c : Sto.Cfg} {s : Sto.St} {V : Nat → Value} {U : Nat → List HeC} {vt vs va : Value} {tc : List (Int × Sl)} {X : Sto.Six} (hX : Sto.SixOk X) (w : World) (h : StP w N R F E c s D V U vt vs va tc) (hNw : N ≤ w.heap.size) :
    Calls Tryz.prog 29 #[.pointer (some ⟨R, 0, none⟩)] w fun e w' => e = .returned (ansVal ((Sto.scrub X c s.segs 0 s.disks 0 0).2.1 : Nat) ((Sto.scrub X c s.segs 0 s.disks 0 0).2.2 : Nat)) ∧ ∃ F' V' U', StP w' N R F' E c { s with disks := (Sto.scrub X c s.segs 0 s.disks 0 0).1 } D V' U' vt vs va tc ∧ Frame w w' F F' E E := by
  have bA : Below w.heap.size w (w.alloc (.cells (ansC 0 0) 42)) := (Below.refl _ _).alloc (Nat.le_refl _) _
  have bB : Below (w.alloc (.cells (ansC 0 0) 42)).heap.size (w.alloc (.cells (ansC 0 0) 42)) ((w.alloc (.cells (ansC 0 0) 42)).alloc (.cells (ansC 0 0) 42)) := (Below.refl _ _).alloc (Nat.le_refl _) _
  have V0 := (varN_new w (ansC 0 0) 42).below bB
  have V1 := varN_new (w.alloc (.cells (ansC 0 0) 42)) (ansC 0 0) 42
  have sz : (w.alloc (.cells (ansC 0 0) 42)).heap.size = w.heap.size + 1 := by simp
  have sz2 : ((w.alloc (.cells (ansC 0 0) 42)).alloc (.cells (ansC 0 0) 42)).heap.size = w.heap.size + 2 := by simp
  rw [sz] at V1
  have b2 := bt bA bB
  have HFE : Hid (∀ k, F k ∨ E k → k < w.heap.size) := fun k hk => (show StAt w N R F E c s from ⟨_, _, _, _, _, _, _, h⟩).lt hk
  have HW0 : Hid (WfS c s) := h.wf
  have HS0 : Hid (ScS w ((w.alloc (.cells (ansC 0 0) 42)).alloc (.cells (ansC 0 0) 42)) N R F E c s D vt vs va tc (Sto.scrub X c 0 0 s.disks 0 0)) := ⟨F, V, U, h.below b2, Frame.of_below _ _ b2, fun k q => ⟨fun z => by
    have := HFE.out k (Or.inl z)
    omega, fun z => by
    have := HFE.out k (Or.inr z)
    omega⟩, V0, V1⟩
  have c4 := (h.below b2).var.cell (i := 4) rfl
  have hsg := h.wf.segs
  have HX : Hid (Sto.SixOk X) := hX
  have HB2 : Hid (Below w.heap.size w ((w.alloc (.cells (ansC 0 0) 42)).alloc (.cells (ansC 0 0) 42))) := b2
  obtain ⟨n, hn⟩ : ∃ n, n = s.segs := ⟨_, rfl⟩
  rw [← hn] at c4 hsg
  have HSN : Hid (n = s.segs) := hn
  clear h hX hn V0 V1 bA bB sz sz2 b2
  go_enter Tryz.func29, Tryz.ntmps29
  go_wp2_with fail
  generalize (w.alloc (.cells (ansC 0 0) 42)).alloc (.cells (ansC 0 0) 42) = W2 at c4 HS0 HB2 ⊢
  go_loopw [14] (fun x wr => ∃ k : Nat, k ≤ n ∧ x = .int .i64 k ∧ Hid (ScS w wr N R F E c s D vt vs va tc (Sto.scrub X c k 0 s.disks 0 0))) (fun x _ => n - (intOf x).toNat)
  case atStart => exact ⟨0, Nat.zero_le _, rfl, HS0.out⟩
  case round =>
    obtain ⟨k, hk, rfl, HS⟩ := hrel
    by_cases hlt : k < n
    · have hlt' : (k : Int) < (n : Int) := by omega
      obtain ⟨F', V', U', hS⟩ := HS.out
      obtain ⟨r, hr⟩ : ∃ r, r = Sto.scrub X c k 0 s.disks 0 0 := ⟨_, rfl⟩
      have HST : Hid (Sto.scrub X c (k + 1) 0 s.disks 0 0 = scrubOne X c k r) := by
        show Sto.scrub X c (k + 1) 0 s.disks 0 0 = scrubOne X c k r
        rw [scrub_snoc, Nat.zero_add, hr]
      have hlen : r.1.length = s.disks.length := by rw [hr]; exact scrub_len ..
      have hle : r.2.2 ≤ 1000 := by
        have h1 := scrub_le HX.out c s.disks k
        have h2 := HW0.out.len
        have h3 := HW0.out.d8
        have h4 := HW0.out.s4
        have h5 : k * s.disks.length ≤ 40 * 12 := Nat.mul_le_mul (by omega) (by omega)
        rw [hr]
        omega
      rw [← hr] at hS
      obtain ⟨ds, e, m⟩ := r
      have hle : m ≤ 1000 := hle
      have hlen : ds.length = s.disks.length := hlen
      have HLEN : Hid (ds.length = c.d + c.s) := by
        show ds.length = c.d + c.s
        rw [hlen]
        exact HW0.out.len
      have HSP : Hid (ScP w wr N R F E F' c s D V' U' vt vs va tc (ds, e, m)) := hS
      have HB := hS.st.blks (k : Int)
      have HB : Calls Tryz.prog 52 #[.pointer (some ⟨R, 0, none⟩), .int .i64 (k : Int)] wr fun e w' => BlkO e w' (Sto.blocks ds (k : Int)) ∧ Below wr.heap.size wr w' := HB
      have HBL : Hid ((Sto.blocks ds (k : Int)).length = c.d + c.s) := by
        show (Sto.blocks ds (k : Int)).length = c.d + c.s
        rw [blocks_len]
        exact HLEN.out
      obtain ⟨bs, hbs⟩ : ∃ bs, bs = Sto.blocks ds (k : Int) := ⟨_, rfl⟩
      have HS1 : Hid (Sto.scrub X c (k + 1) 0 s.disks 0 0 = if X.bad bs k = [] then (ds, e, m) else if (X.mend bs k c).1 ≠ 0 then (ds, orE e (X.mend bs k c).1, m) else (Sto.write k (X.mend bs k c).2 0 ds, e, m + Sto.there ds (X.bad bs k))) := by
        show Sto.scrub X c (k + 1) 0 s.disks 0 0 = _
        rw [HST.out, hbs]
        rfl
      rw [← hbs] at HB HBL
      clear hr hlen hS HST HS hbs
      go_wp2_with fail
      refine HB.mono ?_
      rintro e1 w1 ⟨⟨v1, rfl, hL1⟩, b1⟩
      have HFW : Hid (∀ g, F' g → g < w1.heap.size) := fun g z => Nat.lt_of_lt_of_le (HSP.out.st.lt g z).2 b1.size
      have HBD := badX_any HX.out v1 bs k w1 hL1 (by have := HBL.out; have := HW0.out.d8; have := HW0.out.s4; omega)
      have HME : Hid (∀ w', Below w1.heap.size w1 w' → Calls Tryz.prog 54 #[v1, .int .i64 (k : Int), .int .i64 (c.d : Int)] w' fun e w2 => LayP e w2 w'.heap.size (X.mend bs k c) ∧ Below w'.heap.size w' w2) := fun w' hb' => mendX_any HX.out v1 bs k c w' (hL1.below hb') HBL.out HW0.out.d8 HW0.out.s4
      obtain ⟨A1, C1, hv1⟩ := hL1.shape
      rw [hv1] at HBD HME ⊢
      clear HB hL1 hv1
      go_wp2_with fail
      refine HBD.mono ?_
      rintro e2 w2 ⟨v2, rfl, hN2, b2⟩
      have HBM : Hid (∀ i, i ∈ X.bad bs k → i < ds.length) := fun i hi => by
        have := bad_mem HX.out hi
        rw [HBL.out] at this
        rw [HLEN.out]
        exact this
      have hbl : (X.bad bs k).length ≤ 12 := by
        have := bad_len HX.out bs k
        have := HBL.out
        have := HW0.out.d8
        have := HW0.out.s4
        omega
      obtain ⟨A2, C2, hv2, _⟩ := nums_cells hN2
      have HN2 : Hid (Nums w2 w1.heap.size v2 (X.bad bs k)) := hN2
      have HS2 := HSP.out.below (bt b1 b2)
      have HM := HME.out w2 b2
      subst hv2
      obtain ⟨bad, hbad⟩ : ∃ bad, bad = X.bad bs k := ⟨_, rfl⟩
      rw [← hbad] at HN2 HBM HS1 hbl ⊢
      clear HBD HME hN2 hbad HSP b1 b2
      by_cases hz : bad = []
      · subst hz
        have HD : Hid (ScS w w2 N R F E c s D vt vs va tc (Sto.scrub X c (k + 1) 0 s.disks 0 0)) := by
          show ScS w w2 N R F E c s D vt vs va tc (Sto.scrub X c (k + 1) 0 s.disks 0 0)
          rw [HS1.out, if_pos rfl]
          exact ⟨_, _, _, HS2⟩
        clear HM HN2 HBM
        go_wp2_with fail
        exact ⟨⟨k + 1, by omega, by go_num, HD.out⟩, by simp [intOf]; omega⟩
      · have hzl : ((bad.length : Nat) : Int) ≠ 0 := by
          have := List.length_pos_iff.2 hz
          omega
        have hzb : (((bad.length : Nat) : Int) == 0) = false := by rw [beq_eq_false_iff_ne]; exact hzl
        have HZ : Hid (bad ≠ []) := hz
        have c0 := HS2.st.var.cell (i := 0) rfl
        obtain ⟨nb2, hnb2⟩ : ∃ nb2, nb2 = bad.length := ⟨_, rfl⟩
        rw [← hnb2] at hzb HN2 hbl ⊢
        have HNB : Hid (nb2 = bad.length) := hnb2
        have HSP2 : Hid (ScP w w2 N R F E F' c s D V' U' vt vs va tc (ds, e, m)) := HS2
        clear hz hzl hnb2 HS2
        go_wp2_with fail
        refine HM.mono ?_
        rintro e3 w3 ⟨⟨v3, rfl, hO3⟩, b3⟩
        have HS3 := HSP2.out.below b3
        obtain ⟨x, hx⟩ : ∃ x, x = (X.mend bs k c).1 := ⟨_, rfl⟩
        have HX1 : Hid (x = (X.mend bs k c).1) := hx
        rw [← hx] at hO3 ⊢
        clear HM hx
        by_cases hme : x = 0
        · subst hme
          obtain ⟨Y, hY⟩ : ∃ Y, LayB w3 w2.heap.size v3 (X.mend bs k c).2 Y := by
            rcases hO3 with ⟨_, q⟩ | ⟨q, _⟩
            · exact q
            · exact absurd rfl q
          have hml : (X.mend bs k c).2.length = ds.length := by rw [mend_len HX.out HX1.out.symm, HLEN.out]
          have hNw2 : N ≤ w2.heap.size := Nat.le_trans hNw HSP2.out.fr.off.size
          have HH := heldS_any HSP2.out.st b3 hY hml k (by omega) hNw2
          have HDS : Hid (Sto.scrub X c (k + 1) 0 s.disks 0 0 = (Sto.write k (X.mend bs k c).2 0 ds, e, m + Sto.there ds bad)) := by
            show Sto.scrub X c (k + 1) 0 s.disks 0 0 = _
            rw [HS1.out, if_neg HZ.out, if_neg (fun z => z HX1.out.symm)]
          obtain ⟨b9, c9, hv9, _⟩ := hY.at (by rw [hml, HLEN.out]; have := HW0.out.d1; omega)
          rw [hv9] at HH ⊢
          obtain ⟨L, hL⟩ : ∃ L, L = (X.mend bs k c).2 := ⟨_, rfl⟩
          rw [← hL] at HH HDS ⊢
          clear hO3 hY hv9 HS3 hml HS1 hL
          go_wp2_with fail
          refine HH.mono ?_
          rintro e4 w4 ⟨rfl, F2, V2, U2, hP4, hF4⟩
          have HS4 := HSP2.out.held hP4 hF4
          have hN4 : Nums w4 w1.heap.size (.slice A2 nb2 C2) bad := owns_off HN2.out hF4.off fun g hg z => by
            have z1 := HFW.out g z
            have z2 := (HN2.out.lt g hg).1
            omega
          have bD : Below w4.heap.size w4 w4.drew := (Below.refl _ _).drew
          have HT := there_any (.slice A2 nb2 C2) bad w1.heap.size w4.drew (hP4.below bD) (owns_below hN4 bD) (fun i hi => by show i < (Sto.write k L 0 ds).length; rw [Sto.write_length]; exact HBM.out i hi) (by rw [← HNB.out]; omega)
          have htl : Sto.there ds bad ≤ 12 := by
            have := there_le ds bad
            have := HNB.out
            omega
          have HT : Calls Tryz.prog 57 #[.pointer (some ⟨R, 0, none⟩), .slice A2 nb2 C2] { w4 with drawn := w4.drawn + 1 } fun e w' => e = .returned (.int .i64 ((Sto.there ds bad : Nat) : Int)) ∧ w' = { w4 with drawn := w4.drawn + 1 } := by
            have e9 : Sto.there (Sto.write k L 0 ds) bad = Sto.there ds bad := there_write _ _ _ _
            rw [← e9]
            exact HT
          have HS5 := HS4.below bD
          have d0 := HS4.a1.cell (i := 1) rfl
          have f2 := HS4.a1.frozen 1
          have d1 : ({ w4 with drawn := w4.drawn + 1 } : World).cell? ⟨w.heap.size + 1, 1, none⟩ = some (.int .i64 (m : Int)) := HS5.a1.cell (i := 1) rfl
          have f1 : ({ w4 with drawn := w4.drawn + 1 } : World).frozen? ⟨w.heap.size + 1, 1, none⟩ = false := HS5.a1.frozen 1
          obtain ⟨t, ht⟩ : ∃ t, t = Sto.there ds bad := ⟨_, rfl⟩
          rw [← ht] at HT HDS htl
          have HD : Hid (ScS w (w4.drew.setCell ⟨w.heap.size + 1, 1, none⟩ (.int .i64 ((m + t : Nat) : Int))) N R F E c s D vt vs va tc (Sto.scrub X c (k + 1) 0 s.disks 0 0)) := by
            show ScS w _ N R F E c s D vt vs va tc (Sto.scrub X c (k + 1) 0 s.disks 0 0)
            rw [HDS.out]
            exact ⟨_, _, _, HS5.put 1 _ e (m + t) rfl (by decide)⟩
          have hmt : ((m + t : Nat) : Int) = (m : Int) + (t : Int) := by omega
          rw [hmt] at HD
          clear HH hP4 hF4 HS4 HS5 hN4 HN2 HBM ht bD hmt
          go_wp2_with fail
          refine wp_region_still_tail 7 (by kernel_rfl) (by kernel_rfl) ?_
          simp only [List.take_succ_cons, List.take_zero, List.drop_succ_cons, List.drop_zero]
          iterate 4 still_step
          still_call HT
          iterate 2 still_step
          refine wpStill_nil ?_
          go_wp2_with fail
          exact ⟨⟨k + 1, by omega, by go_num, HD.out⟩, by simp [intOf]; omega⟩
        · have hv3 : v3 = .slice none 0 0 := by
            rcases hO3 with ⟨q, _⟩ | ⟨_, q⟩
            · exact absurd q hme
            · exact q
          subst hv3
          have hxn : ((x : Int) != 0) = true := by rw [bne_iff_ne]; omega
          have HDS : Hid (Sto.scrub X c (k + 1) 0 s.disks 0 0 = (ds, orE e x, m)) := by
            show Sto.scrub X c (k + 1) 0 s.disks 0 0 = _
            rw [HS1.out, if_neg HZ.out, if_pos (by rw [← HX1.out]; exact hme), HX1.out]
          have bE : Below w3.heap.size w3 (w3.alloc (.cells #[.int .i64 (e : Int), .int .i64 (x : Int)] 34)) := (Below.refl _ _).alloc (Nat.le_refl _) _
          have VE := varF_new w3 34 (.int .i64 (e : Int)) (.int .i64 (x : Int))
          have HO := or_any e x w3.heap.size _ VE.c0 VE.c1
          have HS4 := HS3.below bE
          have e0 := HS3.a1.cell (i := 0) rfl
          have e1 := HS4.a1.cell (i := 0) rfl
          have f0 := HS4.a1.frozen 0
          have HD : Hid (ScS w ((w3.alloc (.cells #[.int .i64 (e : Int), .int .i64 (x : Int)] 34)).setCell ⟨w.heap.size + 1, 0, none⟩ (.int .i64 ((orE e x : Nat) : Int))) N R F E c s D vt vs va tc (Sto.scrub X c (k + 1) 0 s.disks 0 0)) := by
            show ScS w _ N R F E c s D vt vs va tc (Sto.scrub X c (k + 1) 0 s.disks 0 0)
            rw [HDS.out]
            exact ⟨_, _, _, HS4.put 0 _ (orE e x) m rfl (by decide)⟩
          clear hO3 hme HS3 HS4 VE HS1 HN2 HBM
          go_wp2_with fail
          refine HO.mono ?_
          rintro e4 w4 ⟨rfl, rfl⟩
          clear HO
          go_wp2_with fail
          exact ⟨⟨k + 1, by omega, by go_num, HD.out⟩, by simp [intOf]; omega⟩
    · obtain rfl : k = n := by omega
      obtain ⟨F', V', U', hS⟩ := HS.out
      have HFI : Hid (∀ a b d e f, ∃ F' V' U', StP (((((wr.setCell ⟨w.heap.size, 0, none⟩ a).setCell ⟨w.heap.size, 1, none⟩ b).setCell ⟨w.heap.size, 2, none⟩ d).setCell ⟨w.heap.size, 3, none⟩ e).setCell ⟨w.heap.size, 4, none⟩ f) N R F' E c { s with disks := (Sto.scrub X c k 0 s.disks 0 0).1 } D V' U' vt vs va tc ∧ Frame w (((((wr.setCell ⟨w.heap.size, 0, none⟩ a).setCell ⟨w.heap.size, 1, none⟩ b).setCell ⟨w.heap.size, 2, none⟩ d).setCell ⟨w.heap.size, 3, none⟩ e).setCell ⟨w.heap.size, 4, none⟩ f) F F' E E) := fun a b d e f => by
        have ho := off_five wr w.heap.size a b d e f
        refine ⟨F', V', U', hS.st.out ho fun q z => hS.no q (Or.inl z), hS.fr.off.past ho fun q z hq => ?_, hS.fr.growF, hS.fr.growE⟩
        have z : q = w.heap.size := z
        omega
      have HSC : Hid (Sto.scrub X c s.segs 0 s.disks 0 0 = Sto.scrub X c k 0 s.disks 0 0) := by
        show Sto.scrub X c s.segs 0 s.disks 0 0 = _
        rw [← HSN.out]
      have a0 := hS.a0
      have a1 := hS.a1
      have b0 := a0.cell (i := 0) rfl
      have b1 := a0.cell (i := 1) rfl
      have b2 := a0.cell (i := 2) rfl
      have b3 := a0.cell (i := 3) rfl
      have b4 := a0.cell (i := 4) rfl
      have f0 := a0.frozen 0
      have f1 := a0.frozen 1
      have f2 := a0.frozen 2
      have f3 := a0.frozen 3
      have f4 := a0.frozen 4
      have d0 := a1.cell (i := 0) rfl
      have d1 := a1.cell (i := 1) rfl
      have d2 := a1.cell (i := 2) rfl
      have d3 := a1.cell (i := 3) rfl
      have d4 := a1.cell (i := 4) rfl
      obtain ⟨e, he⟩ : ∃ e, e = (Sto.scrub X c k 0 s.disks 0 0).2.1 := ⟨_, rfl⟩
      obtain ⟨m, hm⟩ : ∃ m, m = (Sto.scrub X c k 0 s.disks 0 0).2.2 := ⟨_, rfl⟩
      have HEM : Hid (e = (Sto.scrub X c k 0 s.disks 0 0).2.1 ∧ m = (Sto.scrub X c k 0 s.disks 0 0).2.2) := ⟨he, hm⟩
      rw [← he] at d0
      rw [← hm] at d1
      clear he hm
      clear hS HS a0 a1
      go_wp2_with fail
      refine bodyPost_ret (v := ansVal (e : Nat) (m : Nat)) (by simp [results, Tryz.results29, go_sem, b0, b1, b2, b3, b4]) rfl ⟨by rw [HSC.out, HEM.out.1, HEM.out.2], ?_⟩
      rw [HSC.out]
      exact HFI.out _ _ _ _ _

end Go.Proofs.YtmcaejooaaahdaaGreat
