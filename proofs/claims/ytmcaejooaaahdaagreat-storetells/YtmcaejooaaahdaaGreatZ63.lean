/-
  Texts of the proof, joined: JAll, JRet.
-/
import Derived.Test.YtmcaejooaaahdaaGreatZ60
import Derived.Test.YtmcaejooaaahdaaGreatZ62
namespace Go.Proofs.YtmcaejooaaahdaaGreat
open Go.RowKit

theorem Tryz.enters_add : ∀ args w, (callFunc 63 args).run Tryz.prog w = .ok (.enter 63 args) w := enters_of Tryz.func63 (by kernel_rfl) rfl
/-- Events come behind those that variable Q holds. -/
structure AddS (w wr : World) (N Q : Nat) (v y : Value) (es : List EvC) (l : List Evt.Bat) (k : Nat) : Prop where
  ok : ∃ es', EBuf wr N y es' ∧ es'.map evOf = es.map evOf ++ Sto.evsOf (l.take k) ∧ VarN wr Q 40 [y] ∧ Off (fun k => k = Q ∨ v.ownBlock = some k) w wr ∧ (y.ownBlock = v.ownBlock ∨ ∀ g, y.ownBlock = some g → w.heap.size ≤ g)
def AddO (e : Ending) (w w' : World) (N Q : Nat) (v : Value) (l : List Evt.Ev) : Prop := ∃ v' es', e = .returned (.tuple #[]) ∧ EBuf w' N v' es' ∧ es'.map evOf = l ∧ VarN w' Q 40 [v'] ∧ Off (fun k => k = Q ∨ v.ownBlock = some k) w w'
set_option maxHeartbeats 1000000 in
set_option maxRecDepth 100000 in
theorem refAdd_any (N Q : Nat) (v vb : Value) (es : List EvC) (l : List Evt.Bat) (w : World) (h : EBuf w N v es) (hQ : VarN w Q 40 [v]) (hN : N ≤ w.heap.size) (hB : ∀ w', Off (fun k => k = Q ∨ v.ownBlock = some k) w w' → Bats w' vb l) (hne : ∀ b, b ∈ l → 1 ≤ b.evs.length) (hsz : es.length + (Sto.evsOf l).length ≤ 1000000) :
    Calls Tryz.prog 63 #[vb, .pointer (some ⟨Q, 0, none⟩)] w fun e w' => AddO e w w' N Q v (es.map evOf ++ Sto.evsOf l) := by
  have hb0 := hB w (Off.refl _ _)
  obtain ⟨A, C, hvb, hC1, hC2, _⟩ := hb0
  have HB : Hid (∀ w', Off (fun k => k = Q ∨ v.ownBlock = some k) w w' → ∀ i x, l[i]? = some x → ∃ b o, A = some ⟨b, o, none⟩ ∧ BatIn w' b (o + i * 2) x) := fun w' ho i x hx => by
    obtain ⟨A', C', hv', _, _, hc⟩ := hB w' ho
    rw [hvb] at hv'
    cases hv'
    exact hc i x hx
  have HNE : Hid (∀ b, b ∈ l → 1 ≤ b.evs.length) := hne
  have HSZ : Hid (es.length + (Sto.evsOf l).length ≤ 1000000) := hsz
  have hC2' : C ≤ 9223372036854775807 := by unfold maxLen at hC2; exact hC2
  subst hvb
  have H0 : Hid (∃ y, AddS w w N Q v y es l 0) := ⟨v, es, h, by rw [List.take_zero]; exact (List.append_nil _).symm, hQ, Off.refl _ _, Or.inl rfl⟩
  clear hB hne hsz h hC2 hQ
  go_enter Tryz.func63, Tryz.ntmps63
  go_wp2_with fail
  go_loopw [7] (fun x wr => ∃ k : Nat, k ≤ l.length ∧ x = .int .i64 k ∧ Hid (∃ y, AddS w wr N Q v y es l k)) (fun x _ => l.length - (intOf x).toNat)
  case atStart => exact ⟨0, Nat.zero_le _, rfl, H0⟩
  case round =>
    obtain ⟨k, hk, rfl, HS⟩ := hrel
    by_cases hlt : k < l.length
    · have hlt' : (k : Int) < (l.length : Int) := by omega
      obtain ⟨y, es', hE, hmap, hV, hof, hat⟩ := HS.out
      obtain ⟨x, hx⟩ : ∃ x, l[k]? = some x := ⟨l[k], List.getElem?_eq_getElem hlt⟩
      obtain ⟨b, o, rfl, ve, d0, d1, hev⟩ := HB.out wr hof k x hx
      have hx1 := HNE.out x (List.mem_of_getElem? hx)
      have bA : Below wr.heap.size wr (wr.alloc (.cells #[.int .i64 x.cmd, ve] 47)) := (Below.refl _ _).alloc (Nat.le_refl _) _
      obtain ⟨bb, oo, CC, rfl, hc1, hc2, _⟩ := hev.some hx1
      obtain ⟨xs, hxs, hxz, hxc⟩ := evs_cells (hev.below bA)
      have hxl : xs.length = x.evs.length := by rw [← hxs, List.length_map]
      have hlen : es'.length = es.length + (Sto.evsOf (l.take k)).length := by
        have := congrArg List.length hmap
        rw [List.length_map, List.length_append, List.length_map] at this
        exact this
      have hle := evsOf_len_take l (k + 1)
      rw [evsOf_take hx, List.length_append] at hle
      have hzz := HSZ.out
      obtain ⟨v', w', hrun, hB', hof', hat'⟩ := app_evs (wr.alloc (.cells #[.int .i64 x.cmd, .slice (some ⟨bb, oo, none⟩) x.evs.length CC] 47)) N y es' xs (hE.below bA) (Nat.le_trans hN (Nat.le_trans hof.size bA.size)) ⟨bb, oo, none⟩ CC (hxc _ _ rfl) hxz (by omega)
      rw [hxl] at hrun
      have hyQ : y.ownBlock ≠ some Q := fun e => (owns_ty hE.1 e).ne hV.ty (by decide) rfl
      have hVA := hV.below bA
      have hV' := hVA.off hof' hyQ
      have hv'Q : v'.ownBlock ≠ some Q := fun e => (owns_ty hB'.1 e).ne hV'.ty (by decide) rfl
      have hVS := hV'.set 0 v' (show 0 < 1 by decide)
      have HNX : Hid (∃ y, AddS w (w'.setCell ⟨Q, 0, none⟩ v') N Q v y es l (k + 1)) := by
        have hs1 : Off (fun k => k = Q) w' (w'.setCell ⟨Q, 0, none⟩ v') := off_set w' ⟨Q, 0, none⟩ v'
        have hB2 : EBuf (w'.setCell ⟨Q, 0, none⟩ v') N v' (es' ++ xs) := hB'.off hs1 fun g hg e => by subst e; exact hv'Q hg
        refine ⟨v', es' ++ xs, hB2, by rw [List.map_append, hmap, hxs, evsOf_take hx, List.append_assoc], hVS, ?_, ?_⟩
        · refine (((hof.trans (Off.of_below bA)).past hof' fun q hq hql => ?_).past hs1 fun q hq _ => Or.inl hq)
          rcases hat with z | z
          · rw [z] at hq
            exact Or.inr hq
          · have := z q hq
            omega
        · rcases hat' with z | z
          · rcases hat with z1 | z1
            · exact Or.inl (z.trans z1)
            · exact Or.inr fun g hg => z1 g (z ▸ hg)
          · refine Or.inr fun g hg => ?_
            rw [z] at hg
            cases hg
            exact Nat.le_trans hof.size bA.size
      have c0 := hVA.cell (i := 0) rfl
      have c1 := hV'.cell (i := 0) rfl
      have f1 := hV'.frozen 0
      have VB := varF_new wr 47 (.int .i64 x.cmd) (.slice (some ⟨bb, oo, none⟩) x.evs.length CC)
      obtain ⟨e0, e1, _⟩ := VB
      obtain ⟨m, hm⟩ : ∃ m, m = x.evs.length := ⟨_, rfl⟩
      rw [← hm] at hrun d1 hc1 e1 c0
      rw [← hm] at e0
      obtain ⟨Ay, ny, Cy, rfl⟩ : ∃ A n C, y = .slice A n C := by
        obtain ⟨A, C, h, _⟩ := row_shape hE.1
        exact ⟨A, _, C, h⟩
      obtain ⟨Av, nv, Cv, rfl⟩ : ∃ A n C, v' = .slice A n C := by
        obtain ⟨A, C, h, _⟩ := row_shape hB'.1
        exact ⟨A, _, C, h⟩
      clear HS hE hmap hof hat hx hev hxs hxz hxc hxl hlen hle hzz hB' hof' hat' bA hx1 hm hV hVA hV' hVS hyQ hv'Q
      go_wp2_with (at_builtin; refine Lib.wpList_append_run _ rfl _ _ _ _ rfl _ _ rfl rfl _ _ hrun ?_)
      exact ⟨⟨k + 1, by omega, by go_num, HNX⟩, by simp [intOf]; omega⟩
    · obtain rfl : k = l.length := by omega
      have HF : Hid (AddO (.returned (.tuple #[])) w wr N Q v (es.map evOf ++ Sto.evsOf l)) := by
        obtain ⟨y, es', hE, hmap, hV, hof, hat⟩ := HS.out
        rw [List.take_length] at hmap
        exact ⟨y, es', rfl, hE, hmap, hV, hof⟩
      clear HS
      go_wp2_with fail
      go_end0
      exact HF.out
/-- k segments are read. -/
structure AllJ (X : Sto.Six) (c : Sto.Cfg) (ds : List Sto.Disk) (n : Nat) (w wr : World) (Q k : Nat) : Prop where
  ok : ∃ y es, EBuf wr (w.heap.size) y es ∧ VarN wr Q 40 [y] ∧ Below w.heap.size w wr ∧ es.length ≤ k * 2550 ∧ Sto.allS X c ds n 0 [] = Sto.allS X c ds (n - k) k (es.map evOf)
theorem tail_small {c : Sto.Cfg} {s : Sto.St} (h : WfJ c s) : (Sto.evsOf s.tail).length ≤ 2550 ∧ ∀ b, b ∈ s.tail → 1 ≤ b.evs.length := by
  refine ⟨?_, fun b hb => (Evt.wrongB_inv (h.bats b hb)).2.2.1⟩
  have h1 := h.tail
  have h2 := h.b10
  have key : ∀ r : List Evt.Bat, (∀ b, b ∈ r → b.evs.length ≤ 10) → (Sto.evsOf r).length ≤ r.length * 10 := by
    intro r
    induction r with
    | nil => intro _; simp [Sto.evsOf]
    | cons x r ih =>
      intro hr
      have h3 := hr x List.mem_cons_self
      have h4 := ih fun b hb => hr b (List.mem_cons_of_mem _ hb)
      have e : Sto.evsOf (x :: r) = x.evs ++ Sto.evsOf r := by simp [Sto.evsOf]
      rw [e, List.length_append, List.length_cons, Nat.succ_mul]
      omega
  have := key s.tail fun b hb => (Evt.wrongB_inv (h.bats b hb)).2.2.2.1
  omega
abbrev stC (c : Sto.Cfg) (vd : Value) (s : Sto.St) (vt vs va : Value) : Value := stA (c.d : Int) (c.s : Int) (c.b : Int) vd (s.segs : Int) vt vs s.u va
theorem bats_shape {w : World} {v : Value} {l : List Evt.Bat} (h : Bats w v l) : ∃ A n C, v = .slice A n C := by
  obtain ⟨A, C, hv, _⟩ := h
  exact ⟨A, _, C, hv⟩
theorem nms_shape {w : World} {v : Value} {l : List Int} (h : Nms w v l) : ∃ A n C, v = .slice A n C := by
  obtain ⟨A, C, hv, _⟩ := h
  exact ⟨A, _, C, hv⟩
theorem accs_shape {w : World} {v : Value} {l : List Vw.Acc} (h : Accs w v l) : ∃ A n C, v = .slice A n C := by
  obtain ⟨A, C, hv⟩ := h.shape
  exact ⟨A, _, C, hv⟩
theorem dks_shape {w : World} {v : Value} {l : List Sto.Disk} (h : Dks w v l) : ∃ A n C, v = .slice A n C := by
  obtain ⟨A, C, hv, _⟩ := h
  exact ⟨A, _, C, hv⟩
set_option maxHeartbeats 4000000 in
set_option maxRecDepth 100000 in
theorem refAll_any {X : Sto.Six} (hX : Sto.SixOk X) (c : Sto.Cfg) (s : Sto.St) (vd vt vs va : Value) (w : World) (h : StIn w vd vt vs va s) (hw : WfJ c s) :
    Calls Tryz.prog 33 #[stC c vd s vt vs va] w fun e w' => AllO e w' w.heap.size (Sto.all X c s) ∧ Below w.heap.size w w' := by
  have HTL : Hid (Bats w vt s.tail) := h.tl
  have HDK : Hid (Dks w vd s.disks) := h.dk
  have HSH : Hid ((∃ A n C, vt = .slice A n C) ∧ (∃ A n C, vs = .slice A n C) ∧ ∃ A n C, va = .slice A n C) := ⟨bats_shape h.tl, nms_shape h.sn, accs_shape h.ac⟩
  obtain ⟨Ad, nd, Cd, rfl⟩ := dks_shape h.dk
  obtain ⟨At, nt, Ct, rfl⟩ := bats_shape h.tl
  obtain ⟨As, ns, Cs, rfl⟩ := nms_shape h.sn
  obtain ⟨Aa, na, Ca, rfl⟩ := accs_shape h.ac
  obtain ⟨n, hn⟩ : ∃ n, n = s.segs := ⟨_, rfl⟩
  obtain ⟨uU, huU⟩ : ∃ uU, uU = s.u := ⟨_, rfl⟩
  have hn40 : n ≤ 40 := by rw [hn]; exact hw.segs
  have HN12 : Hid (s.disks.length ≤ 12) := hw.n12
  have HX : Hid (Sto.SixOk X) := hX
  have HTS := tail_small hw
  have HTSH : Hid ((Sto.evsOf s.tail).length ≤ 2550 ∧ ∀ b, b ∈ s.tail → 1 ≤ b.evs.length) := HTS
  have HA : Hid (Sto.all X c s = if (Sto.allS X c s.disks n 0 []).1 ≠ 0 then ((Sto.allS X c s.disks n 0 []).1, []) else (0, (Sto.allS X c s.disks n 0 []).2 ++ Sto.evsOf s.tail)) := by
    show Sto.all X c s = _
    rw [hn]
    rfl
  have eg := Tryz.enters_add
  change Calls Tryz.prog 33 #[stA (c.d : Int) (c.s : Int) (c.b : Int) (.slice Ad nd Cd) (s.segs : Int) (.slice At nt Ct) (.slice As ns Cs) s.u (.slice Aa na Ca)] w _
  rw [← hn, ← huU]
  obtain ⟨w1, hw1⟩ : ∃ q, q = w.alloc (.cells #[.int .i64 (c.d : Int), .int .i64 (c.s : Int), .int .i64 (c.b : Int), .slice Ad nd Cd, .int .i64 (n : Int), .slice At nt Ct, .slice As ns Cs, .int .i64 uU, .slice Aa na Ca] 32) := ⟨_, rfl⟩
  have b1 : Below w.heap.size w (w.alloc (.cells #[.int .i64 (c.d : Int), .int .i64 (c.s : Int), .int .i64 (c.b : Int), .slice Ad nd Cd, .int .i64 (n : Int), .slice At nt Ct, .slice As ns Cs, .int .i64 uU, .slice Aa na Ca] 32)) := (Below.refl _ _).alloc (Nat.le_refl _) _
  have V1 := varN_new w #[.int .i64 (c.d : Int), .int .i64 (c.s : Int), .int .i64 (c.b : Int), .slice Ad nd Cd, .int .i64 (n : Int), .slice At nt Ct, .slice As ns Cs, .int .i64 uU, .slice Aa na Ca] 32
  rw [← hw1] at b1 V1
  have bQ : Below w1.heap.size w1 (w1.alloc (.cells #[.slice none 0 0] 40)) := (Below.refl _ _).alloc (Nat.le_refl _) _
  have VQ := varN_new w1 #[.slice none 0 0] 40
  have H0 : Hid (AllJ X c s.disks n w (w1.alloc (.cells #[.slice none 0 0] 40)) w1.heap.size 0) := ⟨_, [], EBuf.nil _ _, VQ, bt b1 bQ, Nat.zero_le _, rfl⟩
  have HP0 : Hid (VarN (w1.alloc (.cells #[.slice none 0 0] 40)) w.heap.size 32 [.int .i64 (c.d : Int), .int .i64 (c.s : Int), .int .i64 (c.b : Int), .slice Ad nd Cd, .int .i64 (n : Int), .slice At nt Ct, .slice As ns Cs, .int .i64 uU, .slice Aa na Ca]) := V1.below bQ
  have hQ1 : w.heap.size < w1.heap.size := RowC.lt V1
  clear h hw hX HTS b1 V1 bQ VQ hn huU
  go_enter Tryz.func33, Tryz.ntmps33
  go_upto_region 1 with fail
  rw [← hw1]
  clear hw1
  go_upto_region 2 with fail
  obtain ⟨w2, hw2⟩ : ∃ q, q = w1.alloc (.cells #[.slice none 0 0] 40) := ⟨_, rfl⟩
  rw [← hw2] at H0 HP0 ⊢
  obtain ⟨Q, hQ⟩ : ∃ q, q = w1.heap.size := ⟨_, rfl⟩
  rw [← hQ] at H0 hQ1 ⊢
  clear hw2 hQ
  go_wp2_with fail
  go_loopw [6] (fun x wr => ∃ k : Nat, k ≤ n ∧ x = .int .i64 k ∧ Hid (AllJ X c s.disks n w wr Q k) ∧ Hid (VarN wr w.heap.size 32 [.int .i64 (c.d : Int), .int .i64 (c.s : Int), .int .i64 (c.b : Int), .slice Ad nd Cd, .int .i64 (n : Int), .slice At nt Ct, .slice As ns Cs, .int .i64 uU, .slice Aa na Ca])) (fun x _ => n - (intOf x).toNat)
  case atStart => exact ⟨0, Nat.zero_le _, rfl, H0, HP0⟩
  case round =>
    obtain ⟨k, hk, rfl, HR, HP⟩ := hrel
    obtain ⟨y, es, hE, hVQ, hb, hel, heq⟩ := HR.out.ok
    have c4 := HP.out.cell (i := 4) rfl
    by_cases hlt : k < n
    · have hlt' : (k : Int) < (n : Int) := by omega
      obtain ⟨m, hm⟩ : ∃ m, n - k = m + 1 := ⟨n - k - 1, by omega⟩
      have HBK := fun w' (hS : ((w'.cell? ⟨w.heap.size, 0, none⟩ = some (.int .i64 (c.d : Int)) ∧ w'.cell? ⟨w.heap.size, 1, none⟩ = some (.int .i64 (c.s : Int)) ∧ w'.cell? ⟨w.heap.size, 2, none⟩ = some (.int .i64 (c.b : Int)) ∧ w'.cell? ⟨w.heap.size, 3, none⟩ = some (.slice Ad nd Cd) ∧ w'.cell? ⟨w.heap.size, 4, none⟩ = some (.int .i64 (n : Int)) ∧ w'.cell? ⟨w.heap.size, 5, none⟩ = some (.slice At nt Ct) ∧ w'.cell? ⟨w.heap.size, 6, none⟩ = some (.slice As ns Cs) ∧ w'.cell? ⟨w.heap.size, 7, none⟩ = some (.int .i64 uU) ∧ w'.cell? ⟨w.heap.size, 8, none⟩ = some (.slice Aa na Ca)) ∧ Below wr.heap.size wr w')) => refBlk_any (c.d : Int) (c.s : Int) (c.b : Int) (n : Int) uU (.slice Ad nd Cd) (.slice At nt Ct) (.slice As ns Cs) (.slice Aa na Ca) s.disks (k : Int) w' (HDK.out.below (bt hb hS.2)) HN12.out HSH.out.1 HSH.out.2.1 HSH.out.2.2
      have HSo : ∀ w', Below wr.heap.size wr w' → ((w'.cell? ⟨w.heap.size, 0, none⟩ = some (.int .i64 (c.d : Int)) ∧ w'.cell? ⟨w.heap.size, 1, none⟩ = some (.int .i64 (c.s : Int)) ∧ w'.cell? ⟨w.heap.size, 2, none⟩ = some (.int .i64 (c.b : Int)) ∧ w'.cell? ⟨w.heap.size, 3, none⟩ = some (.slice Ad nd Cd) ∧ w'.cell? ⟨w.heap.size, 4, none⟩ = some (.int .i64 (n : Int)) ∧ w'.cell? ⟨w.heap.size, 5, none⟩ = some (.slice At nt Ct) ∧ w'.cell? ⟨w.heap.size, 6, none⟩ = some (.slice As ns Cs) ∧ w'.cell? ⟨w.heap.size, 7, none⟩ = some (.int .i64 uU) ∧ w'.cell? ⟨w.heap.size, 8, none⟩ = some (.slice Aa na Ca)) ∧ Below wr.heap.size wr w') := fun w' hb' => by
        have V := HP.out.below hb'
        exact ⟨⟨V.cell (i := 0) rfl, V.cell (i := 1) rfl, V.cell (i := 2) rfl, V.cell (i := 3) rfl, V.cell (i := 4) rfl, V.cell (i := 5) rfl, V.cell (i := 6) rfl, V.cell (i := 7) rfl, V.cell (i := 8) rfl⟩, hb'⟩
      have TD := HSo wr.drew (Below.refl _ _).drew
      have HBS : ∀ w', ((w'.cell? ⟨w.heap.size, 0, none⟩ = some (.int .i64 (c.d : Int)) ∧ w'.cell? ⟨w.heap.size, 1, none⟩ = some (.int .i64 (c.s : Int)) ∧ w'.cell? ⟨w.heap.size, 2, none⟩ = some (.int .i64 (c.b : Int)) ∧ w'.cell? ⟨w.heap.size, 3, none⟩ = some (.slice Ad nd Cd) ∧ w'.cell? ⟨w.heap.size, 4, none⟩ = some (.int .i64 (n : Int)) ∧ w'.cell? ⟨w.heap.size, 5, none⟩ = some (.slice At nt Ct) ∧ w'.cell? ⟨w.heap.size, 6, none⟩ = some (.slice As ns Cs) ∧ w'.cell? ⟨w.heap.size, 7, none⟩ = some (.int .i64 uU) ∧ w'.cell? ⟨w.heap.size, 8, none⟩ = some (.slice Aa na Ca)) ∧ Below wr.heap.size wr w') → Below wr.heap.size wr w' := fun w' hS => hS.2
      have HEQ : Hid (Sto.allS X c s.disks n 0 [] = if (X.read (Sto.blocks s.disks k) k c).1 ≠ 0 then ((X.read (Sto.blocks s.disks k) k c).1, []) else if Evt.parseE (X.read (Sto.blocks s.disks k) k c).2 ≠ 0 then (Evt.parseE (X.read (Sto.blocks s.disks k) k c).2, []) else Sto.allS X c s.disks m (k + 1) (es.map evOf ++ Sto.evsOf (Evt.parse (X.read (Sto.blocks s.disks k) k c).2))) := by
        show Sto.allS X c s.disks n 0 [] = _
        rw [heq, hm, Sto.allS]
      have HRD : Hid (∀ v' w', BlL w' v' (Sto.blocks s.disks (k : Int)) → Calls Tryz.prog 64 #[v', .int .i64 (k : Int), .int .i64 (c.d : Int)] w' fun e w2 => ∃ v2, e = .returned (.tuple #[v2, .int .i64 ((X.read (Sto.blocks s.disks (k : Int)) k c).1 : Nat)]) ∧ BytL w2 v2 (X.read (Sto.blocks s.disks (k : Int)) k c).2 ∧ Below w'.heap.size w' w2) := fun v' w' hL => readR_any HX.out v' _ k c w' hL
      generalize (X.read (Sto.blocks s.disks (k : Int)) k c).1 = x at HEQ HRD
      generalize (X.read (Sto.blocks s.disks (k : Int)) k c).2 = r at HEQ HRD
      have HNK : Hid (n - (k + 1) = m) := show n - (k + 1) = m by omega
      clear heq hm
      go_upto_region 6 with fail
      go_region_held3 (fun w' => ((w'.cell? ⟨w.heap.size, 0, none⟩ = some (.int .i64 (c.d : Int)) ∧ w'.cell? ⟨w.heap.size, 1, none⟩ = some (.int .i64 (c.s : Int)) ∧ w'.cell? ⟨w.heap.size, 2, none⟩ = some (.int .i64 (c.b : Int)) ∧ w'.cell? ⟨w.heap.size, 3, none⟩ = some (.slice Ad nd Cd) ∧ w'.cell? ⟨w.heap.size, 4, none⟩ = some (.int .i64 (n : Int)) ∧ w'.cell? ⟨w.heap.size, 5, none⟩ = some (.slice At nt Ct) ∧ w'.cell? ⟨w.heap.size, 6, none⟩ = some (.slice As ns Cs) ∧ w'.cell? ⟨w.heap.size, 7, none⟩ = some (.int .i64 uU) ∧ w'.cell? ⟨w.heap.size, 8, none⟩ = some (.slice Aa na Ca)) ∧ Below wr.heap.size wr w'))
        (first | with_reducible exact TD | with_reducible assumption)
        (first | (go_at_call 38; refine (HBK _ (by assumption)).mono ?_; rintro e1 w1 ⟨v1, rfl, hL1, b1⟩; have S1 := HSo w1 (bt (HBS _ (by assumption)) b1)) | (go_at_call 64; refine (HRD.out _ _ (by assumption)).mono ?_; rintro e2 w2 ⟨v2, rfl, hY2, b2⟩; have S2 := HSo w2 (bt S1.2 b2)))
      have b2' := S2.2
      have hE2 := hE.below b2'
      have hVQ2 := hVQ.below b2'
      have HP2 : Hid (VarN w2 w.heap.size 32 [.int .i64 (c.d : Int), .int .i64 (c.s : Int), .int .i64 (c.b : Int), .slice Ad nd Cd, .int .i64 (n : Int), .slice At nt Ct, .slice As ns Cs, .int .i64 uU, .slice Aa na Ca]) := HP.out.below b2'
      have hb2 := bt hb b2'
      clear S1 S2 TD HBK HRD b1 b2 hL1 HSo HBS HR HP hE hVQ hb c4
      by_cases hx : x = 0
      case neg =>
        have HF : Hid (Sto.all X c s = (x, [])) := by
          show Sto.all X c s = (x, [])
          have e1 : Sto.allS X c s.disks n 0 [] = (x, []) := by rw [HEQ.out, if_pos hx]
          rw [HA.out, e1]
          exact if_pos hx
        have hxn : ((x : Int) != 0) = true := by rw [bne_iff_ne]; omega
        obtain ⟨A2, C2, rfl⟩ := hY2.byts.shape
        clear hx hY2 hE2 hVQ2
        go_wp2_with fail
        go_ret2
        exact ⟨by rw [HF.out]; exact allO_bad _ _ _, hb2⟩
      case pos =>
        subst hx
        have HPA := parseJ_any v2 r.length (fun j => r.getD j 0) w2 hY2.byts
        rw [Sto.bl_self] at HPA
        have hPO : Evt.parseE r = 0 → (Evt.wrongL (Evt.parse r)).1 = 0 := parse_ok
        obtain ⟨A2, C2, rfl⟩ := hY2.byts.shape
        obtain ⟨y9, hy⟩ : ∃ y9, Evt.parseE r = y9 := ⟨_, rfl⟩
        have HY : Hid (Evt.parseE r = y9) := hy
        rw [hy] at HPA
        clear hy hY2
        go_wp2_with fail
        refine HPA.mono ?_
        rintro e3 w3 ⟨v3, rfl, hB3, b3⟩
        by_cases hy0 : y9 = 0
        case neg =>
          have HF : Hid (Sto.all X c s = (y9, [])) := by
            show Sto.all X c s = (y9, [])
            have e1 : Sto.allS X c s.disks n 0 [] = (y9, []) := by rw [HEQ.out, if_neg (fun z => z rfl), HY.out, if_pos hy0]
            rw [HA.out, e1]
            exact if_pos hy0
          have hyn : ((y9 : Int) != 0) = true := by rw [bne_iff_ne]; omega
          obtain ⟨A3, C3, hv3⟩ : ∃ A C, v3 = .slice A (Evt.parse r).length C := by
            obtain ⟨A3, C3, hv3, _⟩ := hB3
            exact ⟨A3, C3, hv3⟩
          subst hv3
          have hb3 := bt hb2 b3
          clear hy0 hB3 HPA hE2 hVQ2
          go_wp2_with fail
          go_ret2
          exact ⟨by rw [HF.out]; exact allO_bad _ _ _, hb3⟩
        case pos =>
          subst hy0
          obtain ⟨hs1, hs2⟩ := wrongL_small (hPO HY.out)
          have hE3 := hE2.below b3
          have hVQ3 := hVQ2.below b3
          have hel3 : es.length + (Sto.evsOf (Evt.parse r)).length ≤ (k + 1) * 2550 := by
            rw [Nat.succ_mul]
            omega
          have hb3 := bt hb2 b3
          have hk1 : (k + 1) * 2550 ≤ 40 * 2550 := Nat.mul_le_mul_right _ (by omega)
          have hQ2 : Q < w2.heap.size := RowC.lt hVQ2
          have HAP := refAdd_any w.heap.size Q y v3 es (Evt.parse r) w3 hE3 hVQ3 hb3.size (fun w' ho => (hB3.off ho fun q hq => by
            rcases hq with z | z
            · rw [z]
              exact hQ2
            · exact (hE2.1.lt q z).2).bats) hs2 (by omega)
          have hofS : ∀ w4, Off (fun q => q = Q ∨ y.ownBlock = some q) w3 w4 → Below w.heap.size w3 w4 := fun w4 ho => ho.below hb3.size fun q hq => by
            rcases hq with z | z
            · rw [z]
              exact Nat.le_of_lt hQ1
            · exact (hE3.1.lt q z).1
          have HNX : Hid (∀ v4 es4 w4, EBuf w4 w.heap.size v4 es4 → es4.map evOf = es.map evOf ++ Sto.evsOf (Evt.parse r) → VarN w4 Q 40 [v4] → Off (fun q => q = Q ∨ y.ownBlock = some q) w3 w4 → AllJ X c s.disks n w w4 Q (k + 1)) := fun v4 es4 w4 q1 q2 q3 q4 => by
            refine ⟨v4, es4, q1, q3, hb3.trans (hofS w4 q4), ?_, ?_⟩
            · have := congrArg List.length q2
              rw [List.length_map, List.length_append, List.length_map] at this
              omega
            · rw [HEQ.out, if_neg (fun z => z rfl), if_neg (fun z => z HY.out), q2, HNK.out]
          have hP3 := HP2.out.below b3
          have HP3 : Hid (∀ w4, Off (fun q => q = Q ∨ y.ownBlock = some q) w3 w4 → VarN w4 w.heap.size 32 [.int .i64 (c.d : Int), .int .i64 (c.s : Int), .int .i64 (c.b : Int), .slice Ad nd Cd, .int .i64 (n : Int), .slice At nt Ct, .slice As ns Cs, .int .i64 uU, .slice Aa na Ca]) := fun w4 ho => hP3.off ho fun z => by
            rcases z with z | z
            · omega
            · exact (owns_ty hE3.1 z).ne hP3.ty (by decide) rfl
          obtain ⟨A3, C3, hv3⟩ : ∃ A C, v3 = .slice A (Evt.parse r).length C := by
            obtain ⟨A3, C3, hv3, _⟩ := hB3
            exact ⟨A3, C3, hv3⟩
          subst hv3
          clear hB3 HPA hE2 hE3 hel3 hs1 hs2 hk1 hPO hel hVQ2 hVQ3 hP3 HP2 hofS
          go_wp2_with fail
          refine HAP.mono ?_
          rintro e4 w4 ⟨v4, es4, rfl, hE4, hm4, hV4, ho4⟩
          have HN4 : Hid (AllJ X c s.disks n w w4 Q (k + 1)) := HNX.out v4 es4 w4 hE4 hm4 hV4 ho4
          have HP4 : Hid (VarN w4 w.heap.size 32 [.int .i64 (c.d : Int), .int .i64 (c.s : Int), .int .i64 (c.b : Int), .slice Ad nd Cd, .int .i64 (n : Int), .slice At nt Ct, .slice As ns Cs, .int .i64 uU, .slice Aa na Ca]) := HP3.out w4 ho4
          clear HAP hE4 hm4 ho4 hV4
          go_wp2_with fail
          exact ⟨⟨k + 1, by omega, by go_num, HN4, HP4⟩, by simp [intOf]; omega⟩
    · obtain rfl : k = n := by omega
      have c5 := HP.out.cell (i := 5) rfl
      have hk1 : k * 2550 ≤ 40 * 2550 := Nat.mul_le_mul_right _ (by omega)
      obtain ⟨t1, t2⟩ := HTSH.out
      have hQr : Q < wr.heap.size := RowC.lt hVQ
      have hofS : ∀ w4, Off (fun q => q = Q ∨ y.ownBlock = some q) wr w4 → Below w.heap.size wr w4 := fun w4 ho => ho.below hb.size fun q hq => by
        rcases hq with z | z
        · rw [z]
          exact Nat.le_of_lt hQ1
        · exact (hE.1.lt q z).1
      have HAP := refAdd_any w.heap.size Q y (.slice At nt Ct) es s.tail wr hE hVQ hb.size (fun w' ho => HTL.out.below (hb.trans (hofS w' ho))) t2 (by omega)
      have HF : Hid (∀ v4 es4 w4, EBuf w4 w.heap.size v4 es4 → es4.map evOf = es.map evOf ++ Sto.evsOf s.tail → Off (fun q => q = Q ∨ y.ownBlock = some q) wr w4 → AllO (.returned (.tuple #[v4, .int .i64 0])) w4 w.heap.size (Sto.all X c s) ∧ Below w.heap.size w w4) := fun v4 es4 w4 q1 q2 q3 => by
        have e1 : Sto.allS X c s.disks k 0 [] = (0, es.map evOf) := by
          rw [heq, Nat.sub_self]
          rfl
        have e2 : Sto.all X c s = (0, es.map evOf ++ Sto.evsOf s.tail) := by
          rw [HA.out, e1]
          rfl
        refine ⟨?_, hb.trans (hofS w4 q3)⟩
        rw [e2]
        refine ⟨v4, es4, rfl, q2, q1, ?_⟩
        have := congrArg List.length q2
        rw [List.length_map, List.length_append, List.length_map] at this
        omega
      clear HR HP hE hVQ hb hel heq hk1 t1 t2 hofS
      go_wp2_with fail
      refine HAP.mono ?_
      rintro e4 w4 ⟨v4, es4, rfl, hE4, hm4, hV4, ho4⟩
      have HFF : Hid (AllO (.returned (.tuple #[v4, .int .i64 0])) w4 w.heap.size (Sto.all X c s) ∧ Below w.heap.size w w4) := HF.out v4 es4 w4 hE4 hm4 ho4
      have q0 := hV4.cell (i := 0) rfl
      obtain ⟨A4, n4, C4, rfl⟩ : ∃ A n C, v4 = .slice A n C := by
        obtain ⟨A, C, h, _⟩ := row_shape hE4.1
        exact ⟨A, _, C, h⟩
      clear HAP HF hE4 hm4 ho4 hV4
      go_wp2_with fail
      go_ret2
      exact HFF.out

end Go.Proofs.YtmcaejooaaahdaaGreat

namespace Go.Proofs.YtmcaejooaaahdaaGreat
open Go.RowKit

abbrev ansA (a : Sto.Ans) (ve va : Value) : Value := .agg #[.int .i64 (a.err : Nat), .int .i64 a.n, ve, .int .i64 a.vu, va]
abbrev zAnA : Array Value := #[.int .i64 0, .int .i64 0, .slice none 0 0, .int .i64 0, .slice none 0 0]
/-- A list as Go has it: at a whole cell; nil has no room. -/
def PlainV (v : Value) : Prop := ∀ A n C, v = .slice A n C → (A = none → C = 0) ∧ ∀ a, A = some a → a.spot = none
theorem plainV_nil : PlainV (.slice none 0 0) := fun A n C e => by
  cases e
  exact ⟨fun _ => rfl, fun a e => by cases e⟩
theorem plainV_own {w : World} {N : Nat} {t : TypeId} {z : Nat} {v : Value} {n : Nat} {xs : List Value} (h : w.ownsRow N t z v n xs) : PlainV v := fun A n' C e => by
  rcases h.2 with ⟨rfl, _⟩ | ⟨g, cap, cur, rfl, _⟩
  · cases e
    exact ⟨fun _ => rfl, fun a e => by cases e⟩
  · cases e
    exact ⟨(fun e => by cases e), (fun a e => by cases e; rfl)⟩
/-- A store, and an answer. -/
def StepO (e : Ending) (T : Nat → Bool) (w w' : World) (c : Sto.Cfg) (r : Sto.St × Sto.Ans) : Prop := ∃ vd vt vs va ve vl, e = .returned (.tuple #[stC c vd r.1 vt vs va, ansA r.2 ve vl]) ∧ StIn (blank T w') vd vt vs va r.1 ∧ Evs (blank T w') ve r.2.evs ∧ Accs (blank T w') vl r.2.vl ∧ PlainV vs ∧ Below w.heap.size w w'
theorem evs_none8 (w : World) : Evs w (.slice none 0 0) [] := evs_empty w none 0 (Nat.zero_le _)
/-- The store is as it was. -/
theorem stepO_same {T : Nat → Bool} {w w' : World} {c : Sto.Cfg} {s : Sto.St} {vd vt vs va : Value} (h : StIn (blank T w) vd vt vs va s) (hp : PlainV vs) (hb : Below w.heap.size w w') {a : Sto.Ans} {ve vl : Value} (he : Evs (blank T w') ve a.evs) (hl : Accs (blank T w') vl a.vl) : StepO (.returned (.tuple #[stC c vd s vt vs va, ansA a ve vl])) T w w' c (s, a) :=
  ⟨vd, vt, vs, va, _, _, rfl, h.sub (blank_below hb), he, hl, hp, hb⟩
/-- And an answer without events. -/
theorem stepO_no {T : Nat → Bool} {w w' : World} {c : Sto.Cfg} {s : Sto.St} {vd vt vs va : Value} (h : StIn (blank T w) vd vt vs va s) (hp : PlainV vs) (hb : Below w.heap.size w w') (E : Nat) (n : Int) : StepO (.returned (.tuple #[stC c vd s vt vs va, ansA ⟨E, n, [], 0, []⟩ (.slice none 0 0) (.slice none 0 0)])) T w w' c (s, ⟨E, n, [], 0, []⟩) :=
  stepO_same h hp hb (evs_none8 _) (Accs.nil _)
/-- Block P is such a variable, and nothing else. -/
def VarX (w : World) (P : Nat) (t : TypeId) (cs : Array Value) : Prop := w.heap[P]? = some (.cells cs t)
theorem varX_new (w : World) (cs : Array Value) (t : TypeId) : VarX (w.alloc (.cells cs t)) w.heap.size t cs := heap_alloc_new w _
theorem VarX.lt {w : World} {P : Nat} {t : TypeId} {cs : Array Value} (h : VarX w P t cs) : P < w.heap.size := (Array.getElem?_eq_some_iff.1 h).1
theorem VarX.off {w w' : World} {P : Nat} {t : TypeId} {cs : Array Value} {S : Nat → Prop} (h : VarX w P t cs) (ho : Off S w w') (hS : ¬ S P) : VarX w' P t cs := (ho.block P h.lt hS).trans h
theorem VarX.below {w w' : World} {P : Nat} {t : TypeId} {cs : Array Value} (h : VarX w P t cs) (hb : Below w.heap.size w w') : VarX w' P t cs := (hb.block P h.lt).trans h
theorem VarX.var {w : World} {P : Nat} {t : TypeId} {cs : Array Value} (h : VarX w P t cs) : VarN w P t cs.toList := ⟨cs.size, fun j => cs.getD j (.slice none 0 0), ⟨cs, h, rfl, fun i hi => by simp [hi]⟩, by simp, fun j hj => by
  have hj : j < cs.size := by simpa using hj
  simp [List.getD, Array.getD, hj]⟩
/-! ### 'no' -/
theorem Tryz.enters_noP : ∀ args w, (callFunc 58 args).run Tryz.prog w = .ok (.enter 58 args) w := enters_of Tryz.func58 (by kernel_rfl) rfl
theorem Tryz.enters_noS : ∀ args w, (callFunc 31 args).run Tryz.prog w = .ok (.enter 31 args) w := enters_of Tryz.func31 (by kernel_rfl) rfl
theorem noB {w w2 : World} {P Q : Nat} (h : Below w.heap.size w w2) (hP : w.heap.size ≤ P) (hQ : w.heap.size ≤ Q) (a b c d e f g i j k l m n o : Value) : Below w.heap.size w ((((((((((((((w2.setCell ⟨P, 0, none⟩ a).setCell ⟨P, 1, none⟩ b).setCell ⟨P, 2, none⟩ c).setCell ⟨P, 3, none⟩ d).setCell ⟨P, 4, none⟩ e).setCell ⟨P, 5, none⟩ f).setCell ⟨P, 6, none⟩ g).setCell ⟨P, 7, none⟩ i).setCell ⟨P, 8, none⟩ j).setCell ⟨Q, 0, none⟩ k).setCell ⟨Q, 1, none⟩ l).setCell ⟨Q, 2, none⟩ m).setCell ⟨Q, 3, none⟩ n).setCell ⟨Q, 4, none⟩ o) :=
  (h.trans ((off_nine w2 P a b c d e f g i j).below h.size fun q e => by omega)).trans ((off_five _ Q k l m n o).below (Nat.le_trans h.size (off_nine w2 P a b c d e f g i j).size) fun q e => by omega)
set_option maxHeartbeats 1000000 in
set_option maxRecDepth 100000 in
theorem noP_any (P : Nat) (E : Nat) (x y z g u : Int) (Ad : Option Addr) (nd Cd : Nat) (At : Option Addr) (nt Ct : Nat) (As : Option Addr) (ns Cs : Nat) (Aa : Option Addr) (na Ca : Nat) (w : World) (h : VarN w P 32 [.int .i64 x, .int .i64 y, .int .i64 z, .slice Ad nd Cd, .int .i64 g, .slice At nt Ct, .slice As ns Cs, .int .i64 u, .slice Aa na Ca]) :
    Calls Tryz.prog 58 #[.int .i64 (E : Nat), .pointer (some ⟨P, 0, none⟩)] w fun e w' => e = .returned (.tuple #[stA x y z (.slice Ad nd Cd) g (.slice At nt Ct) (.slice As ns Cs) u (.slice Aa na Ca), .agg #[.int .i64 (E : Nat), .int .i64 0, .slice none 0 0, .int .i64 0, .slice none 0 0]]) ∧ Below w.heap.size w w' := by
  have b1 : Below w.heap.size w (w.alloc (.cells zStA 32)) := (Below.refl _ _).alloc (Nat.le_refl _) _
  have b2 := b1.alloc b1.size (.cells zAnA 42)
  have V := h.below b2
  have a0 := V.cell (i := 0) rfl
  have a1 := V.cell (i := 1) rfl
  have a2 := V.cell (i := 2) rfl
  have a3 := V.cell (i := 3) rfl
  have a4 := V.cell (i := 4) rfl
  have a5 := V.cell (i := 5) rfl
  have a6 := V.cell (i := 6) rfl
  have a7 := V.cell (i := 7) rfl
  have a8 := V.cell (i := 8) rfl
  have X1 := ((varX_new w zStA 32).below ((Below.refl _ _).alloc (Nat.le_refl _) (.cells zAnA 42))).var
  have X2 := (varX_new (w.alloc (.cells zStA 32)) zAnA 42).var
  have hsz : (w.alloc (.cells zStA 32)).heap.size = w.heap.size + 1 := Array.size_push _
  rw [hsz] at X2
  have d0 := X1.cell (i := 0) rfl
  have d1 := X1.cell (i := 1) rfl
  have d2 := X1.cell (i := 2) rfl
  have d3 := X1.cell (i := 3) rfl
  have d4 := X1.cell (i := 4) rfl
  have d5 := X1.cell (i := 5) rfl
  have d6 := X1.cell (i := 6) rfl
  have d7 := X1.cell (i := 7) rfl
  have d8 := X1.cell (i := 8) rfl
  have f0 := X1.frozen 0
  have f1 := X1.frozen 1
  have f2 := X1.frozen 2
  have f3 := X1.frozen 3
  have f4 := X1.frozen 4
  have f5 := X1.frozen 5
  have f6 := X1.frozen 6
  have f7 := X1.frozen 7
  have f8 := X1.frozen 8
  have k0 := X2.cell (i := 0) rfl
  have k1 := X2.cell (i := 1) rfl
  have k2 := X2.cell (i := 2) rfl
  have k3 := X2.cell (i := 3) rfl
  have k4 := X2.cell (i := 4) rfl
  have l0 := X2.frozen 0
  have l1 := X2.frozen 1
  have l2 := X2.frozen 2
  have l3 := X2.frozen 3
  have l4 := X2.frozen 4
  clear h V X1 X2 hsz b1
  go_enter Tryz.func58, Tryz.ntmps58
  go_upto_region 1 with fail
  generalize (w.alloc (.cells zStA 32)).alloc (.cells zAnA 42) = w2 at *
  go_wp2_with fail
  refine bodyPost_ret (v := .tuple #[stA x y z (.slice Ad nd Cd) g (.slice At nt Ct) (.slice As ns Cs) u (.slice Aa na Ca), .agg #[.int .i64 (E : Nat), .int .i64 0, .slice none 0 0, .int .i64 0, .slice none 0 0]]) (by simp [results, Tryz.results58, go_sem, d0, d1, d2, d3, d4, d5, d6, d7, d8, k0, k1, k2, k3, k4]) rfl ?_
  exact ⟨rfl, noB b2 (Nat.le_refl _) (Nat.le_succ _) _ _ _ _ _ _ _ _ _ _ _ _ _ _⟩

set_option maxHeartbeats 1000000 in
set_option maxRecDepth 100000 in
theorem noS_any (P : Nat) (E : Nat) (x y z g u : Int) (Ad : Option Addr) (nd Cd : Nat) (At : Option Addr) (nt Ct : Nat) (As : Option Addr) (ns Cs : Nat) (Aa : Option Addr) (na Ca : Nat) (w : World) (h : VarN w P 32 [.int .i64 x, .int .i64 y, .int .i64 z, .slice Ad nd Cd, .int .i64 g, .slice At nt Ct, .slice As ns Cs, .int .i64 u, .slice Aa na Ca]) :
    Calls Tryz.prog 31 #[.int .i64 (E : Nat), .pointer (some ⟨P, 0, none⟩)] w fun e w' => e = .returned (.tuple #[stA x y z (.slice Ad nd Cd) g (.slice At nt Ct) (.slice As ns Cs) u (.slice Aa na Ca), .agg #[.int .i64 (E : Nat), .int .i64 0, .slice none 0 0, .int .i64 0, .slice none 0 0]]) ∧ Below w.heap.size w w' := by
  have b1 : Below w.heap.size w (w.alloc (.cells zStA 32)) := (Below.refl _ _).alloc (Nat.le_refl _) _
  have b2 := b1.alloc b1.size (.cells zAnA 42)
  have V := h.below b2
  have a0 := V.cell (i := 0) rfl
  have a1 := V.cell (i := 1) rfl
  have a2 := V.cell (i := 2) rfl
  have a3 := V.cell (i := 3) rfl
  have a4 := V.cell (i := 4) rfl
  have a5 := V.cell (i := 5) rfl
  have a6 := V.cell (i := 6) rfl
  have a7 := V.cell (i := 7) rfl
  have a8 := V.cell (i := 8) rfl
  have X1 := ((varX_new w zStA 32).below ((Below.refl _ _).alloc (Nat.le_refl _) (.cells zAnA 42))).var
  have X2 := (varX_new (w.alloc (.cells zStA 32)) zAnA 42).var
  have hsz : (w.alloc (.cells zStA 32)).heap.size = w.heap.size + 1 := Array.size_push _
  rw [hsz] at X2
  have d0 := X1.cell (i := 0) rfl
  have d1 := X1.cell (i := 1) rfl
  have d2 := X1.cell (i := 2) rfl
  have d3 := X1.cell (i := 3) rfl
  have d4 := X1.cell (i := 4) rfl
  have d5 := X1.cell (i := 5) rfl
  have d6 := X1.cell (i := 6) rfl
  have d7 := X1.cell (i := 7) rfl
  have d8 := X1.cell (i := 8) rfl
  have f0 := X1.frozen 0
  have f1 := X1.frozen 1
  have f2 := X1.frozen 2
  have f3 := X1.frozen 3
  have f4 := X1.frozen 4
  have f5 := X1.frozen 5
  have f6 := X1.frozen 6
  have f7 := X1.frozen 7
  have f8 := X1.frozen 8
  have k0 := X2.cell (i := 0) rfl
  have k1 := X2.cell (i := 1) rfl
  have k2 := X2.cell (i := 2) rfl
  have k3 := X2.cell (i := 3) rfl
  have k4 := X2.cell (i := 4) rfl
  have l0 := X2.frozen 0
  have l1 := X2.frozen 1
  have l2 := X2.frozen 2
  have l3 := X2.frozen 3
  have l4 := X2.frozen 4
  clear h V X1 X2 hsz b1
  go_enter Tryz.func31, Tryz.ntmps31
  go_upto_region 1 with fail
  generalize (w.alloc (.cells zStA 32)).alloc (.cells zAnA 42) = w2 at *
  go_wp2_with fail
  refine bodyPost_ret (v := .tuple #[stA x y z (.slice Ad nd Cd) g (.slice At nt Ct) (.slice As ns Cs) u (.slice Aa na Ca), .agg #[.int .i64 (E : Nat), .int .i64 0, .slice none 0 0, .int .i64 0, .slice none 0 0]]) (by simp [results, Tryz.results31, go_sem, d0, d1, d2, d3, d4, d5, d6, d7, d8, k0, k1, k2, k3, k4]) rfl ?_
  exact ⟨rfl, noB b2 (Nat.le_refl _) (Nat.le_succ _) _ _ _ _ _ _ _ _ _ _ _ _ _ _⟩

end Go.Proofs.YtmcaejooaaahdaaGreat
