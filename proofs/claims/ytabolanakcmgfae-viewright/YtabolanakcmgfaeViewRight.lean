/-
  Whatever right view and events that may come there are: what comes of them is a right view, of so many events more, in which no sum is below nothing if none was. No condition.
-/
import Derived.Test.YtabolanakcmgfaeRows
import Derived.Test.YtabolanakcmgfaeOpenV
import Derived.Test.YtabolanakcmgfaeVAlive
import Derived.ProofKit
import Derived.OpenShut
import Derived.Carry
import Derived.Deep.Cut
import Derived.Deep.CutRange
namespace Go.Proofs.Ytabolanakcmgfae.viewRight
open Go.ChangeShapes Go.WideShapes Go.ChangeAt Go.RowKit
set_option linter.unusedVariables false

theorem own : ownKnob Try.prog.godebug = none := by kernel_rfl

/-- No sum is below nothing, from k on. -/
def allPos (l : List Vw.Acc) : Prop := ∀ a, a ∈ l → 0 ≤ a.sum

set_option maxHeartbeats 2000000 in
set_option maxRecDepth 100000 in
theorem walk (w : World) (u : Int) (vs : Value) (l : List Vw.Acc) (hl : Accs w vs l) (ve : Value) (es : List Evt.Ev) (he : Evs w ve es) :
    Calls Try.prog 6 #[.agg #[.int .i64 u, vs], ve] w fun e w' => e = .returned (.bool true) ∧ Below w.heap.size w w' := by
  obtain ⟨A, C, rfl⟩ := hl.shape
  have hll := hl.len
  have bA : Below w.heap.size w (w.alloc (.cells #[.int .i64 u, .slice A l.length C] 33)) := (Below.refl _ _).alloc (Nat.le_refl _) _
  have VV := varF_new w 33 (.int .i64 u) (.slice A l.length C)
  have HL : Hid (∀ w', Below w.heap.size w w' → Accs w' (.slice A l.length C) l) := fun w' hb => hl.below hb
  have HFO := fun w' (hb : Below w.heap.size w w') => fold_any u (.slice A l.length C) ve l es w' (HL.out w' hb) (he.below hb)
  obtain ⟨E, D, rfl⟩ := he.shape
  clear hl he
  go_enter Try.func6, Try.ntmps6
  go_wp2_with fail
  generalize w.alloc (.cells #[.int .i64 u, .slice A l.length C] 33) = w0 at bA VV ⊢
  refine (alive7_any w0).mono ?_
  rintro e w1 ⟨rfl, b1⟩
  have VV := VV.below b1
  have b1 := bt bA b1
  have v0 := VV.c0
  have v1 := VV.c1
  clear bA
  go_wp2_with fail
  refine (HFO _ b1).mono ?_
  rintro e w2 ⟨⟨v2, rfl, A2, _⟩, b2⟩
  have VV := VV.below b2
  have b2 := bt b1 b2
  have HK : Hid ((Vw.fold u l es).1.1 = 0 → Vw.Right (Vw.fold u l es).2.1 (Vw.fold u l es).2.2 ∧ (Vw.fold u l es).2.1 = u + es.length ∧ ((∀ a, a ∈ l → 0 ≤ a.sum) → ∀ a, a ∈ (Vw.fold u l es).2.2 → 0 ≤ a.sum)) := fun h => Vw.fold_keeps h
  have HUR : Hid ((Vw.fold u l es).1.1 = 0 → 0 ≤ u ∧ u ≤ 150) := fun h => ⟨(Vw.fold_right h).lo, (Vw.fold_right h).hi⟩
  unfold faultV
  generalize (Vw.fold u l es).1.1 = x at HK HUR ⊢
  generalize (Vw.fold u l es).1.2 = y
  generalize (Vw.fold u l es).2.1 = u2 at HK ⊢
  generalize (Vw.fold u l es).2.2 = l2 at A2 HK
  obtain ⟨Q2, C2, rfl⟩ := A2.shape
  clear HFO v0 v1 b1
  have h1 : Below w2.heap.size w2 (w2.alloc (.cells #[.int .i64 u2, .slice Q2 l2.length C2] 33)) := (Below.refl _ _).alloc (Nat.le_refl _) _
  have h2 := h1.alloc h1.size (.cells #[.int .i64 (x : Nat), .int .i64 (y : Nat)] 36)
  have hb2 : Below (w2.alloc (.cells #[.int .i64 u2, .slice Q2 l2.length C2] 33)).heap.size (w2.alloc (.cells #[.int .i64 u2, .slice Q2 l2.length C2] 33)) ((w2.alloc (.cells #[.int .i64 u2, .slice Q2 l2.length C2] 33)).alloc (.cells #[.int .i64 (x : Nat), .int .i64 (y : Nat)] 36)) := (Below.refl _ _).alloc (Nat.le_refl _) _
  have VA := (varF_new w2 33 (.int .i64 u2) (.slice Q2 l2.length C2)).below hb2
  have VV := VV.below h2
  have A3 := A2.below h2
  have b3 := bt b2 h2
  clear h1 h2 hb2 A2 b2
  by_cases hx : x = 0
  case neg =>
    have hxe : ((x : Int) != 0) = true := by rw [bne_iff_ne]; omega
    clear hx
    go_wp2_with fail
    go_ret
    exact ⟨rfl, b3⟩
  have hxe : ((x : Int) != 0) = false := by rw [bne_eq_false_iff_eq]; omega
  have HK : Hid (Vw.Right u2 l2 ∧ u2 = u + es.length ∧ (allPos l → allPos l2)) := HK.out hx
  have hur := HUR.out hx
  have hl2 : l2.length ≤ 150 := HK.out.1.len
  clear HUR hx
  have c0 := VV.c0
  have c1 := VV.c1
  have d0 := VA.c0
  have d1 := VA.c1
  have HA3 : Hid (∀ i a, l2[i]? = some a → ∃ b o, Q2 = some ⟨b, o, none⟩ ∧ AcIn ((w2.alloc (.cells #[.int .i64 u2, .slice Q2 l2.length C2] 33)).alloc (.cells #[.int .i64 (x : Nat), .int .i64 (y : Nat)] 36)) b (o + i * 4) a) := accs_at A3
  go_wp2_with fail
  generalize (w2.alloc (.cells #[.int .i64 u2, .slice Q2 l2.length C2] 33)).alloc (.cells #[.int .i64 (x : Nat), .int .i64 (y : Nat)] 36) = wz at VV VA A3 b3 c0 c1 d0 d1 HA3 ⊢
  have HA1 : Hid (∀ i a, l[i]? = some a → ∃ b o, A = some ⟨b, o, none⟩ ∧ AcIn wz b (o + i * 4) a) := accs_at (HL.out wz b3)
  have HW := fun w' (hb : Below wz.heap.size wz w') => viewWrong_any u2 (.slice Q2 l2.length C2) l2 w' (A3.below hb)
  unfold faultV at HW
  rw [HK.out.1.ok] at HW
  clear VV VA A3 HL
  go_loopw [25] (fun x wr => ∃ k : Nat, k ≤ l.length ∧ x = .int .i64 k ∧ Hid (∀ j a, j < k → l[j]? = some a → 0 ≤ a.sum) ∧ Below wz.heap.size wz wr) (fun x _ => l.length - (intOf x).toNat)
  case atStart => exact ⟨0, Nat.zero_le _, rfl, fun j a hj => absurd hj (Nat.not_lt_zero j), Below.refl _ _⟩
  case round =>
    obtain ⟨k, hk, rfl, HS, hbr⟩ := hrel
    by_cases hlt : k < l.length
    · have hlt' : (k : Int) < (l.length : Int) := by omega
      obtain ⟨a, hak⟩ : ∃ a, l[k]? = some a := ⟨l[k], List.getElem?_eq_getElem hlt⟩
      obtain ⟨b, o, rfl, hin⟩ := HA1.out k a hak
      obtain ⟨s, hs1, hs2, x0, x1, x2, x3⟩ := hin.below hbr
      have HAK : Hid (l[k]? = some a) := hak
      have bA : Below wr.heap.size wr (wr.alloc (.cells #[.string s, .int .i64 a.sum, .int .i64 a.cnt, .bool a.opn] 39)) := (Below.refl _ _).alloc (Nat.le_refl _) _
      clear hak hin hs1 hs2 HW
      by_cases hneg : a.sum < 0
      · go_wp2_with fail
        go_ret
        exact ⟨rfl, bt b3 (bt hbr bA)⟩
      · have hneg' : 0 ≤ a.sum := by omega
        go_wp2_with fail
        refine ⟨⟨k + 1, by omega, by go_num, fun j x hj hx => ?_, bt hbr bA⟩, by simp [intOf]; omega⟩
        by_cases e : j = k
        · rw [e, HAK.out] at hx
          cases hx
          exact hneg'
        · exact HS.out j x (by omega) hx
    · obtain rfl : k = l.length := by omega
      have HPOS : Hid (allPos l2) := HK.out.2.2 (fun a ha => by
        obtain ⟨j, hj, rfl⟩ := List.mem_iff_getElem.1 ha
        exact HS.out j _ hj (List.getElem?_eq_getElem hj))
      obtain ⟨wy, rfl⟩ : ∃ y, y = wr := ⟨wr, rfl⟩
      have c0 := (hbr.cell (p := ⟨w.heap.size, 0, none⟩) (World.block_lt_of_cell? _ _ c0)).trans c0
      have d0 := (hbr.cell (p := ⟨w2.heap.size, 0, none⟩) (World.block_lt_of_cell? _ _ d0)).trans d0
      have d1 := (hbr.cell (p := ⟨w2.heap.size, 1, none⟩) (World.block_lt_of_cell? _ _ d1)).trans d1
      clear HS
      go_wp2_with fail
      go_loopw [36] (fun x wr => ∃ k : Nat, k ≤ l2.length ∧ x = .int .i64 k ∧ Below wy.heap.size wy wr) (fun x _ => l2.length - (intOf x).toNat)
      case atStart => exact ⟨0, Nat.zero_le _, rfl, Below.refl _ _⟩
      case round =>
        obtain ⟨k, hk, rfl, hbq⟩ := hrel
        have hbz := bt hbr hbq
        by_cases hlt : k < l2.length
        · have hlt' : (k : Int) < (l2.length : Int) := by omega
          obtain ⟨a, hak⟩ : ∃ a, l2[k]? = some a := ⟨l2[k], List.getElem?_eq_getElem hlt⟩
          obtain ⟨b, o, rfl, hin⟩ := HA3.out k a hak
          obtain ⟨s, hs1, hs2, x0, x1, x2, x3⟩ := hin.below hbz
          have hpos : 0 ≤ a.sum := HPOS.out a (List.mem_of_getElem? hak)
          have hneg : ¬ a.sum < 0 := by omega
          have bA : Below wr.heap.size wr (wr.alloc (.cells #[.string s, .int .i64 a.sum, .int .i64 a.cnt, .bool a.opn] 39)) := (Below.refl _ _).alloc (Nat.le_refl _) _
          clear hak hin hs1 hs2 HW
          go_wp2_with fail
          exact ⟨⟨k + 1, by omega, by go_num, bt hbq bA⟩, by simp [intOf]; omega⟩
        · obtain rfl : k = l2.length := by omega
          have d0 := (hbq.cell (p := ⟨w2.heap.size, 0, none⟩) (World.block_lt_of_cell? _ _ d0)).trans d0
          have d1 := (hbq.cell (p := ⟨w2.heap.size, 1, none⟩) (World.block_lt_of_cell? _ _ d1)).trans d1
          go_wp2_with fail
          refine (HW _ hbz).mono ?_
          rintro e w5 ⟨rfl, b5⟩
          have d0 := (b5.cell (p := ⟨w2.heap.size, 0, none⟩) (World.block_lt_of_cell? _ _ d0)).trans d0
          have c0 := (hbq.cell (p := ⟨w.heap.size, 0, none⟩) (World.block_lt_of_cell? _ _ c0)).trans c0
          have c0 := (b5.cell (p := ⟨w.heap.size, 0, none⟩) (World.block_lt_of_cell? _ _ c0)).trans c0
          have b6 := bt b3 (bt hbz b5)
          have hu2 : u2 = u + (es.length : Int) := HK.out.2.1
          have hfl := field_fault 0 0
          have heq : (u2 == u + (es.length : Int)) = true := by rw [beq_iff_eq]; exact hu2
          have hr2 : u2 ≤ 150 := HK.out.1.hi
          have hwr : wrap64 (u + (es.length : Int)) = u + (es.length : Int) := by
            unfold wrap64
            omega
          clear HW hu2
          go_wp2_with fail
          go_ret
          exact ⟨rfl, b6⟩

set_option maxRecDepth 100000 in
theorem lifted (os : Os) (started : os.Started) (H : Type) (enc : TypeId × Value → H) :
    ReturnsInHanded {} Try.checked os 6 .any (Rows.viewRightSpec.pre6 enc Try.prog Try.f6 Rows.viewRightRow.domain false) (Rows.viewRightSpec.post enc Try.prog Try.f6 false true false false) := by
  refine returnsInHanded_of_change (C := Try.checked) own started (by kernel_rfl) Try.func6
    (ChangeSpec.witness6 (enc := enc) (C := Try.checked) false ⟨#[], #[.agg #[.int .i64 0, .slice none 0 0], .slice none 0 0], []⟩ 8 (by kernel_rfl) (by kernel_rfl) (by kernel_rfl) (by kernel_rfl)) ?_
  intro W base args ds gs before hval0 hW hcnd _
  have hval : ∀ (j : Nat) t v, Try.f6.params[j]? = some t → args[j]? = some v → Value.okWide Try.prog W .any base t v := hval0
  have hW' := hW
  obtain ⟨p, q, hA0, hV, rfl, hfz, hnd⟩ := hW
  have hA : DataW.TrodAll enc Try.prog W 0 (fun _ => true) true Try.f6.params.toList args.toList ds p := hA0
  rw [Try.params6] at hA hval
  obtain ⟨v0, vs0, d0, ds0, p0, q0, hargs, rfl, rfl, h0, r0⟩ := trodAll_cons hA
  obtain ⟨v1, vs1, d1, ds1, p1, q1, rfl, rfl, rfl, h1, r1⟩ := trodAll_cons r0
  obtain ⟨rfl, rfl, rfl⟩ := trodAll_nil r1
  obtain rfl : args = #[v0, v1] := by cases args; simp_all
  obtain ⟨rfl, rfl⟩ := trodVars_none hV
  have k0 := h0
  have lt0 : ∀ x ∈ p0, x.block < W.heap.size := by obtain ⟨m, hm⟩ := k0; exact DataW.trod_lt m _ _ _ hm
  obtain ⟨s0, t0, z0, rfl, g0⟩ := view_of (hval 0 33 v0 rfl rfl) h0
  obtain ⟨a1, l1, c1, rfl⟩ := okWide_slice Try.underlying34 (hval 1 34 v1 rfl rfl)
  have k1 := h1
  have lt1 : ∀ x ∈ p1, x.block < W.heap.size := by obtain ⟨m, hm⟩ := k1; exact DataW.trod_lt m _ _ _ hm
  obtain ⟨f1, g1⟩ := evs_of h1
  clear hA0 hval0
  refine (walk W s0 t0 z0 g0 _ _ g1).mono fun e W' ⟨he, bel⟩ => ?_
  subst he
  exact ⟨_, rfl, _, _, _, [], _, [], hW', trodAll_mk1 (shut_bool Try.underlying4 _), (trodAll_cons_mk (Below.trod Try.laidOut (by kernel_rfl) (of_decide_eq_true (by kernel_rfl)) k0 bel lt0) (trodAll_cons_mk (Below.trod Try.laidOut (by kernel_rfl) (of_decide_eq_true (by kernel_rfl)) k1 bel lt1) trodAll_mk0)), rfl, bel.frame _, fun h => by cases h⟩

theorem over : Rows.viewRightRow.holds Try.pinned (OpenSpec.ofChange Rows.viewRightSpec) :=
  OpenClaim.holds_of_wide 6 Try.f6 rfl rfl rfl rfl rfl rfl rfl ⟨rfl, rfl, rfl, rfl, rfl⟩ rfl rfl rfl rfl rfl (by kernel_rfl) Try.func6 (by kernel_rfl)
    (of_decide_eq_true (by kernel_rfl)) (by unfold Func.isWrapper; first | (rw [if_pos (by decide +kernel)]; kernel_rfl) | (rw [if_neg (by decide +kernel)]; exact ⟨rfl, rfl⟩))
    (fun os started H enc _ => lifted os started H enc)
end Go.Proofs.Ytabolanakcmgfae.viewRight

namespace Go.Proofs.Ytabolanakcmgfae
theorem viewRight_holds : Rows.ViewRightSaid := viewRight.over
#print axioms viewRight_holds
end Go.Proofs.Ytabolanakcmgfae
