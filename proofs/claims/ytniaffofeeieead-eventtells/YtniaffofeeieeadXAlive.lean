/-
  The closed fact that chapter 5's statements ask first; what is written is read, as the walks want it.
-/
import Derived.Test.YtniaffofeeieeadXParse
import Derived.Test.YtniaffofeeieeadOpenE
import Derived.Test.YtniaffofeeieeadESame
namespace Go.Proofs.Ytniaffofeeieead
open Go.RowKit

theorem byt_of {H : Type} {enc : TypeId × Value → H} {W : World} {a : Option Addr} {len cap : Nat} {d : DataW H} {ps : List MemPlace} (h : DataW.Trod enc Try.prog W 0 (fun _ => true) true 25 (.slice a len cap) d ps) :
    ∃ f, Byts W (.slice a len cap) len f := by
  obtain ⟨fuel, hf⟩ := h
  exact byts_of (fuel := fuel) (by simpa [Value.cells] using hf)

theorem three_bytes {n : Nat} (h : n < 16777216) : Evt.Bytes (Evt.three n) := fun x hx => by
  unfold Evt.three at hx
  simp at hx
  omega
theorem bytes_app {a b : List Nat} (ha : Evt.Bytes a) (hb : Evt.Bytes b) : Evt.Bytes (a ++ b) := fun x hx => (List.mem_append.1 hx).elim (ha x) (hb x)
theorem bytes_cons {a : Nat} {b : List Nat} (ha : a < 256) (hb : Evt.Bytes b) : Evt.Bytes (a :: b) := fun x hx => by
  rcases List.mem_cons.1 hx with rfl | h
  · exact ha
  · exact hb x h
theorem bytes_flat {α : Type} {f : α → List Nat} {l : List α} (h : ∀ a, a ∈ l → Evt.Bytes (f a)) : Evt.Bytes (l.flatMap f) := fun x hx => by
  obtain ⟨a, ha, hx⟩ := List.mem_flatMap.1 hx
  exact h a ha x hx
theorem encE_bytes {e : Evt.Ev} (h : Evt.wrongE e = 0) : Evt.Bytes (Evt.encE e) := by
  obtain ⟨⟨hl, h1, h2⟩, h3, h4, h5, h6⟩ := Evt.wrongE_inv h
  unfold Evt.encE
  refine bytes_app (bytes_cons (by omega) ?_) (bytes_cons (by omega) (three_bytes (by omega)))
  intro x hx
  have := (Evt.letter_iff x).1 (List.all_eq_true.1 hl x hx)
  omega
theorem encB_bytes {b : Evt.Bat} (h : (Evt.wrongB b).1 = 0) : Evt.Bytes (Evt.encB b) := by
  obtain ⟨h1, h2, h3, h4, h5⟩ := Evt.wrongB_inv h
  unfold Evt.encB
  exact bytes_app (three_bytes (by omega)) (bytes_cons (by omega) (bytes_flat (fun e he => encE_bytes (h5 e he))))
theorem encL_bytes {l : List Evt.Bat} (h : (Evt.wrongL l).1 = 0) : Evt.Bytes (Evt.encL l) := by
  obtain ⟨h1, h2⟩ := Evt.wrongL_inv h
  unfold Evt.encL
  exact bytes_cons (by omega) (bytes_flat (fun e he => encB_bytes (h2 e he)))
theorem outL_bytes (l : List Evt.Bat) : Evt.Bytes (outL l) := by
  by_cases h : (Evt.wrongL l).1 = 0
  · rw [outL_ok h]
    exact encL_bytes h
  · rw [outL_no h]
    exact Evt.Bytes.nil
theorem parse_no {r : List Nat} (h : Evt.parseE r ≠ 0) : Evt.parse r = [] := by
  unfold Evt.parseE at h
  unfold Evt.parse
  cases hg : Evt.getL r with
  | none => rfl
  | some l =>
    rw [hg] at h
    exact if_neg h

/-- Bytes of whatever batches, as bytes. -/
theorem bytesL_list (v : Value) (l : List Evt.Bat) (w : World) (h : Bats w v l) :
    Calls Try.prog 12 #[v] w fun e w' => ∃ A C, e = .returned (.tuple #[.slice A (outL l).length C, .agg #[.int .i64 ((Evt.wrongL l).1 : Nat), .int .i64 ((Evt.wrongL l).2 : Nat)]]) ∧ BytL w' (.slice A (outL l).length C) (outL l) ∧ Below w.heap.size w w' := by
  refine (bytesL_any v l w h).mono ?_
  rintro e w' ⟨v', rfl, hb, hw⟩
  have hy := hb.bytL (outL_bytes l)
  obtain ⟨A, C, rfl⟩ := hy.byts.shape
  exact ⟨A, C, rfl, hy, hw⟩
/-- What is told of whatever bytes. -/
theorem parseL_list (v : Value) (r : List Nat) (w : World) (h : BytL w v r) :
    Calls Try.prog 14 #[v] w fun e w' => ∃ A C, e = .returned (.tuple #[.slice A (Evt.parse r).length C, .int .i64 (Evt.parseE r : Nat)]) ∧ Bats w' (.slice A (Evt.parse r).length C) (Evt.parse r) ∧ Below w.heap.size w w' := by
  refine (parseL_any v r w h).mono ?_
  rintro e w' ⟨v', rfl, hb, hw⟩
  obtain ⟨A, C, rfl⟩ := hb.shape
  exact ⟨A, C, rfl, hb, hw⟩

/-! ### The closed fact -/
def l5 : List Evt.Bat := [⟨5, [⟨[97], 2, 7⟩]⟩]
theorem l5_ok : Evt.wrongL l5 = (0, 0) := by decide
theorem l5_out : outL l5 = [1, 0, 0, 5, 1, 1, 97, 2, 0, 0, 7] := by decide
theorem l5_parse : Evt.parse [1, 0, 0, 5, 1, 1, 97, 2, 0, 0, 7] = l5 ∧ Evt.parseE [1, 0, 0, 5, 1, 1, 97, 2, 0, 0, 7] = 0 := by
  have h := Evt.parse_enc (l := l5) (by rw [l5_ok])
  have e : Evt.encL l5 = [1, 0, 0, 5, 1, 1, 97, 2, 0, 0, 7] := by decide
  rw [e] at h
  exact ⟨h.2, h.1⟩
theorem l5_bats (w : World) : Bats ((w.alloc (.cells #[.string (ByteArray.mk #[97]), .int .i64 2, .int .i64 7] 24)).alloc (.cells #[.int .i64 5, .slice (some ⟨w.heap.size, 0, none⟩) 1 1] 31)) (.slice (some ⟨w.heap.size + 1, 0, none⟩) 1 1) l5 := by
  have V0 := varE_new w (.string (ByteArray.mk #[97])) (.int .i64 2) (.int .i64 7)
  have bA : Below (w.alloc (.cells #[.string (ByteArray.mk #[97]), .int .i64 2, .int .i64 7] 24)).heap.size (w.alloc (.cells #[.string (ByteArray.mk #[97]), .int .i64 2, .int .i64 7] 24)) ((w.alloc (.cells #[.string (ByteArray.mk #[97]), .int .i64 2, .int .i64 7] 24)).alloc (.cells #[.int .i64 5, .slice (some ⟨w.heap.size, 0, none⟩) 1 1] 31)) := (Below.refl _ _).alloc (Nat.le_refl _) _
  have V1 := V0.below bA
  have V2 := varF_new (w.alloc (.cells #[.string (ByteArray.mk #[97]), .int .i64 2, .int .i64 7] 24)) 31 (.int .i64 5) (.slice (some ⟨w.heap.size, 0, none⟩) 1 1)
  have sz : (w.alloc (.cells #[.string (ByteArray.mk #[97]), .int .i64 2, .int .i64 7] 24)).heap.size = w.heap.size + 1 := by simp
  rw [sz] at V2
  refine ⟨some ⟨w.heap.size + 1, 0, none⟩, 1, rfl, Nat.le_refl _, by unfold maxLen; omega, fun i x hx => ?_⟩
  obtain rfl : i = 0 := by
    have := (List.getElem?_eq_some_iff.1 hx).1
    simp [l5] at this
    exact this
  cases hx
  refine ⟨w.heap.size + 1, 0, rfl, .slice (some ⟨w.heap.size, 0, none⟩) 1 1, V2.c0, V2.c1, some ⟨w.heap.size, 0, none⟩, 1, rfl, Nat.le_refl _, by unfold maxLen; omega, fun i x hx => ?_⟩
  obtain rfl : i = 0 := by
    have := (List.getElem?_eq_some_iff.1 hx).1
    simp at this
    exact this
  cases hx
  exact ⟨w.heap.size, 0, rfl, ByteArray.mk #[97], by decide, by decide, V1.c0, V1.c1, V1.c2⟩

set_option maxHeartbeats 1000000 in
theorem alive5_any (w : World) : Calls Try.prog 17 #[] w fun e w' => e = .returned (.bool true) ∧ Below w.heap.size w w' := by
  have X0 : Below w.heap.size w (w.alloc (.cells #[.string (ByteArray.mk #[97]), .int .i64 2, .int .i64 7] 24)) := (Below.refl _ _).alloc (Nat.le_refl _) _
  have X1 : Below w.heap.size w ((w.alloc (.cells #[.string (ByteArray.mk #[97]), .int .i64 2, .int .i64 7] 24)).alloc (.cells #[.int .i64 5, .slice (some ⟨w.heap.size, 0, none⟩) 1 1] 31)) := X0.alloc X0.size _
  have H1 := bytesL_list _ l5 _ (l5_bats w)
  rw [l5_out, l5_ok] at H1
  have HN1 := fun w' => named_any (ByteArray.mk #[97, 49]) w' (by decide)
  have HN2 := fun w' => named_any (ByteArray.mk #[65]) w' (by decide)
  have HY1 : Hid (Evt.named (nb (ByteArray.mk #[97, 49]))) := by
    show Evt.named _
    decide
  have HY2 : Hid (¬ Evt.named (nb (ByteArray.mk #[65]))) := by
    show ¬ Evt.named _
    decide
  clear X0
  go_enter Try.func17, Try.ntmps17
  go_wp2_with fail
  refine H1.mono ?_
  rintro e w1 ⟨A, C, rfl, Y1, b1⟩
  have b1 := bt X1 b1
  have V1 := varF_new w1 33 (.int .i64 0) (.int .i64 0)
  have bA : Below w1.heap.size w1 (w1.alloc (.cells #[.int .i64 0, .int .i64 0] 33)) := (Below.refl _ _).alloc (Nat.le_refl _) _
  have H2 := parseL_list _ _ _ (Y1.below bA)
  rw [l5_parse.1, l5_parse.2] at H2
  have b2 := bt b1 bA
  clear H1 X1 Y1 b1 bA
  go_wp2_with fail
  refine H2.mono ?_
  rintro e w2 ⟨A2, C2, rfl, B2, b3⟩
  obtain ⟨c0, c1, _⟩ := V1.below b3
  have b3 := bt b2 b3
  obtain ⟨bb, oo, C3, hv, _, _, hc⟩ := B2.some (by decide)
  cases hv
  obtain ⟨vs, d0, _, _⟩ := hc 0 _ rfl
  have d0 : w2.cell? ⟨bb, oo, none⟩ = some (.int .i64 5) := by simpa using d0
  clear H2 V1 b2 B2 hc
  go_wp2_with fail
  refine (HN1 _).mono ?_
  rintro e w3 ⟨⟨y, rfl, hy⟩, rfl⟩
  obtain rfl : y = true := hy.2 HY1.out
  clear hy HN1
  go_wp2_with fail
  refine (HN2 _).mono ?_
  rintro e w3 ⟨⟨y, rfl, hy⟩, rfl⟩
  obtain rfl : y = false := by cases y with | false => rfl | true => exact absurd (hy.1 rfl) HY2.out
  clear hy HN2
  go_wp2_with fail
  go_ret
  exact ⟨rfl, b3⟩

end Go.Proofs.Ytniaffofeeieead
