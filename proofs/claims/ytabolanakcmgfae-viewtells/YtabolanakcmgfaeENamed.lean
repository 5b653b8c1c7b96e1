/-
  Strings as bytes; what the document's own Named does, call by call.
-/
import Derived.Test.YtabolanakcmgfaeStr
import Derived.Test.YtabolanakcmgfaeEPure
import Derived.Lib.ConvBytes
namespace Go.Proofs.Ytabolanakcmgfae
open Go.RowKit

/-- A string's bytes. -/
def nb (s : ByteArray) : List Nat := s.data.toList.map fun b => b.toNat
def ch (s : ByteArray) (k : Nat) : Nat := (s.data.toList.getD k 0).toNat
theorem nb_len (s : ByteArray) : (nb s).length = s.size := by simp [nb]
theorem ch_lt (s : ByteArray) (k : Nat) : ch s k < 256 := UInt8.toNat_lt _
theorem nb_get (s : ByteArray) {k : Nat} (h : k < s.size) : (nb s)[k]? = some (ch s k) := by
  have h' : k < s.data.toList.length := by simpa using h
  unfold nb ch
  generalize s.data.toList = l at h'
  simp [List.getD, h']
theorem nb_mem {s : ByteArray} {c : Nat} (h : c ∈ nb s) : ∃ k, k < s.size ∧ c = ch s k := by
  obtain ⟨k, hk, e⟩ := List.mem_iff_getElem.1 h
  rw [nb_len] at hk
  refine ⟨k, hk, ?_⟩
  have := nb_get s hk
  rw [List.getElem?_eq_getElem (by rw [nb_len]; exact hk), Option.some.injEq] at this
  rw [← e, this]
theorem not_named {s : ByteArray} {k : Nat} (hk : k < s.size) (h : ¬ Evt.letter (ch s k) = true) : ¬ Evt.named (nb s) := fun q =>
  h (List.all_eq_true.1 q.1 _ (List.mem_of_getElem? (nb_get s hk)))
theorem named_iff (s : ByteArray) (h : ∀ j, j < s.size → Evt.letter (ch s j) = true) : Evt.named (nb s) ↔ 1 ≤ s.size ∧ s.size ≤ 10 := by
  unfold Evt.named
  rw [nb_len]
  refine ⟨fun q => q.2, fun q => ⟨List.all_eq_true.2 (fun c hc => ?_), q⟩⟩
  obtain ⟨k, hk, rfl⟩ := nb_mem hc
  exact h k hk

set_option maxHeartbeats 1000000 in
theorem refNamed_any (s : ByteArray) (w : World) (hs : s.size ≤ 9223372036854775807) :
    Calls Try.prog 33 #[.string s] w fun e w' => Tell e (Evt.named (nb s)) ∧ Below w.heap.size w w' := by
  have hcv := Lib.run_convert_string_bytes (P := Try.prog) w 9 22 5 s Try.underlying9 Try.underlying22 Try.underlying5
  have hbw := bytesWorld_below w 5 s
  have hce : ∀ j, j < s.size → (Lib.bytesWorld w 5 s).cell? ⟨w.heap.size, j, none⟩ = some (.int .u8 (ch s j : Nat)) := Lib.bytesWorld_cell w 5 s
  generalize Lib.bytesWorld w 5 s = W at hcv hbw hce
  generalize grownCap w s.size 0 5 = C at hcv
  go_enter Try.func33, Try.ntmps33
  go_wp2_with fail
  clear hcv
  go_loop [8] (fun x => ∃ k : Nat, k ≤ s.size ∧ x = .int .i64 k ∧ Hid (∀ j, j < k → Evt.letter (ch s j) = true)) (fun x => s.size - (intOf x).toNat)
  case atStart => exact ⟨0, Nat.zero_le _, rfl, fun j hj => absurd hj (Nat.not_lt_zero j)⟩
  case round =>
    obtain ⟨k, hk, rfl, HS⟩ := hrel
    by_cases hk2 : k < s.size
    · have hk3 : (k : Int) < (s.size : Int) := by omega
      have t := hce k hk2
      obtain ⟨x, hxk⟩ : ∃ x, ch s k = x := ⟨_, rfl⟩
      have hx2 := ch_lt s k
      have HX : Hid (ch s k = x) := hxk
      rw [hxk] at t hx2
      by_cases q0 : 97 ≤ x ∧ x ≤ 122
      · have HL : Hid (Evt.letter (ch s k) = true) := by
          show Evt.letter _ = true
          rw [Evt.letter_iff, HX.out]
          omega
        have f1 : (97 : Int) ≤ (x : Int) := by omega
        have f2 : (x : Int) ≤ 122 := by omega
        have f3 : (48 : Int) ≤ (x : Int) := by omega
        have f4 : ¬ (x : Int) ≤ 57 := by omega
        go_wp2_with fail
        refine ⟨⟨k + 1, by omega, by go_num, fun j hj => ?_⟩, by simp [intOf]; omega⟩
        by_cases e : j = k
        · rw [e]; exact HL.out
        · exact HS.out j (by omega)
      by_cases q1 : 48 ≤ x ∧ x ≤ 57
      · have HL : Hid (Evt.letter (ch s k) = true) := by
          show Evt.letter _ = true
          rw [Evt.letter_iff, HX.out]
          omega
        have f1 : ¬ (97 : Int) ≤ (x : Int) := by omega
        have f2 : (x : Int) ≤ 122 := by omega
        have f3 : (48 : Int) ≤ (x : Int) := by omega
        have f4 : (x : Int) ≤ 57 := by omega
        go_wp2_with fail
        refine ⟨⟨k + 1, by omega, by go_num, fun j hj => ?_⟩, by simp [intOf]; omega⟩
        by_cases e : j = k
        · rw [e]; exact HL.out
        · exact HS.out j (by omega)
      by_cases q2 : x < 48
      · have HN : Hid (¬ Evt.named (nb s)) := not_named hk2 (by rw [Evt.letter_iff, HX.out]; omega)
        have f1 : ¬ (97 : Int) ≤ (x : Int) := by omega
        have f2 : (x : Int) ≤ 122 := by omega
        have f3 : ¬ (48 : Int) ≤ (x : Int) := by omega
        have f4 : (x : Int) ≤ 57 := by omega
        go_wp2_with fail
        go_ret
        exact ⟨tell_no HN.out, hbw⟩
      by_cases q3 : 122 < x
      · have HN : Hid (¬ Evt.named (nb s)) := not_named hk2 (by rw [Evt.letter_iff, HX.out]; omega)
        have f1 : (97 : Int) ≤ (x : Int) := by omega
        have f2 : ¬ (x : Int) ≤ 122 := by omega
        have f3 : (48 : Int) ≤ (x : Int) := by omega
        have f4 : ¬ (x : Int) ≤ 57 := by omega
        go_wp2_with fail
        go_ret
        exact ⟨tell_no HN.out, hbw⟩
      · have HN : Hid (¬ Evt.named (nb s)) := not_named hk2 (by rw [Evt.letter_iff, HX.out]; omega)
        have f1 : ¬ (97 : Int) ≤ (x : Int) := by omega
        have f2 : (x : Int) ≤ 122 := by omega
        have f3 : (48 : Int) ≤ (x : Int) := by omega
        have f4 : ¬ (x : Int) ≤ 57 := by omega
        go_wp2_with fail
        go_ret
        exact ⟨tell_no HN.out, hbw⟩
    · obtain rfl : k = s.size := by omega
      have HI := named_iff s HS.out
      by_cases p1 : 1 ≤ s.size
      · have p1' : (0 : Int) < (s.size : Int) := by omega
        by_cases p2 : s.size ≤ 10
        · have p2' : (s.size : Int) ≤ 10 := by omega
          have HY : Hid (Evt.named (nb s)) := HI.2 ⟨p1, p2⟩
          clear HI
          go_wp2_with fail
          go_ret
          exact ⟨tell_yes HY.out, hbw⟩
        · have p2' : ¬ (s.size : Int) ≤ 10 := by omega
          have HN : Hid (¬ Evt.named (nb s)) := fun q => p2 (HI.1 q).2
          clear HI
          go_wp2_with fail
          go_ret
          exact ⟨tell_no HN.out, hbw⟩
      · have p1' : ¬ (0 : Int) < (s.size : Int) := by omega
        have HN : Hid (¬ Evt.named (nb s)) := fun q => p1 (HI.1 q).1
        clear HI
        go_wp2_with fail
        go_ret
        exact ⟨tell_no HN.out, hbw⟩

end Go.Proofs.Ytabolanakcmgfae
