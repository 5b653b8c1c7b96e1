/-
  Texts of the proof, joined: SBase, Cnt, SHurt, ENamed, EWrong.
-/
import Derived.Test.YtmcaejooaaahdaaGreatZ08
import Derived.Test.YtmcaejooaaahdaaGreatZ10
import Derived.Test.YtmcaejooaaahdaaGreatZ12
import Derived.Test.YtmcaejooaaahdaaGreatZ09
import Derived.Test.YtmcaejooaaahdaaGreatZ01
import Derived.Lib.ConvBytes
namespace Go.Proofs.YtmcaejooaaahdaaGreat
open Go.RowKit

/-- Numbers that the call has made, in a list. -/
def Nums (w : World) (N : Nat) (v : Value) (l : List Nat) : Prop := w.ownsRow N 3 1 v l.length (l.map fun x : Nat => Value.int .i64 (x : Int))
theorem Tryz.infoInt : (Tryz.prog.info? 3).map (fun i => (i.zero, i.size, i.bytes)) = some (some (.int .i64 0), 1, 8) := by kernel_rfl

theorem Nums.nil (w : World) (N : Nat) : Nums w N (.slice none 0 0) [] := World.ownsRow_nil w N _ 1
theorem Nums.below {w w' : World} {N : Nat} {v : Value} {l : List Nat} (h : Nums w N v l) (hb : Below w.heap.size w w') : Nums w' N v l := owns_below h hb
theorem Nums.one {w : World} {N : Nat} {v : Value} {l : List Nat} {x : Nat} (h : w.ownsRow N 3 1 v (l.length + 1) ((l.map fun x : Nat => Value.int .i64 (x : Int)) ++ [.int .i64 (x : Int)])) : Nums w N v (l ++ [x]) := by
  unfold Nums
  rw [List.length_append, List.map_append]
  exact h
theorem badL_len (s : Int) (L : Nat → Nat) (g : Nat → Nat → Nat) (k : Nat) : (Seg.badL s L g k).length ≤ k := by
  unfold Seg.badL
  exact Nat.le_trans (List.length_filter_le _ _) (by simp)

/-- Rows that are appended to are lists. -/
theorem Acc.lls {w : World} {N : Nat} {v : Value} {k c : Nat} {G K : Nat → Nat} {f : Nat → Nat → Nat} (h : Acc w N v k c G K f) (bd : Gf.Bd2 f) (hK : ∀ i, i < k → c ≤ K i ∧ K i ≤ maxLen) : Lls w v k (fun _ => c) f := by
  rcases h.own.2 with ⟨rfl, h0⟩ | ⟨g, cap, cur, rfl, _, _, h1, h2, _, _⟩
  · subst h0
    exact ⟨bd, none, 0, rfl, Nat.le_refl _, Nat.zero_le _, fun r hr => absurd hr (Nat.not_lt_zero r)⟩
  · refine ⟨bd, some ⟨g, 0, none⟩, cap, rfl, h1, h2, fun r hr => ⟨g, 0, .slice (some ⟨G r, 0, none⟩) c (K r), rfl, ?_, ?_⟩⟩
    · have := h.own.cells (g := g) rfl r (.slice (some ⟨G r, 0, none⟩) c (K r)) (by simp [hr])
      rw [WideShapes.add_plain] at this
      exact this
    · exact byts_of_row (bd r) (h.row r hr).2 (hK r hr).1 (hK r hr).2

/-- Lists appended to those that the call has made. -/
theorem app_more (w : World) (N : Nat) (v : Value) (d s c : Nat) (G K G' K' : Nat → Nat) (f f' : Nat → Nat → Nat) (N' : Nat) (vm : Value) (hds : d + s ≤ 1000) (hN : N ≤ w.heap.size) (hNN : N ≤ N') (hA : Acc w N v d c G K f) (hM : Acc w N' vm s c G' K' f') (hs : 1 ≤ s) :
    ∃ v' w', (Builtin.append_ #[86, 86] 86 #[v, vm]).run Tryz.prog w = .ok v' w' ∧ Below N w w' ∧ Acc w' N v' (d + s) c (fun i => if i < d then G i else G' (i - d)) (fun i => if i < d then K i else K' (i - d)) (fun i => if i < d then f i else f' (i - d)) := by
  obtain ⟨i0, hi, hh⟩ := Option.map_eq_some_iff.1 Tryz.infoRow
  simp only [Prod.mk.injEq] at hh
  obtain ⟨hz0, hz1, hz2⟩ := hh
  obtain ⟨gm, cm, rfl, _, _, hr⟩ := rowC_owns hM.own hs
  obtain ⟨v', w', hrun, ho, hg, _⟩ := run_append_own (P := Tryz.prog) w N 86 86 59 i0 (.slice none 0 0) 1 24 Tryz.underlying86 hi hz0 hz1 hz2 rfl (by decide) v d _ hA.own ⟨gm, 0, none⟩ s cm ((List.range s).map fun i => .slice (some ⟨G' i, 0, none⟩) c (K' i)) (by simp) (fun j u hj => hM.own.cells (g := gm) rfl j u hj) (fun u hu => by
    obtain ⟨_, _, rfl⟩ := List.mem_map.1 hu
    rfl) (by unfold maxLen; omega) (by omega) hN
  have keep : ∀ x F, RowC w x 5 c F → RowC w' x 5 c F := fun x F hx => hx.of_block (hg.block x hx.lt (fun e => by
    obtain ⟨F2, h2⟩ := owns_block hA.own e.symm
    exact hx.ne h2 (by decide) rfl))
  refine ⟨v', w', hrun, (Below.refl N w).grown hg hN (fun x hx => (hA.own.lt x hx).1), ?_, fun i hi => ?_⟩
  · have e : (List.range (d + s)).map (fun i => Value.slice (some ⟨if i < d then G i else G' (i - d), 0, none⟩) c (if i < d then K i else K' (i - d))) = ((List.range d).map fun i => .slice (some ⟨G i, 0, none⟩) c (K i)) ++ ((List.range s).map fun i => .slice (some ⟨G' i, 0, none⟩) c (K' i)) := by
      rw [List.range_add, List.map_append, List.map_map]
      refine congr (congrArg _ ?_) ?_
      · refine List.map_congr_left (fun i hi => ?_)
        have := List.mem_range.1 hi
        rw [if_pos this, if_pos this]
      · refine List.map_congr_left (fun i _ => ?_)
        show Value.slice (some ⟨if d + i < d then G (d + i) else G' (d + i - d), 0, none⟩) c (if d + i < d then K (d + i) else K' (d + i - d)) = _
        rw [if_neg (by omega), if_neg (by omega), Nat.add_sub_cancel_left]
    rw [e]
    exact ho
  · by_cases e : i < d
    · simp only [if_pos e]
      exact ⟨(hA.row i e).1, keep _ _ (hA.row i e).2⟩
    · simp only [if_neg e]
      exact ⟨Nat.le_trans hNN (hM.row (i - d) (by omega)).1, keep _ _ (hM.row (i - d) (by omega)).2⟩

theorem shard_data {d : Nat} {D : Nat → Nat → Nat} (hD : Gf.Bd2 D) {i : Nat} (hi : i < d) (k : Nat) : Gf.mm d (Gf.rowF d) D i k = D i k := by
  refine Eq.trans (Gf.mm_congr (a' := Gf.one) (b' := D) (fun j _ => if_pos hi) (fun _ _ => rfl)) (Gf.one_mm hD k hi)
theorem lls_congr {w : World} {v : Value} {n : Nat} {L : Nat → Nat} {f f' : Nat → Nat → Nat} (h : Lls w v n L f) (bd : Gf.Bd2 f') (e : ∀ i, i < n → ∀ k, k < L i → f i k = f' i k) : Lls w v n L f' := by
  obtain ⟨A, cap, hv, h1, h2, hr⟩ := h.lies
  refine ⟨bd, A, cap, hv, h1, h2, fun r hrn => ?_⟩
  obtain ⟨b, o, u, e1, e2, _, A', C', e3, e4, e5, e6⟩ := hr r hrn
  refine ⟨b, o, u, e1, e2, bd r, A', C', e3, e4, e5, fun k hk => ?_⟩
  obtain ⟨b', o', e7, e8⟩ := e6 k hk
  exact ⟨b', o', e7, by rw [← e r hrn k hk]; exact e8⟩

/-- What Lay tells beside a number. -/
def LayO (w : World) (E : Nat) (v : Value) (N m : Nat) (F : Nat → Nat → Nat) : Prop := (E = 0 ∧ Lls w v N (fun _ => m) F) ∨ (E ≠ 0 ∧ v = .slice none 0 0)
theorem layE_ok {L seg d s : Nat} (h1 : 1 ≤ d) (h2 : d ≤ 8) (h3 : s ≤ 4) (h4 : seg ≤ 39) (h5 : L ≤ 400 * d) : Seg.layE L seg d s = 0 := by
  unfold Seg.layE
  rw [if_neg (by omega), if_neg (by omega), if_neg (by omega)]

/-- What is told of blocks that are read. -/
def readE (seg : Int) (d : Int) (N : Nat) (L : Nat → Nat) (g : Nat → Nat → Nat) : Nat :=
  if wrongC d ((N : Int) - d) ≠ 0 then 5 else if ¬ Seg.sizes seg L g N then 8 else if mendE d N (Seg.rl seg L g) ≠ 0 then mendE d N (Seg.rl seg L g)
  else if d.toNat * Seg.rl seg L g (thr (Seg.rl seg L g) N 0) < Seg.rz g (thr (Seg.rl seg L g) N 0) then 8 else 0
/-- What is read. -/
def ReadO (w : World) (E : Nat) (v : Value) (n N : Nat) (L : Nat → Nat) (f : Nat → Nat → Nat) (z : Nat) : Prop :=
  (E = 0 ∧ ∃ r, Gf.Bd2 r ∧ Gf.Und n (fun p => Gf.rowF n (thr L N p)) r ∧ Byts w v z (fun k => Gf.mm n (Gf.rowF n) (Gf.mm n r (fun p => f (thr L N p))) (k / L (thr L N 0)) (k % L (thr L N 0)))) ∨ (E ≠ 0 ∧ v = .slice none 0 0)
def updV {α : Type} (Q : Nat → α) (k : Nat) (e : α) (i : Nat) : α := if i = k then e else Q i
theorem updV_at {α : Type} (Q : Nat → α) (k : Nat) (e : α) : updV Q k e k = e := if_pos rfl
theorem updV_ne {α : Type} (Q : Nat → α) {k i : Nat} (e : α) (h : i ≠ k) : updV Q k e i = Q i := if_neg h
theorem range_upd (U : Nat → Value) (k : Nat) (u : Value) : (List.range (k + 1)).map (updV U k u) = (List.range k).map U ++ [u] := by
  rw [List.range_succ, List.map_append]
  refine congr (congrArg _ ?_) ?_
  · refine List.map_congr_left (fun i hi => updV_ne _ _ ?_)
    have := List.mem_range.1 hi
    omega
  · show [updV U k u k] = [u]
    rw [updV_at]
theorem Byts.none (w : World) {f : Nat → Nat} (hf : Bd f) : Byts w (.slice Option.none 0 0) 0 f := ⟨hf, Option.none, 0, rfl, Nat.le_refl _, Nat.zero_le _, fun i hi => absurd hi (Nat.not_lt_zero i)⟩
theorem lls_own {w wr : World} {N n : Nat} {y : Value} {U : Nat → Value} {L : Nat → Nat} {f : Nat → Nat → Nat} (ho : wr.ownsRow N 59 1 y n ((List.range n).map U)) (hU : ∀ i, i < n → Byts w (U i) (L i) (f i)) (hb : Below w.heap.size w wr) (bd : Gf.Bd2 f) : Lls wr y n L f := by
  rcases ho.2 with ⟨rfl, h0⟩ | ⟨g, cap, cur, rfl, _, _, h1, h2, _, _⟩
  · subst h0
    exact ⟨bd, none, 0, rfl, Nat.le_refl _, Nat.zero_le _, fun r hr => absurd hr (Nat.not_lt_zero r)⟩
  · refine ⟨bd, some ⟨g, 0, none⟩, cap, rfl, h1, h2, fun r hr => ⟨g, 0, U r, rfl, ?_, (hU r hr).below hb⟩⟩
    have := ho.cells (g := g) rfl r (U r) (by simp [hr])
    rw [WideShapes.add_plain] at this
    exact this

theorem flat_at (F : Nat → Nat → Nat) (n c j : Nat) (hc : 1 ≤ c) (hj : j < n * c) : ((List.range n).flatMap (fun p => (List.range c).map (F p))).getD j 0 = F (j / c) (j % c) := by
  have h1 : j / c < n := by
    rw [Nat.div_lt_iff_lt_mul (by omega)]
    exact hj
  have h2 : j % c < c := Nat.mod_lt _ (by omega)
  have h3 := flat_get (fun p => (List.range c).map (F p)) c (List.range n) (fun _ _ => by simp) (j / c) (j % c) h2 (j / c) (by simp [h1])
  rw [show j / c * c + j % c = j by rw [Nat.mul_comm]; exact Nat.div_add_mod j c] at h3
  rw [List.getD_eq_getElem?_getD, h3]
  simp [h2]
theorem extract_at {l : List Nat} {z j : Nat} (hb : ∀ x, x ∈ l → x < 256) (hz : z ≤ l.length) (hj : j < z) : (((strL l).extract 0 z).data.toList.getD j 0).toNat = l.getD j 0 := by
  have h1 : (strL l).data.toList = l.map UInt8.ofNat := by rw [← ByteArray.toList_eq]; exact strL_list l
  have h2 : ((strL l).extract 0 z).data.toList = (l.map UInt8.ofNat).take z := by
    rw [ByteArray.data_extract, Array.toList_extract, h1]
    simp
  have hjl : j < l.length := by omega
  rw [h2, List.getD_eq_getElem?_getD, List.getElem?_take, if_pos hj, List.getElem?_map, List.getElem?_eq_getElem hjl]
  have := hb _ (List.getElem_mem hjl)
  simp [List.getD, hjl]
  omega

/-- The bytes that are read. -/
def readF (n N : Nat) (L : Nat → Nat) (f r : Nat → Nat → Nat) (k : Nat) : Nat := Gf.mm n (Gf.rowF n) (Gf.mm n r (fun p => f (thr L N p))) (k / L (thr L N 0)) (k % L (thr L N 0))
end Go.Proofs.YtmcaejooaaahdaaGreat

namespace Go.Proofs.YtmcaejooaaahdaaGreat
open Go.RowKit

/-- How many of the first N are gone. -/
def cnt (M : Nat → Bool) : Nat → Nat
  | 0 => 0
  | N + 1 => cnt M N + if M N then 1 else 0
/-- How long each shard is, those that are gone having no bytes. -/
def goneL (M : Nat → Bool) (c i : Nat) : Nat := if M i then 0 else c
theorem there_gone {M : Nat → Bool} {c : Nat} (hc : 1 ≤ c) : (N : Nat) → (there (goneL M c) N).length + cnt M N = N
  | 0 => rfl
  | N + 1 => by
    have ih := there_gone (M := M) hc N
    show _ + (cnt M N + (if M N then 1 else 0)) = N + 1
    cases h : M N with
    | true =>
      have e : goneL M c N = 0 := if_pos h
      rw [there_no (by omega)]
      simp
      omega
    | false =>
      have e : goneL M c N = c := if_neg (by rw [h]; decide)
      rw [there_yes (by omega)]
      simp
      omega
end Go.Proofs.YtmcaejooaaahdaaGreat

namespace Go.Proofs.YtmcaejooaaahdaaGreat
open Go.RowKit

theorem there_congr {L L' : Nat → Nat} {N : Nat} (h : ∀ i, i < N → L i = L' i) : there L N = there L' N := by
  unfold there
  refine List.filter_congr (fun i hi => ?_)
  rw [h i (List.mem_range.1 hi)]
/-- Blocks of a segment: those that M strikes are not right, the others are as they were laid. -/
structure Hurt (r : Nat → Nat) (L seg d s : Nat) (M : Nat → Bool) (Ls : Nat → Nat) (g : Nat → Nat → Nat) : Prop where
  ok : ∀ i, i < d + s → M i = false → Ls i = Seg.layN L d + 11 ∧ g i = Seg.blk r L seg d i
  bad : ∀ i, i < d + s → M i = true → ¬ Seg.right seg Ls g i
section
variable {r : Nat → Nat} {L seg d s : Nat} {M : Nat → Bool} {Ls : Nat → Nat} {g : Nat → Nat → Nat}
theorem Hurt.right (h : Hurt r L seg d s M Ls g) (h1 : 1 ≤ d) (h2 : d ≤ 8) (h3 : s ≤ 4) (h4 : seg ≤ 39) (h5 : L ≤ 400 * d) {i : Nat} (hi : i < d + s) : Seg.right seg Ls g i ↔ M i = false := by
  constructor
  · intro q
    cases hM : M i with
    | false => rfl
    | true => exact absurd q (h.bad i hi hM)
  · intro q
    obtain ⟨e1, e2⟩ := h.ok i hi q
    obtain ⟨q1, q2, q3⟩ := Seg.blk_right (r := r) (L := L) (seg := seg) (d := d) (i := i) h1 h5 h4 (by omega) h2
    refine ⟨by rw [e1, e2]; exact q1, by rw [e2, q2], by rw [e2, q3]⟩
theorem Hurt.len (h : Hurt r L seg d s M Ls g) (h1 : 1 ≤ d) (h2 : d ≤ 8) (h3 : s ≤ 4) (h4 : seg ≤ 39) (h5 : L ≤ 400 * d) {i : Nat} (hi : i < d + s) : Seg.rl seg Ls g i = goneL M (Seg.layN L d) i := by
  have hr := h.right h1 h2 h3 h4 h5 hi
  unfold goneL
  cases hM : M i with
  | false =>
    rw [Seg.rl_yes (hr.2 hM), (h.ok i hi hM).1, Nat.add_sub_cancel]
    rfl
  | true =>
    rw [Seg.rl_no (h.bad i hi hM)]
    rfl
theorem Hurt.size (h : Hurt r L seg d s M Ls g) (h1 : 1 ≤ d) (h2 : d ≤ 8) (h3 : s ≤ 4) (h4 : seg ≤ 39) (h5 : L ≤ 400 * d) {i : Nat} (hi : i < d + s) (hr : Seg.right seg Ls g i) : Seg.rz g i = L := by
  obtain ⟨_, e2⟩ := h.ok i hi ((h.right h1 h2 h3 h4 h5 hi).1 hr)
  unfold Seg.rz
  rw [e2, Seg.blk_in (by omega), Crc.enc_hd (by omega), Crc.enc_hd (by omega)]
  show L / 256 * 256 + L % 256 = L
  omega
theorem Hurt.there (h : Hurt r L seg d s M Ls g) (h1 : 1 ≤ d) (h2 : d ≤ 8) (h3 : s ≤ 4) (h4 : seg ≤ 39) (h5 : L ≤ 400 * d) : (there (Seg.rl seg Ls g) (d + s)).length + cnt M (d + s) = d + s := by
  rw [there_congr (fun i hi => h.len h1 h2 h3 h4 h5 hi)]
  exact there_gone (Seg.layN_pos L d h1) _
end

end Go.Proofs.YtmcaejooaaahdaaGreat

namespace Go.Proofs.YtmcaejooaaahdaaGreat
open Go.RowKit

/-- A string's bytes. -/
def nb (s : ByteArray) : List Nat := s.data.toList.map fun b => b.toNat
def ch (s : ByteArray) (k : Nat) : Nat := (s.data.toList.getD k 0).toNat
theorem nb_len (s : ByteArray) : (nb s).length = s.size := by simp [nb]
theorem ch_lt (s : ByteArray) (k : Nat) : ch s k < 256 := UInt8.toNat_lt _
theorem nb_get (s : ByteArray) {k : Nat} (h : k < s.size) : (nb s)[k]? = some (ch s k) := by
  have h' : k < s.data.toList.length := by simpa using h
  unfold nb ch
  generalize s.data.toList = l at h'
  simp [List.getD, h']
theorem nb_mem {s : ByteArray} {c : Nat} (h : c ∈ nb s) : ∃ k, k < s.size ∧ c = ch s k := by
  obtain ⟨k, hk, e⟩ := List.mem_iff_getElem.1 h
  rw [nb_len] at hk
  refine ⟨k, hk, ?_⟩
  have := nb_get s hk
  rw [List.getElem?_eq_getElem (by rw [nb_len]; exact hk), Option.some.injEq] at this
  rw [← e, this]
theorem not_named {s : ByteArray} {k : Nat} (hk : k < s.size) (h : ¬ Evt.letter (ch s k) = true) : ¬ Evt.named (nb s) := fun q =>
  h (List.all_eq_true.1 q.1 _ (List.mem_of_getElem? (nb_get s hk)))
theorem named_iff (s : ByteArray) (h : ∀ j, j < s.size → Evt.letter (ch s j) = true) : Evt.named (nb s) ↔ 1 ≤ s.size ∧ s.size ≤ 10 := by
  unfold Evt.named
  rw [nb_len]
  refine ⟨fun q => q.2, fun q => ⟨List.all_eq_true.2 (fun c hc => ?_), q⟩⟩
  obtain ⟨k, hk, rfl⟩ := nb_mem hc
  exact h k hk

set_option maxHeartbeats 1000000 in
theorem refNamed_any (s : ByteArray) (w : World) (hs : s.size ≤ 9223372036854775807) :
    Calls Tryz.prog 35 #[.string s] w fun e w' => Tell e (Evt.named (nb s)) ∧ Below w.heap.size w w' := by
  have hcv := Lib.run_convert_string_bytes (P := Tryz.prog) w 9 59 5 s Tryz.underlying9 Tryz.underlying59 Tryz.underlying5
  have hbw := bytesWorld_below w 5 s
  have hce : ∀ j, j < s.size → (Lib.bytesWorld w 5 s).cell? ⟨w.heap.size, j, none⟩ = some (.int .u8 (ch s j : Nat)) := Lib.bytesWorld_cell w 5 s
  generalize Lib.bytesWorld w 5 s = W at hcv hbw hce
  generalize grownCap w s.size 0 5 = C at hcv
  go_enter Tryz.func35, Tryz.ntmps35
  go_wp2_with fail
  clear hcv
  go_loop [8] (fun x => ∃ k : Nat, k ≤ s.size ∧ x = .int .i64 k ∧ Hid (∀ j, j < k → Evt.letter (ch s j) = true)) (fun x => s.size - (intOf x).toNat)
  case atStart => exact ⟨0, Nat.zero_le _, rfl, fun j hj => absurd hj (Nat.not_lt_zero j)⟩
  case round =>
    obtain ⟨k, hk, rfl, HS⟩ := hrel
    by_cases hk2 : k < s.size
    · have hk3 : (k : Int) < (s.size : Int) := by omega
      have t := hce k hk2
      obtain ⟨x, hxk⟩ : ∃ x, ch s k = x := ⟨_, rfl⟩
      have hx2 := ch_lt s k
      have HX : Hid (ch s k = x) := hxk
      rw [hxk] at t hx2
      by_cases q0 : 97 ≤ x ∧ x ≤ 122
      · have HL : Hid (Evt.letter (ch s k) = true) := by
          show Evt.letter _ = true
          rw [Evt.letter_iff, HX.out]
          omega
        have f1 : (97 : Int) ≤ (x : Int) := by omega
        have f2 : (x : Int) ≤ 122 := by omega
        have f3 : (48 : Int) ≤ (x : Int) := by omega
        have f4 : ¬ (x : Int) ≤ 57 := by omega
        go_wp2_with fail
        refine ⟨⟨k + 1, by omega, by go_num, fun j hj => ?_⟩, by simp [intOf]; omega⟩
        by_cases e : j = k
        · rw [e]; exact HL.out
        · exact HS.out j (by omega)
      by_cases q1 : 48 ≤ x ∧ x ≤ 57
      · have HL : Hid (Evt.letter (ch s k) = true) := by
          show Evt.letter _ = true
          rw [Evt.letter_iff, HX.out]
          omega
        have f1 : ¬ (97 : Int) ≤ (x : Int) := by omega
        have f2 : (x : Int) ≤ 122 := by omega
        have f3 : (48 : Int) ≤ (x : Int) := by omega
        have f4 : (x : Int) ≤ 57 := by omega
        go_wp2_with fail
        refine ⟨⟨k + 1, by omega, by go_num, fun j hj => ?_⟩, by simp [intOf]; omega⟩
        by_cases e : j = k
        · rw [e]; exact HL.out
        · exact HS.out j (by omega)
      by_cases q2 : x < 48
      · have HN : Hid (¬ Evt.named (nb s)) := not_named hk2 (by rw [Evt.letter_iff, HX.out]; omega)
        have f1 : ¬ (97 : Int) ≤ (x : Int) := by omega
        have f2 : (x : Int) ≤ 122 := by omega
        have f3 : ¬ (48 : Int) ≤ (x : Int) := by omega
        have f4 : (x : Int) ≤ 57 := by omega
        go_wp2_with fail
        go_ret
        exact ⟨tell_no HN.out, hbw⟩
      by_cases q3 : 122 < x
      · have HN : Hid (¬ Evt.named (nb s)) := not_named hk2 (by rw [Evt.letter_iff, HX.out]; omega)
        have f1 : (97 : Int) ≤ (x : Int) := by omega
        have f2 : ¬ (x : Int) ≤ 122 := by omega
        have f3 : (48 : Int) ≤ (x : Int) := by omega
        have f4 : ¬ (x : Int) ≤ 57 := by omega
        go_wp2_with fail
        go_ret
        exact ⟨tell_no HN.out, hbw⟩
      · have HN : Hid (¬ Evt.named (nb s)) := not_named hk2 (by rw [Evt.letter_iff, HX.out]; omega)
        have f1 : ¬ (97 : Int) ≤ (x : Int) := by omega
        have f2 : (x : Int) ≤ 122 := by omega
        have f3 : (48 : Int) ≤ (x : Int) := by omega
        have f4 : ¬ (x : Int) ≤ 57 := by omega
        go_wp2_with fail
        go_ret
        exact ⟨tell_no HN.out, hbw⟩
    · obtain rfl : k = s.size := by omega
      have HI := named_iff s HS.out
      by_cases p1 : 1 ≤ s.size
      · have p1' : (0 : Int) < (s.size : Int) := by omega
        by_cases p2 : s.size ≤ 10
        · have p2' : (s.size : Int) ≤ 10 := by omega
          have HY : Hid (Evt.named (nb s)) := HI.2 ⟨p1, p2⟩
          clear HI
          go_wp2_with fail
          go_ret
          exact ⟨tell_yes HY.out, hbw⟩
        · have p2' : ¬ (s.size : Int) ≤ 10 := by omega
          have HN : Hid (¬ Evt.named (nb s)) := fun q => p2 (HI.1 q).2
          clear HI
          go_wp2_with fail
          go_ret
          exact ⟨tell_no HN.out, hbw⟩
      · have p1' : ¬ (0 : Int) < (s.size : Int) := by omega
        have HN : Hid (¬ Evt.named (nb s)) := fun q => p1 (HI.1 q).1
        clear HI
        go_wp2_with fail
        go_ret
        exact ⟨tell_no HN.out, hbw⟩

end Go.Proofs.YtmcaejooaaahdaaGreat

namespace Go.Proofs.YtmcaejooaaahdaaGreat
open Go.RowKit

/-- The three cells of an event's variable. -/
structure VarE (w : World) (p : Nat) (a b c : Value) : Prop where
  c0 : w.cell? ⟨p, 0, none⟩ = some a
  c1 : w.cell? ⟨p, 1, none⟩ = some b
  c2 : w.cell? ⟨p, 2, none⟩ = some c
theorem varE_new (w : World) (a b c : Value) : VarE (w.alloc (.cells #[a, b, c] 83)) w.heap.size a b c := by
  have hr := World.rowIs_alloc w #[a, b, c] 83 (fun k => #[a, b, c].getD k a) (fun i hi => by simp only [Array.getElem?_eq_getElem hi, Array.getD, hi, dif_pos]; rfl)
  exact ⟨hr.cell (i := 0) (by simp), hr.cell (i := 1) (by simp), hr.cell (i := 2) (by simp)⟩
theorem VarE.below {w w' : World} {p : Nat} {a b c : Value} (h : VarE w p a b c) (hb : Below w.heap.size w w') : VarE w' p a b c := by
  have hp : p < w.heap.size := World.block_lt_of_cell? _ _ h.c0
  exact ⟨(hb.cell (p := ⟨p, 0, none⟩) hp).trans h.c0, (hb.cell (p := ⟨p, 1, none⟩) hp).trans h.c1, (hb.cell (p := ⟨p, 2, none⟩) hp).trans h.c2⟩

set_option maxHeartbeats 1000000 in
theorem refWrongE_any (s : ByteArray) (k m : Int) (w : World) (hs : s.size ≤ 9223372036854775807) :
    Calls Tryz.prog 92 #[.agg #[.string s, .int .i64 k, .int .i64 m]] w fun e w' => e = .returned (.int .i64 (Evt.wrongE ⟨nb s, k, m⟩ : Nat)) ∧ Below w.heap.size w w' := by
  have HN := fun w' => refNamed_any s w' hs
  have hb0 : Below w.heap.size w (w.alloc (.cells #[.string s, .int .i64 k, .int .i64 m] 83)) := (Below.refl _ _).alloc (Nat.le_refl _) _
  have V0 := varE_new w (.string s) (.int .i64 k) (.int .i64 m)
  by_cases hn0 : Evt.named (nb s)
  case neg =>
    have hn : Hid (¬ Evt.named (nb s)) := hn0
    have H : Hid (Evt.wrongE ⟨nb s, k, m⟩ = 7) := Evt.wrongE_name hn0
    clear hn0
    go_enter Tryz.func92, Tryz.ntmps92
    go_wp2_with fail
    refine (HN _).mono ?_
    rintro e w1 ⟨⟨y, rfl, hy⟩, b1⟩
    obtain ⟨c0, c1, c2⟩ := V0.below b1
    have b1 := bt hb0 b1
    obtain rfl : y = false := by cases y with | false => rfl | true => exact absurd (hy.1 rfl) hn.out
    clear hy HN V0
    go_wp2_with fail
    go_ret
    exact ⟨ret_int (by rw [H.out]; rfl), b1⟩
  have hn : Hid (Evt.named (nb s)) := hn0
  clear hn0
  by_cases q0 : k < 1
  · have H : Hid (Evt.wrongE ⟨nb s, k, m⟩ = 1) := Evt.wrongE_kind hn.out (Or.inl q0)
    go_enter Tryz.func92, Tryz.ntmps92
    go_wp2_with fail
    refine (HN _).mono ?_
    rintro e w1 ⟨⟨y, rfl, hy⟩, b1⟩
    obtain ⟨c0, c1, c2⟩ := V0.below b1
    have b1 := bt hb0 b1
    obtain rfl : y = true := hy.2 hn.out
    clear hy HN V0
    go_wp2_with fail
    go_ret
    exact ⟨ret_int (by rw [H.out]; rfl), b1⟩
  by_cases q1 : 4 < k
  · have H : Hid (Evt.wrongE ⟨nb s, k, m⟩ = 1) := Evt.wrongE_kind hn.out (Or.inr q1)
    go_enter Tryz.func92, Tryz.ntmps92
    go_wp2_with fail
    refine (HN _).mono ?_
    rintro e w1 ⟨⟨y, rfl, hy⟩, b1⟩
    obtain ⟨c0, c1, c2⟩ := V0.below b1
    have b1 := bt hb0 b1
    obtain rfl : y = true := hy.2 hn.out
    clear hy HN V0
    go_wp2_with fail
    go_ret
    exact ⟨ret_int (by rw [H.out]; rfl), b1⟩
  have hk : Hid (¬ (k < 1 ∨ 4 < k)) := show ¬ (_ ∨ _) by omega
  by_cases q2 : m < 0
  · have H : Hid (Evt.wrongE ⟨nb s, k, m⟩ = 3) := Evt.wrongE_range hn.out hk.out (Or.inl q2)
    go_enter Tryz.func92, Tryz.ntmps92
    go_wp2_with fail
    refine (HN _).mono ?_
    rintro e w1 ⟨⟨y, rfl, hy⟩, b1⟩
    obtain ⟨c0, c1, c2⟩ := V0.below b1
    have b1 := bt hb0 b1
    obtain rfl : y = true := hy.2 hn.out
    clear hy HN V0
    go_wp2_with fail
    go_ret
    exact ⟨ret_int (by rw [H.out]; rfl), b1⟩
  by_cases q3 : 1000000 < m
  · have H : Hid (Evt.wrongE ⟨nb s, k, m⟩ = 3) := Evt.wrongE_range hn.out hk.out (Or.inr (Or.inl q3))
    go_enter Tryz.func92, Tryz.ntmps92
    go_wp2_with fail
    refine (HN _).mono ?_
    rintro e w1 ⟨⟨y, rfl, hy⟩, b1⟩
    obtain ⟨c0, c1, c2⟩ := V0.below b1
    have b1 := bt hb0 b1
    obtain rfl : y = true := hy.2 hn.out
    clear hy HN V0
    go_wp2_with fail
    go_ret
    exact ⟨ret_int (by rw [H.out]; rfl), b1⟩
  by_cases q4 : m = 0
  · have H : Hid (Evt.wrongE ⟨nb s, k, m⟩ = 0) := Evt.wrongE_ok hn.out hk.out (show ¬ (m < 0 ∨ 1000000 < m ∨ (0 < m ∧ k ≠ 2 ∧ k ≠ 3)) by omega)
    have g4 : ¬ 0 < m := by omega
    clear q4
    go_enter Tryz.func92, Tryz.ntmps92
    go_wp2_with fail
    refine (HN _).mono ?_
    rintro e w1 ⟨⟨y, rfl, hy⟩, b1⟩
    obtain ⟨c0, c1, c2⟩ := V0.below b1
    have b1 := bt hb0 b1
    obtain rfl : y = true := hy.2 hn.out
    clear hy HN V0
    go_wp2_with fail
    go_ret
    exact ⟨ret_int (by rw [H.out]; rfl), b1⟩
  have g4 : 0 < m := by omega
  by_cases q5 : k = 2
  · have H : Hid (Evt.wrongE ⟨nb s, k, m⟩ = 0) := Evt.wrongE_ok hn.out hk.out (show ¬ (m < 0 ∨ 1000000 < m ∨ (0 < m ∧ k ≠ 2 ∧ k ≠ 3)) by omega)
    have g5 : (k != 2) = false := by rw [q5]; rfl
    clear q5
    go_enter Tryz.func92, Tryz.ntmps92
    go_wp2_with fail
    refine (HN _).mono ?_
    rintro e w1 ⟨⟨y, rfl, hy⟩, b1⟩
    obtain ⟨c0, c1, c2⟩ := V0.below b1
    have b1 := bt hb0 b1
    obtain rfl : y = true := hy.2 hn.out
    clear hy HN V0
    go_wp2_with fail
    go_ret
    exact ⟨ret_int (by rw [H.out]; rfl), b1⟩
  have g5 : (k != 2) = true := by rw [bne_iff_ne]; exact q5
  by_cases q6 : k = 3
  · have H : Hid (Evt.wrongE ⟨nb s, k, m⟩ = 0) := Evt.wrongE_ok hn.out hk.out (show ¬ (m < 0 ∨ 1000000 < m ∨ (0 < m ∧ k ≠ 2 ∧ k ≠ 3)) by omega)
    have g6 : (k != 3) = false := by rw [q6]; rfl
    clear q6
    go_enter Tryz.func92, Tryz.ntmps92
    go_wp2_with fail
    refine (HN _).mono ?_
    rintro e w1 ⟨⟨y, rfl, hy⟩, b1⟩
    obtain ⟨c0, c1, c2⟩ := V0.below b1
    have b1 := bt hb0 b1
    obtain rfl : y = true := hy.2 hn.out
    clear hy HN V0
    go_wp2_with fail
    go_ret
    exact ⟨ret_int (by rw [H.out]; rfl), b1⟩
  have g6 : (k != 3) = true := by rw [bne_iff_ne]; exact q6
  have H : Hid (Evt.wrongE ⟨nb s, k, m⟩ = 3) := Evt.wrongE_range hn.out hk.out (Or.inr (Or.inr ⟨g4, q5, q6⟩))
  clear q5 q6
  go_enter Tryz.func92, Tryz.ntmps92
  go_wp2_with fail
  refine (HN _).mono ?_
  rintro e w1 ⟨⟨y, rfl, hy⟩, b1⟩
  obtain ⟨c0, c1, c2⟩ := V0.below b1
  have b1 := bt hb0 b1
  obtain rfl : y = true := hy.2 hn.out
  clear hy HN V0
  go_wp2_with fail
  go_ret
  exact ⟨ret_int (by rw [H.out]; rfl), b1⟩

end Go.Proofs.YtmcaejooaaahdaaGreat
