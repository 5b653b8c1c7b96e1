/-
  Texts of the proof, joined: Mem, Rowops, Wrong, Filled, Prod.
-/
import Derived.Test.YtmcaejooaaahdaaGreatZ04
import Derived.Test.YtmcaejooaaahdaaGreatZ05
import Derived.Deep.OwnRows
import Derived.Deep.RegionWith
import Derived.BigRegion
import Derived.BigQuiet
import Derived.Deep.QuietTactic
import Derived.FnLit
import Derived.Shelf.Abstract
import Derived.Deep.Slices
namespace Go.Proofs.YtmcaejooaaahdaaGreat
open Go.RowKit



theorem rowIs_off {S : Nat → Prop} {w w' : World} {b : Nat} {t : TypeId} {n : Nat} {f : Nat → Value} (h : w.rowIs b t n f) (o : Off S w w') (hb : ¬ S b) : w'.rowIs b t n f := h.of_block (o.block b h.lt hb)
theorem rowIs_below {w w' : World} {b : Nat} {t : TypeId} {n : Nat} {f : Nat → Value} (h : w.rowIs b t n f) (o : Below w.heap.size w w') : w'.rowIs b t n f := h.of_block (o.block b h.lt)

/-- A matrix lies at (b, o): n rows of c bytes, row r at (G r, O r). -/
structure MatAt (w : World) (b o n c : Nat) (G O K : Nat → Nat) (f : Nat → Nat → Nat) : Prop where
  top : ∀ r, r < n → w.cell? ⟨b, o + r, none⟩ = some (.slice (some ⟨G r, O r, none⟩) c (K r))
  row : ∀ r, r < n → ∀ k, k < c → w.cell? ⟨G r, O r + k, none⟩ = some (.int .u8 (f r k : Nat))

theorem MatAt.below {w w' : World} {b o n c : Nat} {G O K : Nat → Nat} {f : Nat → Nat → Nat} (h : MatAt w b o n c G O K f) (hb : Below w.heap.size w w') : MatAt w' b o n c G O K f :=
  ⟨fun r hr => by rw [hb.cell (p := ⟨b, o + r, none⟩) (World.block_lt_of_cell? _ _ (h.top r hr))]; exact h.top r hr,
   fun r hr k hk => by rw [hb.cell (p := ⟨G r, O r + k, none⟩) (World.block_lt_of_cell? _ _ (h.row r hr k hk))]; exact h.row r hr k hk⟩

/-- A matrix that the call itself has made: n rows of c bytes, row r in block G r, from block N on. -/
structure Own (w : World) (N b n c : Nat) (G : Nat → Nat) (f : Nat → Nat → Nat) : Prop where
  top : w.rowIs b 59 n (fun r => .slice (some ⟨G r, 0, none⟩) c c)
  row : ∀ r, r < n → w.rowIs (G r) 5 c (fun k => .int .u8 (f r k : Nat))
  lob : N ≤ b
  low : ∀ r, r < n → N ≤ G r
  apart : ∀ r, r < n → G r ≠ b
  inj : ∀ r s, r < n → s < n → r ≠ s → G r ≠ G s

theorem Own.below {w w' : World} {N b n c : Nat} {G : Nat → Nat} {f : Nat → Nat → Nat} (h : Own w N b n c G f) (hb : Below w.heap.size w w') : Own w' N b n c G f :=
  ⟨rowIs_below h.top hb, fun r hr => rowIs_below (h.row r hr) hb, h.lob, h.low, h.apart, h.inj⟩
theorem Own.lower {w : World} {N M b n c : Nat} {G : Nat → Nat} {f : Nat → Nat → Nat} (h : Own w N b n c G f) (hM : M ≤ N) : Own w M b n c G f :=
  ⟨h.top, h.row, Nat.le_trans hM h.lob, fun r hr => Nat.le_trans hM (h.low r hr), h.apart, h.inj⟩
theorem Own.mat {w : World} {N b n c : Nat} {G : Nat → Nat} {f : Nat → Nat → Nat} (h : Own w N b n c G f) : MatAt w b 0 n c G (fun _ => 0) (fun _ => c) f :=
  ⟨fun r hr => by rw [Nat.zero_add]; exact h.top.cell hr, fun r hr k hk => by rw [Nat.zero_add]; exact (h.row r hr).cell hk⟩

/-- The blocks of such a matrix. -/
def inOwn (b n : Nat) (G : Nat → Nat) (k : Nat) : Prop := k = b ∨ ∃ r, r < n ∧ k = G r

end Go.Proofs.YtmcaejooaaahdaaGreat

namespace Go.Proofs.YtmcaejooaaahdaaGreat
open Go.RowKit

theorem mulI_nat (a b : Nat) : Gf.mulI (a : Int) (b : Int) = ((Gf.mul a b : Nat) : Int) := by
  unfold Gf.mulI
  rw [Int.toNat_natCast, Int.toNat_natCast]
theorem xor_nat {a b : Nat} (ha : a < 256) (hb : b < 256) : bits .xor .u8 (a : Int) (b : Int) = ((a ^^^ b : Nat) : Int) := by
  rw [u8_xor _ _ (by omega) (by omega) (by omega) (by omega), Int.toNat_natCast, Int.toNat_natCast]

theorem mul_nat (a b : Nat) (w : World) (ha : a < 256) (hb : b < 256) :
    Calls Tryz.prog 164 #[.int .u8 (a : Int), .int .u8 (b : Int)] w fun e w' => e = .returned (.int .u8 ((Gf.mul a b : Nat) : Int)) ∧ Below w.heap.size w w' := by
  rw [← mulI_nat]
  exact mul_any _ _ _ (by omega) (by omega) (by omega) (by omega)
theorem inv_nat (a : Nat) (w : World) (ha : a < 256) :
    Calls Tryz.prog 177 #[.int .u8 (a : Int)] w fun e w' => e = .returned (.int .u8 ((Gf.inv a : Nat) : Int)) ∧ Below w.heap.size w w' := by
  have h : Gf.raiseI (a : Int) 254 = ((Gf.inv a : Nat) : Int) := by
    unfold Gf.raiseI Gf.inv
    rw [Int.toNat_natCast]
    rfl
  rw [← h]
  exact inv_any _ _ (by omega) (by omega)

set_option maxHeartbeats 400000 in
theorem cellOne_any (i j : Nat) (w : World) :
    Calls Tryz.prog 170 #[.int .i64 (i : Int), .int .i64 (j : Int)] w fun e w' => e = .returned (.int .u8 ((Gf.one i j : Nat) : Int)) ∧ Below w.heap.size w w' := by
  by_cases h : i = j
  · subst h
    have H : Hid (Gf.one i i = 1) := Gf.one_self i
    go_enter Tryz.func170, Tryz.ntmps170
    go_wp2_with fail
    go_ret
    exact ⟨ret_int (by rw [H.out]; rfl), Below.refl _ _⟩
  · have H : Hid (Gf.one i j = 0) := Gf.one_ne h
    have h' : ((i : Int) == (j : Int)) = false := by rw [beq_eq_false_iff_ne]; omega
    clear h
    go_enter Tryz.func170, Tryz.ntmps170
    go_wp2_with fail
    go_ret
    exact ⟨ret_int (by rw [H.out]; rfl), Below.refl _ _⟩

/-- A row, its first k bytes rewritten. -/
def upto (k : Nat) (g f : Nat → Nat) (j : Nat) : Nat := if j < k then g j else f j
theorem upto_step (k : Nat) (g f : Nat → Nat) (j : Nat) : upto (k + 1) g f j = if j = k then g k else upto k g f j := by
  unfold upto
  by_cases h : j = k
  · subst h
    rw [if_pos (by omega), if_pos rfl]
  · rw [if_neg h]
    by_cases h' : j < k
    · rw [if_pos h', if_pos (by omega)]
    · rw [if_neg h', if_neg (by omega)]
theorem upto_here (k : Nat) (g f : Nat → Nat) : upto k g f k = f k := if_neg (Nat.lt_irrefl _)

theorem row_step {w : World} {g : Nat} {t : TypeId} {n k : Nat} {f h : Nat → Nat} (hr : w.rowIs g t n (fun j => .int .u8 (upto k h f j : Nat))) :
    (w.setCell ⟨g, k, none⟩ (.int .u8 (h k : Nat))).rowIs g t n (fun j => .int .u8 (upto (k + 1) h f j : Nat)) :=
  (hr.set k _).congr (fun j _ => by
    rw [upto_step]
    by_cases e : j = k
    · rw [if_pos e, if_pos e]
    · rw [if_neg e, if_neg e])

set_option maxHeartbeats 1000000 in
theorem scale_any (g n x : Nat) (f : Nat → Nat) (w : World) (hr : w.rowIs g 5 n (fun k => .int .u8 (f k : Nat))) (hf : Gf.Bd f) (hx : x < 256) (hn : n ≤ 10000) :
    Calls Tryz.prog 182 #[.slice (some ⟨g, 0, none⟩) n n, .int .u8 (x : Int)] w fun e w' => e = .returned (.tuple #[]) ∧ w'.rowIs g 5 n (fun k => .int .u8 (Gf.mul (f k) x : Nat)) ∧ Off (fun k => k = g) w w' := by
  go_enter Tryz.func182, Tryz.ntmps182
  go_wp2_with fail
  go_loopw [7] (fun i wr => ∃ k : Nat, k ≤ n ∧ i = .int .i64 k ∧ wr.rowIs g 5 n (fun j => .int .u8 (upto k (fun j => Gf.mul (f j) x) f j : Nat)) ∧ Off (fun k => k = g) w wr) (fun i _ => n - (intOf i).toNat)
  case atStart => exact ⟨0, Nat.zero_le _, rfl, hr, Off.refl _ _⟩
  case round =>
    obtain ⟨k, hk, rfl, hw, ho⟩ := hrel
    by_cases hlt : k < n
    · have hlt' : (k : Int) < (n : Int) := by omega
      have hc := hw.cell hlt
      have hfz := hw.frozen k
      rw [upto_here] at hc
      go_wp2_with fail
      refine (mul_nat _ _ _ (hf k) hx).mono ?_
      rintro e w1 ⟨rfl, hb1⟩
      have hw1 := rowIs_below hw hb1
      have hc1 := hw1.cell hlt
      have hfz1 := hw1.frozen k
      go_wp2_with fail
      exact ⟨⟨k + 1, by omega, by go_num, row_step hw1, (ho.trans (Off.of_below hb1)).set rfl _⟩, by simp [intOf]; omega⟩
    · have e8 : k = n := by omega
      subst e8
      go_wp2_with fail
      go_end0
      exact ⟨rfl, hw.congr (fun j hj => by rw [show upto k (fun j => Gf.mul (f j) x) f j = Gf.mul (f j) x from if_pos hj]), ho⟩

set_option maxHeartbeats 2000000 in
theorem addTimes_any (g q n x : Nat) (f p : Nat → Nat) (w : World) (hr : w.rowIs g 5 n (fun k => .int .u8 (f k : Nat))) (hp : w.rowIs q 5 n (fun k => .int .u8 (p k : Nat))) (hne : g ≠ q) (hf : Gf.Bd f) (hpb : Gf.Bd p) (hx : x < 256) (hn : n ≤ 10000) :
    Calls Tryz.prog 183 #[.slice (some ⟨g, 0, none⟩) n n, .slice (some ⟨q, 0, none⟩) n n, .int .u8 (x : Int)] w fun e w' => e = .returned (.tuple #[]) ∧ w'.rowIs g 5 n (fun k => .int .u8 (f k ^^^ Gf.mul (p k) x : Nat)) ∧ Off (fun k => k = g) w w' := by
  go_enter Tryz.func183, Tryz.ntmps183
  go_wp2_with fail
  go_loopw [9] (fun i wr => ∃ k : Nat, k ≤ n ∧ i = .int .i64 k ∧ wr.rowIs g 5 n (fun j => .int .u8 (upto k (fun j => f j ^^^ Gf.mul (p j) x) f j : Nat)) ∧ Off (fun k => k = g) w wr) (fun i _ => n - (intOf i).toNat)
  case atStart => exact ⟨0, Nat.zero_le _, rfl, hr, Off.refl _ _⟩
  case round =>
    obtain ⟨k, hk, rfl, hw, ho⟩ := hrel
    by_cases hlt : k < n
    · have hlt' : (k : Int) < (n : Int) := by omega
      have hc := hw.cell hlt
      have hfz := hw.frozen k
      rw [upto_here] at hc
      have hq := rowIs_off hp ho (fun e => hne e.symm)
      have hcq := hq.cell hlt
      have hxor := xor_nat (hf k) (Gf.mul_lt x (hpb k))
      go_wp2_with fail
      go_region_with (go_at_call 164; refine (mul_nat _ _ _ (hpb k) hx).mono ?_; rintro e w1 ⟨rfl, hb1⟩; have hw1 := rowIs_below hw.drew hb1; have hc1 := hw1.cell hlt; have hfz1 := hw1.frozen k; rw [upto_here] at hc1)
      all_goals go_wp2_with fail
      all_goals exact ⟨⟨k + 1, by omega, by go_num, row_step (h := fun j => f j ^^^ Gf.mul (p j) x) hw1, (ho.drew.trans (Off.of_below hb1)).set rfl _⟩, by simp [intOf]; omega⟩
    · have e8 : k = n := by omega
      subst e8
      go_wp2_with fail
      go_end0
      exact ⟨rfl, hw.congr (fun j hj => by rw [show upto k (fun j => f j ^^^ Gf.mul (p j) x) f j = f j ^^^ Gf.mul (p j) x from if_pos hj]), ho⟩

end Go.Proofs.YtmcaejooaaahdaaGreat

namespace Go.Proofs.YtmcaejooaaahdaaGreat
open Go.RowKit

theorem ret_bool {a b : Bool} (h : a = b) : Ending.returned (.bool a) = .returned (.bool b) := by rw [h]

/-- A literal that captures one variable, as a predicate of the rows of a slice. -/
def PredOn (g : Nat) (l : Value) (n : Nat) (V : Nat → Value) (p : Nat → Bool) (w : World) : Prop :=
  ∀ r, r < n → ∀ W, Below w.heap.size w W → Calls Tryz.prog g #[V r, l] W fun e w' => e = .returned (.bool (p r)) ∧ Below W.heap.size W w'

/-- Where the first row is of which p holds. -/
def FirstAt (n : Nat) (p : Nat → Bool) (i : Int) : Prop := (i = -1 ∧ ∀ r, r < n → p r = false) ∨ ∃ r : Nat, r < n ∧ i = (r : Int) ∧ p r = true ∧ ∀ s, s < r → p s = false

set_option maxHeartbeats 1000000 in
theorem indexF_any (g b o n cap : Nat) (l : Value) (V : Nat → Value) (p : Nat → Bool) (w : World) (eg : ∀ args w, (callFunc g args).run Tryz.prog w = .ok (.enter g args) w)
    (hc : ∀ r, r < n → w.cell? ⟨b, o + r, none⟩ = some (V r)) (hp : PredOn g l n V p w) (hn : n ≤ 10000) :
    Calls Tryz.prog 178 #[.slice (some ⟨b, o, none⟩) n cap, .func (.func g) #[] #[l]] w fun e w' => ∃ i : Int, e = .returned (.int .i64 i) ∧ FirstAt n p i ∧ Below w.heap.size w w' := by
  go_enter Tryz.func178, Tryz.ntmps178
  go_wp2_with fail
  go_loopw [8] (fun i wr => ∃ k : Nat, k ≤ n ∧ i = .int .i64 k ∧ (∀ s, s < k → p s = false) ∧ Below w.heap.size w wr) (fun i _ => n - (intOf i).toNat)
  case atStart => exact ⟨0, Nat.zero_le _, rfl, fun s hs => absurd hs (Nat.not_lt_zero s), Below.refl _ _⟩
  case round =>
    obtain ⟨k, hk, rfl, hs, hb⟩ := hrel
    have HS : Hid (∀ s, s < k → p s = false) := hs
    clear hs
    by_cases hlt : k < n
    · have hlt' : (k : Int) < (n : Int) := by omega
      have hck := hc k hlt
      have hlb := World.block_lt_of_cell? _ _ hck
      have hcw := (hb.cell (p := ⟨b, o + k, none⟩) hlb).trans hck
      have HC : Hid (∀ r, r < n → w.cell? ⟨b, o + r, none⟩ = some (V r)) := hc
      clear hc hck
      have hpk := hp k hlt wr hb
      by_cases hy : p k = true
      · rw [hy] at hpk
        go_wp2_with fail
        refine hpk.mono ?_
        rintro e w1 ⟨rfl, hb1⟩
        go_wp2_with fail
        go_ret
        exact ⟨_, rfl, Or.inr ⟨k, hlt, rfl, hy, HS.out⟩, hb.trans (hb1.mono hb.size)⟩
      · have hy' : p k = false := by simpa using hy
        rw [hy'] at hpk
        clear hy
        go_wp2_with fail
        refine hpk.mono ?_
        rintro e w1 ⟨rfl, hb1⟩
        go_wp2_with fail
        refine ⟨⟨k + 1, by omega, by go_num, fun s hs => ?_, hb.trans (hb1.mono hb.size)⟩, by simp [intOf]; omega⟩
        by_cases e : s = k
        · rw [e]; exact hy'
        · exact HS.out s (by omega)
    · have e8 : k = n := by omega
      subst e8
      go_wp2_with fail
      go_ret
      exact ⟨_, rfl, Or.inl ⟨rfl, HS.out⟩, hb⟩

set_option maxHeartbeats 400000 in
theorem containsF_any (g b o n cap : Nat) (l : Value) (V : Nat → Value) (p : Nat → Bool) (w : World) (eg : ∀ args w, (callFunc g args).run Tryz.prog w = .ok (.enter g args) w)
    (hc : ∀ r, r < n → w.cell? ⟨b, o + r, none⟩ = some (V r)) (hp : PredOn g l n V p w) (hn : n ≤ 10000) :
    Calls Tryz.prog 161 #[.slice (some ⟨b, o, none⟩) n cap, .func (.func g) #[] #[l]] w fun e w' => ∃ y : Bool, e = .returned (.bool y) ∧ (y = true ↔ ∃ r, r < n ∧ p r = true) ∧ Below w.heap.size w w' := by
  go_enter Tryz.func161, Tryz.ntmps161
  go_wp2_with fail
  refine (indexF_any g b o n cap l V p w eg hc hp hn).mono ?_
  rintro e w1 ⟨i, rfl, hi, hb⟩
  clear hc hp
  go_wp2_with fail
  go_ret
  refine ⟨_, rfl, ?_, hb⟩
  rcases hi with ⟨rfl, h⟩ | ⟨r, hr, rfl, h, _⟩
  · exact ⟨fun e => absurd e (by decide), fun ⟨r, hr, he⟩ => by rw [h r hr] at he; exact absurd he (by decide)⟩
  · exact ⟨fun _ => ⟨r, hr, h⟩, fun _ => by simp⟩

/-- A matrix that came in, right or not: n rows, row r of L r bytes. -/
structure Arg (w : World) (v : Value) (n : Nat) (L : Nat → Nat) (f : Nat → Nat → Nat) : Prop where
  bd : Gf.Bd2 f
  lies : ∃ (A : Option Addr) (cap : Nat) (R : Nat → Option Addr) (C : Nat → Nat), v = .slice A n cap ∧
    ∀ r, r < n → ∃ b o, A = some ⟨b, o, none⟩ ∧ w.cell? ⟨b, o + r, none⟩ = some (.slice (R r) (L r) (C r)) ∧ ∀ k, k < L r → ∃ b' o', R r = some ⟨b', o', none⟩ ∧ w.cell? ⟨b', o' + k, none⟩ = some (.int .u8 (f r k : Nat))

theorem Arg.below {w w' : World} {v : Value} {n : Nat} {L : Nat → Nat} {f : Nat → Nat → Nat} (h : Arg w v n L f) (hb : Below w.heap.size w w') : Arg w' v n L f := by
  obtain ⟨A, cap, R, C, hv, hr⟩ := h.lies
  refine ⟨h.bd, A, cap, R, C, hv, fun r hrn => ?_⟩
  obtain ⟨b, o, h1, h2, h3⟩ := hr r hrn
  refine ⟨b, o, h1, by rw [hb.cell (p := ⟨b, o + r, none⟩) (World.block_lt_of_cell? _ _ h2)]; exact h2, fun k hk => ?_⟩
  obtain ⟨b', o', h4, h5⟩ := h3 k hk
  exact ⟨b', o', h4, by rw [hb.cell (p := ⟨b', o' + k, none⟩) (World.block_lt_of_cell? _ _ h5)]; exact h5⟩

/-- What Wrong tells. -/
def wrongE (n : Nat) (L : Nat → Nat) : Nat := if n < 1 ∨ 12 < n ∨ L 0 < 1 ∨ 400 < L 0 then 5 else if ∀ r, r < n → L r = L 0 then 0 else 2
theorem wrongE_zero {n : Nat} {L : Nat → Nat} (h : wrongE n L = 0) : 1 ≤ n ∧ n ≤ 12 ∧ 1 ≤ L 0 ∧ L 0 ≤ 400 ∧ ∀ r, r < n → L r = L 0 := by
  unfold wrongE at h
  split at h
  · cases h
  · split at h
    · rename_i h1 h2
      exact ⟨by omega, by omega, by omega, by omega, h2⟩
    · cases h
theorem wrongE_ok {n : Nat} {L : Nat → Nat} (h1 : 1 ≤ n) (h2 : n ≤ 12) (h3 : 1 ≤ L 0) (h4 : L 0 ≤ 400) (h5 : ∀ r, r < n → L r = L 0) : wrongE n L = 0 := by
  unfold wrongE
  rw [if_neg (by omega), if_pos h5]

set_option maxHeartbeats 400000 in
theorem otherLen_any (A : Option Addr) (l c B m : Nat) (w : World) (hc : w.cell? ⟨B, 0, none⟩ = some (.int .i64 (m : Int))) :
    Calls Tryz.prog 160 #[.slice A l c, .pointer (some ⟨B, 0, none⟩)] w fun e w' => e = .returned (.bool (decide (l ≠ m))) ∧ Below w.heap.size w w' := by
  by_cases h : l = m
  · subst h
    have H : Hid (decide (l ≠ l) = false) := by show decide (l ≠ l) = false; simp
    go_enter Tryz.func160, Tryz.ntmps160
    go_wp2_with fail
    go_ret
    exact ⟨ret_bool H.out.symm, Below.refl _ _⟩
  · have H : Hid (decide (l ≠ m) = true) := by show decide (l ≠ m) = true; simpa using h
    have h' : ((l : Int) == (m : Int)) = false := by rw [beq_eq_false_iff_ne]; omega
    clear h
    go_enter Tryz.func160, Tryz.ntmps160
    go_wp2_with fail
    go_ret
    exact ⟨ret_bool (by rw [H.out]; simp [bne, h']), Below.refl _ _⟩

theorem Tryz.enters_otherLen : ∀ args w, (callFunc 160 args).run Tryz.prog w = .ok (.enter 160 args) w := enters_of Tryz.func160 (by kernel_rfl) rfl

set_option maxHeartbeats 1000000 in
theorem wrong_any (v : Value) (n : Nat) (L : Nat → Nat) (f : Nat → Nat → Nat) (w : World) (h : Arg w v n L f) :
    Calls Tryz.prog 136 #[v] w fun e w' => e = .returned (.int .i64 (wrongE n L : Nat)) ∧ Below w.heap.size w w' := by
  obtain ⟨A, cap, R, C, rfl, hr⟩ := h.lies
  clear h
  by_cases h1 : n < 1
  · have H : Hid (wrongE n L = 5) := by show wrongE n L = 5; unfold wrongE; rw [if_pos (Or.inl h1)]
    have h1' : (n : Int) < 1 := by omega
    clear hr h1
    go_enter Tryz.func136, Tryz.ntmps136
    go_wp2_with fail
    go_ret
    exact ⟨ret_int (by rw [H.out]; rfl), Below.refl _ _⟩
  by_cases h2 : 12 < n
  · have H : Hid (wrongE n L = 5) := by show wrongE n L = 5; unfold wrongE; rw [if_pos (Or.inr (Or.inl h2))]
    have h1' : ¬ (n : Int) < 1 := by omega
    have h2' : (12 : Int) < (n : Int) := by omega
    clear hr h1 h2
    go_enter Tryz.func136, Tryz.ntmps136
    go_wp2_with fail
    go_ret
    exact ⟨ret_int (by rw [H.out]; rfl), Below.refl _ _⟩
  obtain ⟨b, o, rfl, hc0, _⟩ := hr 0 (by omega)
  have hc : ∀ r, r < n → w.cell? ⟨b, o + r, none⟩ = some (.slice (R r) (L r) (C r)) := fun r hrn => by
    obtain ⟨b', o', e1, e2, _⟩ := hr r hrn
    cases e1
    exact e2
  clear hr
  have hb0 := World.block_lt_of_cell? _ _ hc0
  have h1' : ¬ (n : Int) < 1 := by omega
  have h2' : ¬ (12 : Int) < (n : Int) := by omega
  have h0' : (0 : Int) < (n : Int) := by omega
  have hc0' : w.cell? ⟨b, o, none⟩ = some (.slice (R 0) (L 0) (C 0)) := by simpa using hc0
  clear hc0
  by_cases h3 : L 0 < 1
  · have H : Hid (wrongE n L = 5) := by show wrongE n L = 5; unfold wrongE; rw [if_pos (Or.inr (Or.inr (Or.inl h3)))]
    have h3' : (L 0 : Int) < 1 := by omega
    clear h1 h2 h3 hc
    go_enter Tryz.func136, Tryz.ntmps136
    go_wp2_with fail
    go_ret
    exact ⟨ret_int (by rw [H.out]; rfl), (Below.refl _ _).alloc (Nat.le_refl _) _⟩
  by_cases h4 : 400 < L 0
  · have H : Hid (wrongE n L = 5) := by show wrongE n L = 5; unfold wrongE; rw [if_pos (Or.inr (Or.inr (Or.inr h4)))]
    have h3' : ¬ (L 0 : Int) < 1 := by omega
    have h4' : (400 : Int) < (L 0 : Int) := by omega
    clear h1 h2 h3 h4 hc
    go_enter Tryz.func136, Tryz.ntmps136
    go_wp2_with fail
    go_ret
    exact ⟨ret_int (by rw [H.out]; rfl), (Below.refl _ _).alloc (Nat.le_refl _) _⟩
  have h3' : ¬ (L 0 : Int) < 1 := by omega
  have h4' : ¬ (400 : Int) < (L 0 : Int) := by omega
  have hn : n ≤ 10000 := by omega
  have HL : Hid (¬ (n < 1 ∨ 12 < n ∨ L 0 < 1 ∨ 400 < L 0)) := by show ¬ _; omega
  have HC : Hid (∀ r, r < n → w.cell? ⟨b, o + r, none⟩ = some (.slice (R r) (L r) (C r))) := hc
  clear h1 h2 h3 h4 hc
  go_enter Tryz.func136, Tryz.ntmps136
  go_wp2_with fail
  refine (containsF_any 160 b o n cap _ (fun r => .slice (R r) (L r) (C r)) (fun r => decide (L r ≠ L 0)) _ Tryz.enters_otherLen ?_ ?_ hn).mono ?_
  · intro r hr
    exact (((Below.refl w.heap.size w).alloc (Nat.le_refl _) _).cell (p := ⟨b, o + r, none⟩) hb0).trans (HC.out r hr)
  · intro r hr W hW
    refine otherLen_any (R r) (L r) (C r) w.heap.size (L 0) W ?_
    rw [hW.cell (p := ⟨w.heap.size, 0, none⟩) (by simp)]
    simp
  rintro e w1 ⟨y, rfl, hy, hb1⟩
  have hbz : Below w.heap.size w w1 := ((Below.refl w.heap.size w).alloc (Nat.le_refl _) _).trans (hb1.mono (by simp))
  cases y with
  | true =>
    have H : Hid (wrongE n L = 2) := by
      obtain ⟨r, hr, he⟩ := hy.1 rfl
      show wrongE n L = 2
      unfold wrongE
      rw [if_neg HL.out, if_neg (fun h => of_decide_eq_true he (h r hr))]
    clear hy
    go_wp2_with fail
    go_ret
    exact ⟨ret_int (by rw [H.out]; rfl), hbz⟩
  | false =>
    have H : Hid (wrongE n L = 0) := by
      show wrongE n L = 0
      unfold wrongE
      rw [if_neg HL.out, if_pos (fun r hr => Classical.byContradiction fun hne => absurd (hy.2 ⟨r, hr, decide_eq_true hne⟩) (by decide))]
    clear hy
    go_wp2_with fail
    go_ret
    exact ⟨ret_int (by rw [H.out]; rfl), hbz⟩

end Go.Proofs.YtmcaejooaaahdaaGreat

namespace Go.Proofs.YtmcaejooaaahdaaGreat
open Go.RowKit

theorem Tryz.infoRow : (Tryz.prog.info? 59).map (fun i => (i.zero, i.size, i.bytes)) = some (some (.slice none 0 0), 1, 24) := by kernel_rfl

/-- The rows of a matrix, the first r of them made. -/
def topTo (r cols : Nat) (G : Nat → Nat) (i : Nat) : Value := if i < r then .slice (some ⟨G i, 0, none⟩) cols cols else .slice none 0 0
def updG (G : Nat → Nat) (r g i : Nat) : Nat := if i = r then g else G i

structure Part (w : World) (b rows cols r : Nat) (G : Nat → Nat) (f : Nat → Nat → Nat) : Prop where
  top : w.rowIs b 59 rows (topTo r cols G)
  row : ∀ i, i < r → w.rowIs (G i) 5 cols (fun k => .int .u8 (f i k : Nat))
  low : ∀ i, i < r → b < G i
  inj : ∀ i j, i < r → j < r → i ≠ j → G i ≠ G j

structure Fill (w : World) (b rows cols r j : Nat) (G : Nat → Nat) (f : Nat → Nat → Nat) : Prop where
  top : w.rowIs b 59 rows (topTo (r + 1) cols G)
  row : ∀ i, i < r → w.rowIs (G i) 5 cols (fun k => .int .u8 (f i k : Nat))
  cur : w.rowIs (G r) 5 cols (fun k => .int .u8 (upto j (f r) (fun _ => 0) k : Nat))
  low : ∀ i, i < r + 1 → b < G i
  inj : ∀ i j, i < r + 1 → j < r + 1 → i ≠ j → G i ≠ G j

theorem part_start (w : World) (rows cols : Nat) (G : Nat → Nat) (f : Nat → Nat → Nat) : Part (w.alloc (.cells (madeCells #[.slice none 0 0] rows) 59)) w.heap.size rows cols 0 G f :=
  ⟨(World.rowIs_made w _ rows 59).congr (fun j _ => by unfold topTo; rw [if_neg (Nat.not_lt_zero _)]), fun i hi => absurd hi (Nat.not_lt_zero _), fun i hi => absurd hi (Nat.not_lt_zero _), fun i _ hi => absurd hi (Nat.not_lt_zero _)⟩

theorem fill_start {w : World} {b rows cols r : Nat} {G : Nat → Nat} {f : Nat → Nat → Nat} (h : Part w b rows cols r G f) :
    Fill ((w.setCell ⟨b, r, none⟩ (.slice (some ⟨w.heap.size, 0, none⟩) cols cols)).alloc (.cells (madeCells #[.int .u8 0] cols) 5)) b rows cols r 0 (updG G r w.heap.size) f := by
  have hnew := World.rowIs_made (w.setCell ⟨b, r, none⟩ (.slice (some ⟨w.heap.size, 0, none⟩) cols cols)) (.int .u8 0) cols 5
  rw [Deep.nblk_setCell] at hnew
  have hbs := h.top.lt
  have e1 : ∀ i, i < r → updG G r w.heap.size i = G i := fun i hi => if_neg (by omega)
  have e2 : updG G r w.heap.size r = w.heap.size := if_pos rfl
  refine ⟨((h.top.set r _).alloc _).congr (fun j _ => ?_), fun i hi => ?_, ?_, fun i hi => ?_, fun i j hi hj hne => ?_⟩
  · unfold topTo
    by_cases e : j = r
    · subst e
      rw [if_pos rfl, if_pos (by omega), e2]
    · rw [if_neg e]
      by_cases hlt : j < r
      · rw [if_pos hlt, if_pos (by omega), e1 j hlt]
      · rw [if_neg hlt, if_neg (by omega)]
  · rw [e1 i hi]
    exact ((h.row i hi).setOther (by have := h.low i hi; show G i ≠ b; omega) _).alloc _
  · rw [e2]
    exact hnew.congr (fun k _ => by show _ = Value.int .u8 ((upto 0 (f r) (fun _ => 0) k : Nat) : Int); unfold upto; rw [if_neg (Nat.not_lt_zero _)]; rfl)
  · by_cases e : i = r
    · rw [e, e2]
      exact hbs
    · rw [e1 i (by omega)]
      exact h.low i (by omega)
  · by_cases ei : i = r
    · rw [ei, e2, e1 j (by omega)]
      have := (h.row j (by omega)).lt
      omega
    · by_cases ej : j = r
      · rw [ej, e2, e1 i (by omega)]
        have := (h.row i (by omega)).lt
        omega
      · rw [e1 i (by omega), e1 j (by omega)]
        exact h.inj i j (by omega) (by omega) hne

theorem Fill.below {w w' : World} {b rows cols r j : Nat} {G : Nat → Nat} {f : Nat → Nat → Nat} (h : Fill w b rows cols r j G f) (hb : Below w.heap.size w w') : Fill w' b rows cols r j G f :=
  ⟨rowIs_below h.top hb, fun i hi => rowIs_below (h.row i hi) hb, rowIs_below h.cur hb, h.low, h.inj⟩
theorem Fill.drew {w : World} {b rows cols r j : Nat} {G : Nat → Nat} {f : Nat → Nat → Nat} (h : Fill w b rows cols r j G f) : Fill w.drew b rows cols r j G f := ⟨h.top, h.row, h.cur, h.low, h.inj⟩
theorem fill_step {w : World} {b rows cols r j : Nat} {G : Nat → Nat} {f : Nat → Nat → Nat} (h : Fill w b rows cols r j G f) : Fill (w.setCell ⟨G r, j, none⟩ (.int .u8 (f r j : Nat))) b rows cols r (j + 1) G f :=
  ⟨h.top.setOther (by have := h.low r (by omega); show b ≠ G r; omega) _, fun i hi => (h.row i hi).setOther (h.inj i r (by omega) (by omega) (by omega)) _, row_step h.cur, h.low, h.inj⟩
theorem fill_done {w : World} {b rows cols r : Nat} {G : Nat → Nat} {f : Nat → Nat → Nat} (h : Fill w b rows cols r cols G f) : Part w b rows cols (r + 1) G f :=
  ⟨h.top, fun i hi => by
    by_cases e : i = r
    · rw [e]
      exact h.cur.congr (fun k hk => by rw [show upto cols (f r) (fun _ => 0) k = f r k from if_pos hk])
    · exact h.row i (by omega), h.low, h.inj⟩
theorem part_own {w : World} {b rows cols : Nat} {G : Nat → Nat} {f : Nat → Nat → Nat} (h : Part w b rows cols rows G f) : Own w b b rows cols G f :=
  ⟨h.top.congr (fun i hi => if_pos hi), h.row, Nat.le_refl _, fun r hr => Nat.le_of_lt (h.low r hr), fun r hr => by have := h.low r hr; omega, h.inj⟩

/-- A function of two numbers that tells the bytes of a matrix. -/
def CellOn (g : Nat) (lb : Array Value) (rows cols : Nat) (f : Nat → Nat → Nat) (w : World) : Prop :=
  ∀ i, i < rows → ∀ j, j < cols → ∀ W, Below w.heap.size w W → Calls Tryz.prog g (#[.int .i64 (i : Int), .int .i64 (j : Int)] ++ lb) W fun e w' => e = .returned (.int .u8 (f i j : Nat)) ∧ Below W.heap.size W w'

set_option maxHeartbeats 4000000 in
theorem filled_any (g rows cols : Nat) (lb : Array Value) (f : Nat → Nat → Nat) (w : World) (eg : ∀ args w, (callFunc g args).run Tryz.prog w = .ok (.enter g args) w)
    (hcell : CellOn g lb rows cols f w) (hr : rows ≤ 1000) (hc : cols ≤ 1000) :
    Calls Tryz.prog 162 #[.int .i64 (rows : Int), .int .i64 (cols : Int), .func (.func g) #[] lb] w fun e w' =>
      e = .returned (.slice (some ⟨w.heap.size, 0, none⟩) rows rows) ∧ (∃ G, Own w' w.heap.size w.heap.size rows cols G f) ∧ Below w.heap.size w w' := by
  have hmk1 := run_make_row' (P := Tryz.prog) 169 59 (.slice none 0 0) 24 Tryz.underlying169 Tryz.infoRow rfl .i64 .i64 rows (by omega) (by omega)
  have hmk2 := run_make_row' (P := Tryz.prog) 59 5 (.int .u8 0) 1 Tryz.underlying59 Tryz.infoByte rfl .i64 .i64 cols (by omega) (by omega)
  go_enter Tryz.func162, Tryz.ntmps162
  go_wp2_with fail
  clear hmk1
  go_loopw [14] (fun i wr => ∃ r : Nat, r ≤ rows ∧ i = .int .i64 r ∧ (∃ G, Part wr w.heap.size rows cols r G f) ∧ Below w.heap.size w wr) (fun i _ => rows - (intOf i).toNat)
  case atStart => exact ⟨0, Nat.zero_le _, rfl, ⟨fun _ => 0, part_start w rows cols _ f⟩, (Below.refl _ _).alloc (Nat.le_refl _) _⟩
  case round =>
    obtain ⟨r, hrr, rfl, ⟨G, hp⟩, hb⟩ := hrel
    by_cases hlt : r < rows
    · have hlt' : (r : Int) < (rows : Int) := by omega
      have hfz := hp.top.frozen r
      have hct := hp.top.cell hlt
      have hbl := hp.top.lt
      obtain ⟨wo, rfl⟩ : ∃ x, x = wr := ⟨wr, rfl⟩
      have HF := fill_start hp
      obtain ⟨G', hG'⟩ : ∃ G', G' = updG G r wo.heap.size := ⟨_, rfl⟩
      rw [← hG'] at HF
      clear hp hG'
      go_wp2_with fail
      clear hfz hct hmk2
      go_loopw [27] (fun i wi => ∃ j : Nat, j ≤ cols ∧ i = .int .i64 j ∧ Fill wi w.heap.size rows cols r j G' f ∧ Below w.heap.size w wi) (fun i _ => cols - (intOf i).toNat)
      case atStart => exact ⟨0, Nat.zero_le _, rfl, HF, (hb.setCell (p := ⟨w.heap.size, r, none⟩) (Nat.le_refl _) _).alloc (by rw [Deep.nblk_setCell]; exact hb.size) _⟩
      case round =>
        obtain ⟨j, hjj, rfl, hF, hbi⟩ := hrel
        clear HF
        by_cases hj : j < cols
        · have hj' : (j : Int) < (cols : Int) := by omega
          have hct := hF.top.cell hlt
          rw [show topTo (r + 1) cols G' r = .slice (some ⟨G' r, 0, none⟩) cols cols from if_pos (by omega)] at hct
          have hcl := hcell r hlt j hj _ hbi.drew
          go_wp2_with fail
          go_region_with (go_at_fn g; refine hcl.mono ?_; rintro e w1 ⟨rfl, hb1⟩; have hF1 := hF.drew.below hb1; have hct1 := hF1.top.cell hlt; rw [show topTo (r + 1) cols G' r = .slice (some ⟨G' r, 0, none⟩) cols cols from if_pos (by omega)] at hct1; have hcc := hF1.cur.cell hj; have hcf := hF1.cur.frozen j)
          all_goals go_wp2_with fail
          all_goals exact ⟨⟨j + 1, by omega, by go_num, fill_step hF1, (hbi.drew.trans (hb1.mono hbi.size)).setCell (Nat.le_of_lt (hF1.low r (by omega))) _⟩, by simp [intOf]; omega⟩
        · have e9 : j = cols := by omega
          subst e9
          go_wp2_with fail
          exact ⟨⟨r + 1, by omega, by go_num, ⟨_, fill_done hF⟩, hbi⟩, by simp [intOf]; omega⟩
    · have e8 : r = rows := by omega
      subst e8
      clear hmk2
      go_wp2_with fail
      go_ret
      exact ⟨rfl, ⟨G, part_own hp⟩, hb⟩

end Go.Proofs.YtmcaejooaaahdaaGreat

namespace Go.Proofs.YtmcaejooaaahdaaGreat
open Go.RowKit

/-- A right matrix: n rows of c bytes, its bytes told by f. -/
structure Mx (w : World) (v : Value) (n c : Nat) (f : Nat → Nat → Nat) : Prop where
  bd : Gf.Bd2 f
  dim : 1 ≤ n ∧ n ≤ 12 ∧ 1 ≤ c ∧ c ≤ 400
  lies : ∃ (b o cap : Nat) (G O K : Nat → Nat), v = .slice (some ⟨b, o, none⟩) n cap ∧ MatAt w b o n c G O K f

theorem Mx.below {w w' : World} {v : Value} {n c : Nat} {f : Nat → Nat → Nat} (h : Mx w v n c f) (hb : Below w.heap.size w w') : Mx w' v n c f := by
  obtain ⟨b, o, cap, G, O, K, hv, hm⟩ := h.lies
  exact ⟨h.bd, h.dim, b, o, cap, G, O, K, hv, hm.below hb⟩
theorem Mx.arg {w : World} {v : Value} {n c : Nat} {f : Nat → Nat → Nat} (h : Mx w v n c f) : Arg w v n (fun _ => c) f := by
  obtain ⟨b, o, cap, G, O, K, hv, hm⟩ := h.lies
  exact ⟨h.bd, some ⟨b, o, none⟩, cap, fun r => some ⟨G r, O r, none⟩, K, hv, fun r hr => ⟨b, o, rfl, hm.top r hr, fun k hk => ⟨G r, O r, rfl, hm.row r hr k hk⟩⟩⟩
theorem Mx.ok {w : World} {v : Value} {n c : Nat} {f : Nat → Nat → Nat} (h : Mx w v n c f) : wrongE n (fun _ => c) = 0 :=
  wrongE_ok h.dim.1 h.dim.2.1 h.dim.2.2.1 h.dim.2.2.2 (fun _ _ => rfl)
theorem Arg.mx {w : World} {v : Value} {n : Nat} {L : Nat → Nat} {f : Nat → Nat → Nat} (h : Arg w v n L f) (h0 : wrongE n L = 0) : Mx w v n (L 0) f := by
  obtain ⟨d1, d2, d3, d4, d5⟩ := wrongE_zero h0
  obtain ⟨A, cap, R, C, hv, hr⟩ := h.lies
  obtain ⟨b, o, rfl, _, _⟩ := hr 0 (by omega)
  have each : ∀ r, r < n → ∃ x : Nat × Nat, R r = some ⟨x.1, x.2, none⟩ ∧ w.cell? ⟨b, o + r, none⟩ = some (.slice (R r) (L 0) (C r)) ∧ ∀ k, k < L 0 → w.cell? ⟨x.1, x.2 + k, none⟩ = some (.int .u8 (f r k : Nat)) := fun r hrn => by
    obtain ⟨b', o', e1, e2, e3⟩ := hr r hrn
    cases e1
    rw [d5 r hrn] at e2 e3
    obtain ⟨b2, o2, e4, _⟩ := e3 0 (by omega)
    refine ⟨(b2, o2), e4, e2, fun k hk => ?_⟩
    obtain ⟨b3, o3, e5, e6⟩ := e3 k hk
    rw [e4] at e5
    cases e5
    exact e6
  obtain ⟨x, hx⟩ := Deep.choose_lt each
  refine ⟨h.bd, ⟨d1, d2, d3, d4⟩, b, o, cap, fun r => (x r).1, fun r => (x r).2, C, hv, fun r hrn => ?_, fun r hrn => (hx r hrn).2.2⟩
  rw [(hx r hrn).2.1, (hx r hrn).1]
theorem Own.mx {w : World} {N b n c : Nat} {G : Nat → Nat} {f : Nat → Nat → Nat} (h : Own w N b n c G f) (bd : Gf.Bd2 f) (dim : 1 ≤ n ∧ n ≤ 12 ∧ 1 ≤ c ∧ c ≤ 400) : Mx w (.slice (some ⟨b, 0, none⟩) n n) n c f :=
  ⟨bd, dim, b, 0, n, G, _, _, rfl, h.mat⟩

theorem Tryz.enters_cellOne : ∀ args w, (callFunc 170 args).run Tryz.prog w = .ok (.enter 170 args) w := enters_of Tryz.func170 (by kernel_rfl) rfl

set_option maxHeartbeats 400000 in
theorem one_own (n : Nat) (w : World) (h1 : 1 ≤ n) (h2 : n ≤ 12) :
    Calls Tryz.prog 158 #[.int .i64 (n : Int)] w fun e w' => e = .returned (.tuple #[.slice (some ⟨w.heap.size, 0, none⟩) n n, .int .i64 0]) ∧ (∃ G, Own w' w.heap.size w.heap.size n n G Gf.one) ∧ Below w.heap.size w w' := by
  have h1' : ¬ (n : Int) < 1 := by omega
  have h2' : ¬ (12 : Int) < (n : Int) := by omega
  go_enter Tryz.func158, Tryz.ntmps158
  go_wp2_with fail
  refine (filled_any 170 n n #[] Gf.one _ Tryz.enters_cellOne (fun i _ j _ W _ => by simpa using cellOne_any i j W) (by omega) (by omega)).mono ?_
  rintro e w1 ⟨rfl, ho, hb⟩
  go_wp2_with fail
  go_ret2
  exact ⟨rfl, ho, hb⟩
set_option maxHeartbeats 1000000 in
theorem mulCell_any (i j Ba Bb : Nat) (ba oa na pa ca bb ob nb pb cb : Nat) (Ga Oa Ka Gb Ob Kb : Nat → Nat) (fa fb : Nat → Nat → Nat) (w : World)
    (ha : w.cell? ⟨Ba, 0, none⟩ = some (.slice (some ⟨ba, oa, none⟩) na pa)) (hb : w.cell? ⟨Bb, 0, none⟩ = some (.slice (some ⟨bb, ob, none⟩) nb pb))
    (hma : MatAt w ba oa na ca Ga Oa Ka fa) (hmb : MatAt w bb ob nb cb Gb Ob Kb fb) (hbda : Gf.Bd2 fa) (hbdb : Gf.Bd2 fb) (hab : ca = nb) (hi : i < na) (hj : j < cb) (hca : ca ≤ 1000) :
    Calls Tryz.prog 163 #[.int .i64 (i : Int), .int .i64 (j : Int), .pointer (some ⟨Ba, 0, none⟩), .pointer (some ⟨Bb, 0, none⟩)] w fun e w' => e = .returned (.int .u8 (Gf.mm ca fa fb i j : Nat)) ∧ Below w.heap.size w w' := by
  subst hab
  have hti := hma.top i hi
  have hi' : (i : Int) < (na : Int) := by omega
  have hj' : (j : Int) < (cb : Int) := by omega
  have la := World.block_lt_of_cell? _ _ ha
  have lb := World.block_lt_of_cell? _ _ hb
  go_enter Tryz.func163, Tryz.ntmps163
  go_wp2_with fail
  go_loopw [7, 15] (fun s x wr => ∃ k : Nat, k ≤ ca ∧ x = .int .i64 k ∧ s = .int .u8 (Gf.dot k (fa i) (fun l => fb l j) : Nat) ∧ Below w.heap.size w wr) (fun _ x _ => ca - (intOf x).toNat)
  case atStart => exact ⟨0, Nat.zero_le _, rfl, rfl, Below.refl _ _⟩
  case round =>
    obtain ⟨k, hk, rfl, rfl, hbr⟩ := hrel
    by_cases hlt : k < ca
    · have hlt' : (k : Int) < (ca : Int) := by omega
      have hmar := hma.below hbr
      have hmbr := hmb.below hbr
      have r1 := hmar.row i hi k hlt
      have r2 := hmbr.top k hlt
      have r3 := hmbr.row k hlt j hj
      have r4 := (hbr.cell (p := ⟨Bb, 0, none⟩) lb).trans hb
      have hxor := xor_nat (Gf.dot_lt (hbda i) (fun l => fb l j) k) (Gf.mul_lt (fb k j) (hbda i k))
      have HS : Hid (Gf.dot k (fa i) (fun l => fb l j) ^^^ Gf.mul (fa i k) (fb k j) = Gf.dot (k + 1) (fa i) (fun l => fb l j)) := rfl
      clear hmar hmbr ha hb hti
      go_wp2_with fail
      refine (mul_nat _ _ _ (hbda i k) (hbdb k j)).mono ?_
      rintro e w1 ⟨rfl, hb1⟩
      go_wp2_with fail
      exact ⟨⟨k + 1, by omega, by go_num, val_int (by rw [HS.out]), hbr.trans (hb1.mono hbr.size)⟩, by simp [intOf]; omega⟩
    · have e8 : k = ca := by omega
      subst e8
      go_wp2_with fail
      go_ret
      exact ⟨rfl, hbr⟩

end Go.Proofs.YtmcaejooaaahdaaGreat
