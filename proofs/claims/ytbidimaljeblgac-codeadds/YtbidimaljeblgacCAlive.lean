/-
  What the statements' own alive does, of shards: it answers true.
-/
import Derived.Test.YtbidimaljeblgacCGood
namespace Go.Proofs.Ytbidimaljeblgac
open Go.RowKit

/-- Shards that are those of D are mended to be so. -/
theorem mended {n N : Nat} {L : Nat → Nat} {f D r : Nat → Nat → Nat} (hD : Gf.Bd2 D) (hr : Gf.Bd2 r) (hu : Gf.Und n (fun p => Gf.rowF n (thr L N p)) r) {k : Nat} (h : ∀ p, p < n → f (thr L N p) k = Gf.mm n (Gf.rowF n) D (thr L N p) k) (i : Nat) :
    Gf.mm n (Gf.rowF n) (Gf.mm n r (fun p => f (thr L N p))) i k = Gf.mm n (Gf.rowF n) D i k := by
  refine Gf.mm_congr (fun _ _ => rfl) (fun j hj => ?_)
  have e := Gf.und_data (m := fun p => Gf.rowF n (thr L N p)) (fun p => Gf.rowF_bd n _) hr hD hu j k hj
  refine Eq.trans (Gf.mm_congr (fun _ _ => rfl) (fun p hp => ?_)) e
  exact h p hp
/-- Shards that are those of D are good ones. -/
theorem good_of_all {n N : Nat} {L : Nat → Nat} {f D : Nat → Nat → Nat} (hD : Gf.Bd2 D) (h0 : wrongC n ((N : Int) - n) = 0) (h1 : wrongE N L = 0) (h : ∀ i, i < N → ∀ k, k < L 0 → f i k = Gf.mm n (Gf.rowF n) D i k) (hn : n ≤ N) : GoodP n N L f := by
  refine ⟨h0, h1, fun i _ hi k hk => ?_⟩
  show Gf.mm n (Gf.rowF n) f i k = f i k
  rw [h i hi k hk]
  refine Gf.mm_congr (fun _ _ => rfl) (fun j hj => ?_)
  rw [h j (by omega) k hk, allF_data hD hj]

/-- One byte a row, two rows. -/
def f21 (a b i _j : Nat) : Nat := if i = 0 then a else b
theorem f21_bd {a b : Nat} (ha : a < 256) (hb : b < 256) : Gf.Bd2 (f21 a b) := fun i j => by
  unfold f21
  split <;> assumption
theorem lit21 (w : World) (a b : Nat) (ha : a < 256) (hb : b < 256) :
    Mx (((w.alloc (.cells #[.int .u8 (a : Int)] 5)).alloc (.cells #[.int .u8 (b : Int)] 5)).alloc (.cells #[.slice (some ⟨w.heap.size, 0, none⟩) 1 1, .slice (some ⟨w.heap.size + 1, 0, none⟩) 1 1] 24))
      (.slice (some ⟨w.heap.size + 2, 0, none⟩) 2 2) 2 1 (f21 a b) := by
  refine ⟨f21_bd ha hb, by decide, w.heap.size + 2, 0, 2, fun r => w.heap.size + r, fun _ => 0, fun _ => 1, rfl, fun r hr => ?_, fun r hr k hk => ?_⟩
  · match r, hr with
    | 0, _ => go_simp
    | 1, _ => go_simp
  · match r, hr, k, hk with
    | 0, _, 0, _ => go_simp; rfl
    | 1, _, 0, _ => go_simp; rfl
theorem lit11 (w : World) (a : Nat) (ha : a < 256) :
    Mx ((w.alloc (.cells #[.int .u8 (a : Int)] 5)).alloc (.cells #[.slice (some ⟨w.heap.size, 0, none⟩) 1 1] 24)) (.slice (some ⟨w.heap.size + 1, 0, none⟩) 1 1) 1 1 (f21 a a) := by
  refine ⟨f21_bd ha ha, by decide, w.heap.size + 1, 0, 1, fun r => w.heap.size + r, fun _ => 0, fun _ => 1, rfl, fun r hr => ?_, fun r hr k hk => ?_⟩
  · match r, hr with
    | 0, _ => go_simp
  · match r, hr, k, hk with
    | 0, _, 0, _ => go_simp; rfl

/-- Of three shards the middle one is gone. -/
def L3 (i : Nat) : Nat := if i = 1 then 0 else 1
def f3 (i k : Nat) : Nat := if i = 0 then 7 else if i = 2 then Gf.mm 2 (spareF 2) (f21 7 9) 0 k else 0
theorem f3_bd : Gf.Bd2 f3 := fun i k => by
  unfold f3
  split
  · decide
  · split
    · exact Gf.mm_lt (spareF_bd 2) 2 _ 0 k
    · decide
theorem thr3 (p : Nat) (hp : p < 2) (k : Nat) : f3 (thr L3 3 p) k = Gf.mm 2 (Gf.rowF 2) (f21 7 9) (thr L3 3 p) k := by
  match p, hp with
  | 0, _ =>
    rw [show thr L3 3 0 = 0 by decide, allF_data (f21_bd (by decide) (by decide)) (by decide)]
    rfl
  | 1, _ =>
    rw [show thr L3 3 1 = 2 by decide]
    rfl
theorem arg3 {w : World} {N b : Nat} {G : Nat → Nat} (ho : Own w N b 1 1 G (Gf.mm 2 (spareF 2) (f21 7 9))) :
    Arg ((w.alloc (.cells #[.int .u8 7] 5)).alloc (.cells #[.slice (some ⟨w.heap.size, 0, none⟩) 1 1, .slice none 0 0, .slice (some ⟨G 0, 0, none⟩) 1 1] 24)) (.slice (some ⟨w.heap.size + 1, 0, none⟩) 3 3) 3 L3 f3 := by
  have hr := ho.row 0 (by decide)
  have hlt := hr.lt
  have hc := hr.cell (show 0 < 1 by decide)
  refine ⟨f3_bd, some ⟨w.heap.size + 1, 0, none⟩, 3, fun r => if r = 0 then some ⟨w.heap.size, 0, none⟩ else if r = 1 then none else some ⟨G 0, 0, none⟩, fun r => if r = 1 then 0 else 1, rfl, fun r hr => ⟨w.heap.size + 1, 0, rfl, ?_, fun k hk => ?_⟩⟩
  · match r, hr with
    | 0, _ => go_simp; rfl
    | 1, _ => go_simp; rfl
    | 2, _ => go_simp; rfl
  · match r, hr, k, hk with
    | 0, _, 0, _ => exact ⟨w.heap.size, 0, rfl, by go_simp; rfl⟩
    | 2, _, 0, _ => exact ⟨G 0, 0, rfl, by go_simp; rfl⟩

set_option maxHeartbeats 1000000 in
theorem alive3_any (w : World) : Calls Try.prog 5 #[] w fun e w' => e = .returned (.bool true) ∧ Below w.heap.size w w' := by
  have m1 := lit21 w 7 9 (by decide) (by decide)
  have b1 := lit_below w (.cells #[.int .u8 ((7 : Nat) : Int)] 5) (.cells #[.int .u8 ((9 : Nat) : Int)] 5) (.cells #[.slice (some ⟨w.heap.size, 0, none⟩) 1 1, .slice (some ⟨w.heap.size + 1, 0, none⟩) 1 1] 24)
  have hS := spare_own _ 2 1 1 _ _ m1 (by decide) (by decide) (by decide)
  clear m1
  go_enter Try.func5, Try.ntmps5
  go_wp2_with fail
  refine hS.mono ?_
  rintro e w1 ⟨b, G, rfl, ho, b2⟩
  have b2 := bt b1 b2
  have t0 := ho.top.cell (show 0 < 1 by decide)
  have lb := ho.top.lt
  clear hS b1
  go_wp2_with fail
  have hbX : Below w1.heap.size w1 ((w1.alloc (.cells #[.int .u8 7] 5)).alloc (.cells #[.slice (some ⟨w1.heap.size, 0, none⟩) 1 1, .slice none 0 0, .slice (some ⟨G 0, 0, none⟩) 1 1] 24)) := ((Below.refl _ _).alloc (Nat.le_refl _) _).alloc (by simp) _
  have hM := mendO _ 3 L3 f3 2 _ (arg3 ho) (by decide)
  have b2 := bt b2 hbX
  rw [show mendE 2 3 L3 = 0 by decide, show L3 (thr L3 3 0) = 1 by decide] at hM
  clear hbX ho t0 lb
  refine hM.mono ?_
  rintro e w2 ⟨v, r, rfl, hcap, hu, hout, b3⟩
  have b3 := bt b2 b3
  obtain ⟨hr, hu⟩ := hu rfl
  rcases hout with ⟨_, mx⟩ | ⟨h, _⟩
  · have hF : ∀ i k, Gf.mm 2 (Gf.rowF 2) (Gf.mm 2 r (fun p => f3 (thr L3 3 p))) i k = Gf.mm 2 (Gf.rowF 2) (f21 7 9) i k := fun i k => mended (f21_bd (by decide) (by decide)) hr hu (fun p hp => thr3 p hp k) i
    have mx : Mx w2 v 3 1 (Gf.mm 2 (Gf.rowF 2) (Gf.mm 2 r (fun p => f3 (thr L3 3 p)))) := mx
    have hG : GoodP 2 3 (fun _ => 1) (Gf.mm 2 (Gf.rowF 2) (Gf.mm 2 r (fun p => f3 (thr L3 3 p)))) := good_of_all (n := 2) (f21_bd (a := 7) (b := 9) (by decide) (by decide)) (by decide) mx.ok (fun i _ k _ => hF i k) (by decide)
    have h9 : Gf.mm 2 (Gf.rowF 2) (Gf.mm 2 r (fun p => f3 (thr L3 3 p))) 1 0 = 9 := by
      rw [hF, allF_data (f21_bd (by decide) (by decide)) (by decide)]
      rfl
    generalize Gf.mm 2 (Gf.rowF 2) (Gf.mm 2 r (fun p => f3 (thr L3 3 p))) = F at mx hG h9
    have HG : Hid (GoodP 2 3 (fun _ => 1) F) := hG
    have H9 : Hid (F 1 0 = 9) := h9
    have HGO := fun w' hb' => goodO v 3 (fun _ => 1) F 2 w' (mx.below (w' := w') hb').arg hcap (by decide)
    obtain ⟨bm, om, cap, Gm, Om, Km, rfl, hm⟩ := mx.lies
    obtain ⟨_, _, _, hv, hcap⟩ := hcap
    cases hv
    have bdF := mx.bd
    have m2 : Mx w2 (.slice (some ⟨bm, om + 1, none⟩) 1 (cap - 1)) 1 1 (fun i => F (1 + i)) := by
      refine ⟨fun i => bdF (1 + i), by decide, bm, om + 1, cap - 1, fun i => Gm (1 + i), fun i => Om (1 + i), fun i => Km (1 + i), rfl, fun i hi => ?_, fun i hi k hk => hm.row (1 + i) (by omega) k hk⟩
      rw [Nat.add_assoc]
      exact hm.top (1 + i) (by omega)
    have hc2 : (2 : Int) ≤ (cap : Int) := by omega
    have hc1 : ¬ cap = 1 := by omega
    clear hF hG h9 hM hu hr mx hm b2
    go_wp2_with fail
    have hbY : Below w2.heap.size w2 ((w2.alloc (.cells #[.int .u8 ((9 : Nat) : Int)] 5)).alloc (.cells #[.slice (some ⟨w2.heap.size, 0, none⟩) 1 1] 24)) := ((Below.refl _ _).alloc (Nat.le_refl _) _).alloc (by simp) _
    refine (same_any _ _ 1 1 (fun i => F (1 + i)) (f21 9 9) _ (m2.below hbY) (lit11 w2 9 (by decide)) (fun i hi k hk => ?_)).mono ?_
    · match i, hi, k, hk with
      | 0, _, 0, _ => exact H9.out
    rintro e w3 ⟨rfl, b4⟩
    have b4 := bt hbY b4
    have hgo := HGO _ b4
    have b4 := bt b3 b4
    clear HGO hbY m2 b3
    go_wp2_with fail
    refine hgo.mono ?_
    rintro e w4 ⟨⟨y, rfl, hy⟩, b5⟩
    have b5 := bt b4 b5
    have hy' : y = true := hy.2 HG.out
    subst hy'
    clear hy hgo
    go_wp2_with fail
    go_ret
    exact ⟨rfl, b5⟩
  · omega

end Go.Proofs.Ytbidimaljeblgac
