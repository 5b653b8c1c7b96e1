/-
  Texts of the proof, joined: KSide, KLoseW, KSpoiltP.
-/
import Derived.Test.YtleekmmoanlpfaaGreatZ49
import Derived.Test.YtleekmmoanlpfaaGreatZ48
namespace Go.Proofs.YtleekmmoanlpfaaGreat
open Go.RowKit

/-- A list beside it: its elements' type and size, how many, its cells. -/
structure Sd where
  v : Value
  e : TypeId
  sz : Nat
  n : Nat
  us : List Value
structure SdIn (W w : World) (v : Value) (qs : List DoC) (x : Sd) : Prop where
  own : w.ownsRow W.heap.size x.e x.sz x.v x.n x.us
  ins : ∀ q, q ∈ qs → DoG w x.v q
  ne : ∀ g, x.v.ownBlock = some g → v.ownBlock ≠ some g
structure LS (W w : World) (v : Value) (qs : List DoC) (xs : List Sd) : Prop where
  ld : LD W w v qs
  sd : ∀ x, x ∈ xs → SdIn W w v qs x
  dis : xs.Pairwise fun x y => ∀ g, x.v.ownBlock = some g → y.v.ownBlock ≠ some g
theorem LS.below {W w w' : World} {v : Value} {qs : List DoC} {xs : List Sd} (h : LS W w v qs xs) (hb : Below w.heap.size w w') : LS W w' v qs xs :=
  ⟨h.ld.below hb, fun x hx => ⟨owns_below (h.sd x hx).own hb, fun q hq => ((h.sd x hx).ins q hq).below hb, (h.sd x hx).ne⟩, h.dis⟩
theorem LS.head {W w : World} {v : Value} {qs : List DoC} {x : Sd} {xs : List Sd} (h : LS W w v qs (x :: xs)) : SdIn W w v qs x := h.sd x List.mem_cons_self
/-- Another list begins, with nothing. -/
theorem LS.nil {W w : World} {v : Value} {qs : List DoC} {xs : List Sd} (h : LS W w v qs xs) (e : TypeId) (sz : Nat) : LS W w v qs (⟨.slice none 0 0, e, sz, 0, []⟩ :: xs) := by
  refine ⟨h.ld, fun x hx => ?_, List.pairwise_cons.2 ⟨fun y _ g hg => (by cases hg), h.dis⟩⟩
  rcases List.mem_cons.1 hx with rfl | hx
  · refine ⟨World.ownsRow_nil _ _ _ _, fun q hq => ?_, fun g hg => (by cases hg)⟩
    have := h.ld.ins q hq
    exact ⟨this.str, this.name, this.byte, this.evs.imp id fun ⟨p, ts, h1, h2, h3⟩ => ⟨p, ts, h1, ⟨h2.row, by simp [Value.ownBlock]⟩, h3⟩⟩
  · exact h.sd x hx
/-- Another list begins, with a literal. -/
theorem LS.lit {W w : World} {v : Value} {qs : List DoC} {xs : List Sd} (h : LS W w v qs xs) (e : TypeId) (sz n : Nat) (us : List Value) (hn : us.length = n * sz) (hl : n ≤ 1000) : LS W (w.alloc (.cells us.toArray e)) v qs (⟨.slice (some ⟨w.heap.size, 0, none⟩) n n, e, sz, n, us⟩ :: xs) := by
  have bA : Below w.heap.size w (w.alloc (.cells us.toArray e)) := (Below.refl _ _).alloc (Nat.le_refl _) _
  have h1 := h.below bA
  refine ⟨h1.ld, fun x hx => ?_, List.pairwise_cons.2 ⟨fun y hy g hg z => ?_, h.dis⟩⟩
  · rcases List.mem_cons.1 hx with rfl | hx
    · refine ⟨World.ownsRow_lit (e := e) (size := sz) w us.toArray n h.ld.bel.size (by unfold maxLen; omega) (by rw [List.size_toArray, hn]), fun q hq => (h.ld.ins q hq).turn fun g t u z => td_new z.row _ n n rfl, fun g hg z => ?_⟩
      have hg : some w.heap.size = some g := hg
      cases hg
      have := (h.ld.rd.own.lt _ z).2
      omega
    · exact h1.sd x hx
  · have hg : some w.heap.size = some g := hg
    cases hg
    have := ((h.sd y hy).own.lt _ z).2
    omega
/-- More come behind the list. -/
theorem app_ls {W w : World} {v : Value} {qs : List DoC} {xs : List Sd} (h : LS W w v qs xs) (ys : List DoC) (n : Nat) (hn : ys.length = n) (hl : qs.length + n ≤ 1000) (hy : ∀ q, q ∈ ys → DoG w v q) (hz : ∀ x, x ∈ xs → ∀ q, q ∈ ys → DoG w x.v q) :
    ∃ v' w', (Builtin.append_ #[34, 34] 34 #[v, .slice (some ⟨w.heap.size, 0, none⟩) n n]).run Tryz.prog (w.alloc (.cells (ys.flatMap doC).toArray 29)) = .ok v' w' ∧ LS W w' v' (qs ++ ys) xs := by
  obtain ⟨v', w', hr, hL, ho, hb⟩ := app_ld h.ld ys n hn hl hy
  refine ⟨v', w', hr, hL, fun x hx => ?_, h.dis⟩
  obtain ⟨h1, h2, h3⟩ := h.sd x hx
  have hne : ∀ g, x.v.ownBlock = some g → v'.ownBlock ≠ some g := fun g hg z => by
    rcases hb with q | q
    · rw [q] at z
      exact h3 g hg z
    · have := q g z
      have := (h1.lt g hg).2
      omega
  refine ⟨owns_off h1 ho h3, fun q hq => ?_, hne⟩
  have hd : DoG w x.v q := by
    rcases List.mem_append.1 hq with z | z
    · exact h2 q z
    · exact hz x hx q z
  have hd2 : DoG w v q := by
    rcases List.mem_append.1 hq with z | z
    · exact h.ld.ins q z
    · exact hy q z
  refine ⟨hd.str, hd.name, hd.byte, hd2.evs.imp id fun ⟨p, ts, z1, z2, z3⟩ => ⟨p, ts, z1, ⟨RowC.of_block z2.row (ho.block p (RowC.lt z2.row) z2.ne), ?_⟩, z3⟩⟩
  rcases hd.evs with ⟨y1, _⟩ | ⟨p', ts', y1, y2, _⟩
  · rw [y1] at z1
    cases z1
  · rw [y1] at z1
    have z1 := (Value.slice.inj z1).1
    cases z1
    exact y2.ne
/-- More come behind the list beside it. -/
theorem app_sd {W w : World} {v : Value} {qs : List DoC} {x : Sd} {xs : List Sd} (h : LS W w v qs (x :: xs)) (t : TypeId) (z : Value) (bytes : Nat) (ht : Tryz.prog.underlying t = some (.slice x.e)) (hin : (Tryz.prog.info? x.e).map (fun i => (i.zero, i.size, i.bytes)) = some (some z, x.sz, bytes)) (hzs : z.cells.size = x.sz) (hsz : 0 < x.sz) (hby : bytes ≤ 1000) (us : List Value) (n : Nat) (hn : us.length = n * x.sz) (h1 : ∀ u, u ∈ us → u.oneCell' = true) (hl : x.n + n ≤ 1000) :
    ∃ v' w', (Builtin.append_ #[t, t] t #[x.v, .slice (some ⟨w.heap.size, 0, none⟩) n n]).run Tryz.prog (w.alloc (.cells us.toArray x.e)) = .ok v' w' ∧ LS W w' v qs (⟨v', x.e, x.sz, x.n + n, x.us ++ us⟩ :: xs) := by
  obtain ⟨i0, hi, hh⟩ := Option.map_eq_some_iff.1 hin
  simp only [Prod.mk.injEq] at hh
  obtain ⟨hz0, hz1, hz2⟩ := hh
  have bA : Below w.heap.size w (w.alloc (.cells us.toArray x.e)) := (Below.refl _ _).alloc (Nat.le_refl _) _
  have hR := h.below bA
  have hc := varN_new w us.toArray x.e
  have hO := hR.head.own
  have hm : (x.n + n) * bytes ≤ 1000 * 1000 := Nat.mul_le_mul hl hby
  obtain ⟨v', w', hr, h2, h3, _, h5⟩ := run_append_own_at (P := Tryz.prog) (w.alloc (.cells us.toArray x.e)) W.heap.size t t x.e i0 _ x.sz bytes ht hi hz0 hz1 hz2 hzs hsz x.v x.n _ hO ⟨w.heap.size, 0, none⟩ n n us hn (fun j u hj => by
    rw [WideShapes.add_plain, Nat.zero_add]
    exact hc.cell hj) h1 (by unfold maxLen; omega) (by omega) hR.ld.bel.size
  have hof : Off (fun k => x.v.ownBlock = some k) w w' := (Off.of_below bA).trans (off_of_grown h3)
  have hvb : v'.ownBlock = x.v.ownBlock ∨ ∀ g, v'.ownBlock = some g → w.heap.size ≤ g := h5.imp id fun z g hg => by
    rw [z] at hg
    cases hg
    exact bA.size
  have hfar : ∀ u : Value, (∀ g, x.v.ownBlock = some g → u.ownBlock ≠ some g) → (∀ g, u.ownBlock = some g → g < w.heap.size) → ∀ g, v'.ownBlock = some g → u.ownBlock ≠ some g := fun u hu hl g hg z => by
    rcases hvb with q | q
    · rw [q] at hg
      exact hu g hg z
    · have := q g hg
      have := hl g z
      omega
  have hdo : ∀ (u : Value) q, q ∈ qs → DoG w u q → DoG w' u q := fun u q hq hu => by
    refine ⟨hu.str, hu.name, hu.byte, ?_⟩
    rcases (h.head.ins q hq).evs with z | ⟨p, ts, z1, z2, z3⟩
    · exact Or.inl z
    · refine Or.inr ⟨p, ts, z1, ⟨RowC.of_block z2.row (hof.block p (RowC.lt z2.row) z2.ne), ?_⟩, z3⟩
      rcases hu.evs with ⟨y1, _⟩ | ⟨p', ts', y1, y2, _⟩
      · rw [y1] at z1
        cases z1
      · rw [y1] at z1
        have z1 := (Value.slice.inj z1).1
        cases z1
        exact y2.ne
  obtain ⟨d1, d2⟩ := List.pairwise_cons.1 h.dis
  refine ⟨v', w', hr, ⟨⟨⟨hR.ld.bel.grown h3 hR.ld.bel.size (fun y hy => (hO.lt y hy).1), owns_off h.ld.rd.own hof (fun g hg z => h.head.ne g z hg)⟩, fun q hq => hdo v q hq (h.ld.ins q hq)⟩, fun y hy => ?_, List.pairwise_cons.2 ⟨fun y hy => hfar y.v (d1 y hy) fun g hg => ((h.sd y (List.mem_cons_of_mem _ hy)).own.lt g hg).2, d2⟩⟩⟩
  rcases List.mem_cons.1 hy with rfl | hy
  · refine ⟨h2, fun q hq => (h.head.ins q hq).turn (off_td hof hvb), ?_⟩
    exact hfar v h.head.ne fun g hg => (h.ld.rd.own.lt g hg).2
  · obtain ⟨y1, y2, y3⟩ := h.sd y (List.mem_cons_of_mem _ hy)
    exact ⟨owns_off y1 hof (fun g hg z => d1 y hy g z hg), fun q hq => hdo y.v q hq (y2 q hq), y3⟩

end Go.Proofs.YtleekmmoanlpfaaGreat

namespace Go.Proofs.YtleekmmoanlpfaaGreat
open Go.RowKit

/-- The events that are wanted, as their cells have them. -/
def wantT (Z : Nat → Int) : Nat → List EvT
  | 0 => [(⟨#[97]⟩, 1, 0)]
  | k + 1 => wantT Z k ++ [(⟨#[97]⟩, 2, Z k)]
theorem wantT_len (Z : Nat → Int) : ∀ k, (wantT Z k).length = k + 1
  | 0 => rfl
  | k + 1 => by
    rw [wantT, List.length_append, wantT_len Z k]
    rfl
theorem wantT_evs (Z : Nat → Int) : ∀ k, (wantT Z k).map etE = evsA Z k
  | 0 => (et_a 1 0).symm
  | k + 1 => by
    rw [wantT, List.map_append, wantT_evs Z k, ← et_a]
    rfl
theorem wantT_size (Z : Nat → Int) : ∀ k t, t ∈ wantT Z k → t.1.size ≤ 10
  | 0, t, h => by
    rw [List.mem_singleton.1 h]
    exact show (⟨#[97]⟩ : ByteArray).size ≤ 10 by decide
  | k + 1, t, h => by
    rcases List.mem_append.1 h with q | q
    · exact wantT_size Z k t q
    · rw [List.mem_singleton.1 q]
      exact show (⟨#[97]⟩ : ByteArray).size ≤ 10 by decide
theorem evs_row {w : World} {N : Nat} {v : Value} {n : Nat} {ts : List EvT} (hn : n = ts.length) (h : w.ownsRow N 32 3 v n (ts.flatMap etC)) (hs : ∀ t, t ∈ ts → t.1.size ≤ 10) : Evs w v (ts.map etE) := by
  subst hn
  obtain ⟨A, C, hv, h1, h2, h3⟩ := row_shape h
  refine ⟨A, C, by rw [List.length_map]; exact hv, by rw [List.length_map]; exact h1, h2, fun i e he => ?_⟩
  rw [List.getElem?_map] at he
  obtain ⟨t, ht, rfl⟩ := Option.map_eq_some_iff.1 he
  obtain ⟨g, rfl⟩ := h3 (by have := (List.getElem?_eq_some_iff.1 ht).1; omega)
  have hc : ∀ j u, (etC t)[j]? = some u → w.cell? ⟨g, 0 + i * 3 + j, none⟩ = some u := fun j u hj => by
    rw [Nat.zero_add]
    exact row_cell (f := etC) h (fun _ _ => rfl) (g := g) (by rw [hv]; rfl) ht hj
  exact ⟨g, 0, rfl, t.1, by have := hs t (List.mem_of_getElem? ht); omega, rfl, hc 0 _ rfl, hc 1 _ rfl, hc 2 _ rfl⟩
theorem row_at {w : World} {N : Nat} {t : TypeId} {z : Nat} {v : Value} {n : Nat} {us : List Value} (h : w.ownsRow N t z v n us) {g : Nat} (hg : v.ownBlock = some g) {i : Nat} {u : Value} (hi : us[i]? = some u) : w.cell? ⟨g, i, none⟩ = some u := by
  have := h.cells hg i u hi
  rw [WideShapes.add_plain, Nat.zero_add] at this
  exact this
theorem map_do : ∀ ds : List Sto.Do, (ds.map fun d => ((d, .slice none 0 0, ByteArray.empty) : DoC)).map (fun q => q.1) = ds
  | [] => rfl
  | d :: r => congrArg (d :: ·) (map_do r)
/-- Where all is read. -/
def atN (s m i : Nat) : Nat := if i < 2 then m + 1 + i * (2 * s + 2) + s else m + 1 + 2 * (2 * s + 2)
def atC (s m o : Nat) : List Value := (List.range o).map fun i => .int .i64 (atN s m i : Int)
theorem atC_next (s m o : Nat) : atC s m (o + 1) = atC s m o ++ [.int .i64 (atN s m o : Int)] := by
  unfold atC
  rw [List.range_succ, List.map_append]
  rfl
theorem atC_at {s m o i : Nat} (h : i < o) : (atC s m o)[i]? = some (.int .i64 (atN s m i : Int)) := by
  unfold atC
  rw [List.getElem?_map, List.getElem?_range h]
  rfl
theorem atN_lt (s m : Nat) (hs : s ≤ 4) (i : Nat) (h : i < 3) : atN s m i < m + 3 + 2 * (2 * s + 2) := by
  unfold atN
  have : i = 0 ∨ i = 1 ∨ i = 2 := by omega
  rcases this with rfl | rfl | rfl
  · rw [if_pos (by decide)]; omega
  · rw [if_pos (by decide)]; omega
  · rw [if_neg (by decide)]; omega
def two (f g : Nat) (o : Nat) : Nat := if o = 0 then f else g
theorem Tryz.infoI8 : (Tryz.prog.info? 3).map (fun i => (i.zero, i.size, i.bytes)) = some (some (.int .i64 0), 1, 8) := by kernel_rfl
/-- Loop by loop. -/
def Lo1 (w wr : World) (Z : Nat → Int) (v g : Value) (k : Nat) : Prop := (∃ qs, LS w wr v qs [⟨g, 32, 3, k + 1, (wantT Z k).flatMap etC⟩] ∧ qs.map (fun q => q.1) = putsA Z k) ∧ ∀ j, j < k → 0 ≤ Z j ∧ Z j ≤ 1000000
/-- Rounds; l2: what the list of two is; g: what is wanted. -/
def Lo2 (w wr : World) (c : Sto.Cfg) (Z : Nat → Int) (m f1 f2 : Nat) (v at_ l2 g : Value) (o : Nat) (more : List Sto.Do) : Prop := ∃ qs, LS w wr v qs [⟨at_, 3, 1, o, atC c.s m o⟩, ⟨l2, 3, 1, 2, [.int .i64 (f1 : Int), .int .i64 (f2 : Int)]⟩, ⟨g, 32, 3, m + 1, (wantT Z m).flatMap etC⟩] ∧ qs.map (fun q => q.1) = more
theorem Lo2.len {w wr : World} {c : Sto.Cfg} {Z : Nat → Int} {m f1 f2 : Nat} {v at_ l2 g : Value} {o : Nat} {more : List Sto.Do} (h : Lo2 w wr c Z m f1 f2 v at_ l2 g o more) : ∃ A C, v = .slice A more.length C ∧ more.length ≤ C ∧ C ≤ maxLen := by
  obtain ⟨qs, h1, h2⟩ := h
  obtain ⟨A, C, h3, h4, h5⟩ := h1.ld.shape
  have : qs.length = more.length := by rw [← h2, List.length_map]
  rw [this] at h3 h4
  exact ⟨A, C, h3, h4, h5⟩
theorem Lo2.bel {w wr : World} {c : Sto.Cfg} {Z : Nat → Int} {m f1 f2 : Nat} {v at_ l2 g : Value} {o : Nat} {more : List Sto.Do} (h : Lo2 w wr c Z m f1 f2 v at_ l2 g o more) : Below w.heap.size w wr := by
  obtain ⟨qs, h1, h2⟩ := h
  exact h1.ld.bel
theorem Lo2.two {w wr : World} {c : Sto.Cfg} {Z : Nat → Int} {m f1 f2 : Nat} {v at_ l2 g : Value} {o : Nat} {more : List Sto.Do} (h : Lo2 w wr c Z m f1 f2 v at_ l2 g o more) {i : Nat} (hi : i < 2) : ∃ b, ∃ C, l2 = .slice (some ⟨b, 0, none⟩) 2 C ∧ 2 ≤ C ∧ C ≤ maxLen ∧ wr.cell? ⟨b, i, none⟩ = some (.int .i64 (Go.Proofs.YtleekmmoanlpfaaGreat.two f1 f2 i : Int)) := by
  obtain ⟨qs, h1, h2⟩ := h
  have hO := (h1.sd ⟨l2, 3, 1, 2, [.int .i64 (f1 : Int), .int .i64 (f2 : Int)]⟩ (by simp)).own
  obtain ⟨A, C, hv, a1, a2, a3⟩ := row_shape hO
  obtain ⟨b, rfl⟩ := a3 (show 1 ≤ 2 by decide)
  refine ⟨b, C, hv, a1, a2, ?_⟩
  refine row_at hO (g := b) (by show l2.ownBlock = some b; rw [show l2 = _ from hv]; rfl) ?_
  have : i = 0 ∨ i = 1 := by omega
  rcases this with rfl | rfl
  · rfl
  · rfl
/-- Things without events come behind it. -/
theorem Lo2.app {w wr : World} {c : Sto.Cfg} {Z : Nat → Int} {m f1 f2 : Nat} {v at_ l2 g : Value} {o : Nat} {more : List Sto.Do} (h : Lo2 w wr c Z m f1 f2 v at_ l2 g o more) (ds : List Sto.Do) (n : Nat) (hn : ds.length = n) (hl : more.length + n ≤ 1000) (hd : ∀ d, d ∈ ds → d.name = [] ∧ d.turn < 256 ∧ d.bat.evs = []) :
    ∃ v' w', (Builtin.append_ #[34, 34] 34 #[v, .slice (some ⟨wr.heap.size, 0, none⟩) n n]).run Tryz.prog (wr.alloc (.cells ((ds.map fun d => ((d, .slice none 0 0, ByteArray.empty) : DoC)).flatMap doC).toArray 29)) = .ok v' w' ∧ Lo2 w w' c Z m f1 f2 v' at_ l2 g o (more ++ ds) := by
  obtain ⟨qs, h1, h2⟩ := h
  have hql : qs.length = more.length := by rw [← h2, List.length_map]
  have hg : ∀ u q, q ∈ ds.map (fun d => ((d, .slice none 0 0, ByteArray.empty) : DoC)) → DoG wr u q := fun u q hq => by
    obtain ⟨d, hd', rfl⟩ := List.mem_map.1 hq
    obtain ⟨a, b, e⟩ := hd d hd'
    exact doG_plain _ _ _ a b e
  obtain ⟨v', w', hr, hL⟩ := app_ls h1 (ds.map fun d => (d, .slice none 0 0, ByteArray.empty)) n (by rw [List.length_map]; exact hn) (by omega) (hg _) (fun x _ => hg _)
  refine ⟨v', w', hr, _, hL, ?_⟩
  rw [List.map_append, h2, map_do]
/-- A place more. -/
theorem Lo2.at_ {w wr : World} {c : Sto.Cfg} {Z : Nat → Int} {m f1 f2 : Nat} {v at_ l2 g : Value} {o : Nat} {more : List Sto.Do} (h : Lo2 w wr c Z m f1 f2 v at_ l2 g o more) (N : Nat) (hN : atN c.s m o = N) (ho : o ≤ 3) :
    ∃ v' w', (Builtin.append_ #[22, 22] 22 #[at_, .slice (some ⟨wr.heap.size, 0, none⟩) 1 1]).run Tryz.prog (wr.alloc (.cells #[.int .i64 (N : Int)] 3)) = .ok v' w' ∧ Lo2 w w' c Z m f1 f2 v v' l2 g (o + 1) more := by
  obtain ⟨qs, h1, h2⟩ := h
  obtain ⟨v', w', hr, hL⟩ := app_sd h1 22 (.int .i64 0) 8 Tryz.underlying22 Tryz.infoI8 rfl Nat.one_pos (by decide) [.int .i64 (N : Int)] 1 rfl (by simp [Value.oneCell']) (by show o + 1 ≤ 1000; omega)
  refine ⟨v', w', hr, qs, ?_, h2⟩
  rw [atC_next, hN]
  exact hL

end Go.Proofs.YtleekmmoanlpfaaGreat

namespace Go.Proofs.YtleekmmoanlpfaaGreat
open Go.RowKit

/-- Byte p of disk i's block is turned by y. -/
abbrev dSpoil (i p y : Nat) : Sto.Do := ⟨7, (i : Int), 0, (p : Int), y, ⟨0, []⟩, [], 0⟩
def spoils (n f p y : Nat) : Nat → List Sto.Do
  | 0 => []
  | k + 1 => spoils n f p y k ++ [dSpoil ((f % n + k) % n) p y]
theorem spoils_len (n f p y : Nat) : ∀ k, (spoils n f p y k).length = k
  | 0 => rfl
  | k + 1 => by
    rw [spoils, List.length_append, spoils_len n f p y k]
    rfl
def spoiltL (c : Sto.Cfg) (f p y k : Nat) : List Sto.Do := dPut 1 [evT1, evAdd 5] :: spoils (c.d + c.s) f p y k
theorem spoiltL_len (c : Sto.Cfg) (f p y k : Nat) : (spoiltL c f p y k).length = k + 1 := by
  rw [spoiltL, List.length_cons, spoils_len]
section
variable {X : Sto.Six} {c : Sto.Cfg}
/-- Of the one segment's blocks those that M strikes have one byte turned. -/
structure SpS (X : Sto.Six) (c : Sto.Cfg) (s : Sto.St) (l : List Evt.Bat) (L : List (List Nat)) (M : Nat → Bool) : Prop where
  segs : s.segs = 1
  tail : s.tail = []
  dl : s.disks.length = c.d + c.s
  wr : (Evt.wrongL l).1 = 0
  byt : Evt.Bytes (Evt.encL l)
  lay : X.lay (Evt.encL l) 0 c = (0, L)
  at_ : ∀ (i : Nat) (d : Sto.Disk), s.disks[i]? = some d → d.gone = false ∧ Sto.Up d.bl ∧ (∀ h, h ∈ d.bl → 0 ≤ h.1 ∧ h.1 < 1) ∧ (M i = false → Sto.pickB 0 d.bl [] = L.getD i []) ∧ (M i = true → Sto.Turned (Sto.pickB 0 d.bl []) (L.getD i []))
theorem turned_ne {a b : List Nat} (h : Sto.Turned a b) : a ≠ b := by
  obtain ⟨p, y, h1, h2, h3, rfl⟩ := h
  intro e
  have h4 := congrArg (fun z => z.getD p 0) e
  have h4 : (b.set p (b.getD p 0 ^^^ y)).getD p 0 = b.getD p 0 := h4
  rw [List.getD_eq_getElem?_getD, List.getElem?_set_self h1] at h4
  have h4 : b.getD p 0 ^^^ y = b.getD p 0 := h4
  have h5 : b.getD p 0 ^^^ (b.getD p 0 ^^^ y) = b.getD p 0 ^^^ b.getD p 0 := by rw [h4]
  rw [← Nat.xor_assoc, Nat.xor_self, Nat.zero_xor] at h5
  omega
theorem SpS.hurts {s : Sto.St} {l : List Evt.Bat} {L : List (List Nat)} {M : Nat → Bool} (h : SpS X c s l L M) : Sto.Hurts X c (Sto.blocks s.disks (0 : Nat)) (Evt.encL l) 0 L :=
  ⟨h.lay, h.byt, by rw [Sto.blocks, List.length_map, h.dl], fun i hi => by
    obtain ⟨d, hd⟩ : ∃ d, s.disks[i]? = some d := ⟨s.disks[i]'(by rw [h.dl]; exact hi), List.getElem?_eq_getElem _⟩
    obtain ⟨g, _, _, h1, h2⟩ := h.at_ i d hd
    rw [Sto.blocks_at hd, g, if_neg (by decide)]
    cases q : M i with
    | false => exact Or.inr (Or.inl (h1 q))
    | true => exact Or.inr (Or.inr (h2 q))⟩
theorem SpS.bad {s : Sto.St} {l : List Evt.Bat} {L : List (List Nat)} {M : Nat → Bool} (hg : Sto.Good X c) (h : SpS X c s l L M) : X.bad (Sto.blocks s.disks (0 : Nat)) 0 = (List.range (c.d + c.s)).filter M := by
  rw [hg.bad h.hurts]
  refine List.filter_congr fun i hi => ?_
  obtain ⟨d, hd⟩ : ∃ d, s.disks[i]? = some d := ⟨s.disks[i]'(by rw [h.dl]; exact List.mem_range.1 hi), List.getElem?_eq_getElem _⟩
  obtain ⟨g, _, _, h1, h2⟩ := h.at_ i d hd
  rw [Sto.blocks_at hd, g, if_neg (by decide)]
  cases q : M i with
  | false => exact decide_eq_false fun z => z (h1 q)
  | true => exact decide_eq_true (turned_ne (h2 q))
theorem SpS.spoil {s : Sto.St} {l : List Evt.Bat} {L : List (List Nat)} {M : Nat → Bool} (hX : Sto.SixOk X) (h : SpS X c s l L M) {i p y : Nat} (hi : i < c.d + c.s) (hp : p ≤ 11) (h1 : 1 ≤ y) (h2 : y < 256) (hm : M i = false) : SpS X c (Sto.step X c s (dSpoil i p y)).1 l L (lose i M) := by
  have e : Sto.step X c s (dSpoil i p y) = Sto.harm s (dSpoil i p y) := by
    unfold Sto.step
    rw [if_neg (show ¬ (7 : Int) = 1 by decide), if_neg (show ¬ ((7 : Int) = 2 ∨ (7 : Int) = 3 ∨ (7 : Int) = 4) by decide), if_pos (Or.inr (Or.inr rfl))]
  have hid : i < s.disks.length := by rw [h.dl]; exact hi
  obtain ⟨x, hx⟩ : ∃ x, s.disks[i]? = some x := ⟨s.disks[i], List.getElem?_eq_getElem hid⟩
  obtain ⟨g, u1, u2, a1, _⟩ := h.at_ i x hx
  have a1 := a1 hm
  have hlen : 12 ≤ (L.getD i []).length := by
    have hl := h.lay
    rw [hX.lay] at hl
    obtain ⟨⟨q1, _⟩, _, q3⟩ := Sto.layX_inv hl
    rw [q3 i hi, Sto.bl_length]
    have := Seg.layN_pos (Evt.encL l).length c.d q1
    omega
  obtain ⟨b, hb⟩ : ∃ b, x.bl.find? (fun h => decide (h.1 = 0)) = some b := by
    cases q : x.bl.find? (fun h => decide (h.1 = (0 : Int))) with
    | some b => exact ⟨b, rfl⟩
    | none =>
      rw [List.find?_eq_none] at q
      rw [Sto.pickB_none fun b hb => by simpa using q b hb] at a1
      rw [← a1] at hlen
      exact absurd hlen (by decide)
  obtain ⟨f1, f2⟩ := Sto.find_pick u1 hb
  have f1 : L.getD i [] = b.2 := a1.symm.trans f1
  have hn : (dSpoil i p y).n.toNat = i := rfl
  have hst : Sto.step X c s (dSpoil i p y) = ({ s with disks := s.disks.set i ⟨x.gone, Sto.spoil 0 p y x.bl⟩ }, Sto.told 0) := by
    rw [e]
    unfold Sto.harm
    rw [hn, hx]
    dsimp only
    rw [if_neg (show ¬ (i : Int) < 0 by omega), if_neg (show ¬ ((7 : Int) = 5 ∧ x.gone = true) from fun z => absurd z.1 (by decide)), if_neg (show ¬ ((7 : Int) = 5 ∨ (7 : Int) = 6) by decide), hb]
    dsimp only
    rw [if_neg (by rw [← f1]; omega)]
    rfl
  rw [hst]
  refine ⟨h.segs, h.tail, by show (s.disks.set i _).length = _; rw [List.length_set, h.dl], h.wr, h.byt, h.lay, fun j d hd => ?_⟩
  have hd : (s.disks.set i ⟨x.gone, Sto.spoil 0 p y x.bl⟩)[j]? = some d := hd
  by_cases q : j = i
  · subst q
    rw [List.getElem?_set_self hid] at hd
    cases hd
    refine ⟨g, Sto.spoil_up u1, fun z hz => ?_, fun z => ?_, fun _ => ?_⟩
    · have : z.1 ∈ (Sto.spoil 0 p y x.bl).map (·.1) := List.mem_map.2 ⟨z, hz, rfl⟩
      rw [Sto.spoil_keys] at this
      obtain ⟨z', k1, k2⟩ := List.mem_map.1 this
      rw [← k2]
      exact u2 z' k1
    · unfold lose at z
      rw [if_pos rfl] at z
      cases z
    · rw [Sto.pick_spoil u1 (List.mem_of_find?_eq_some hb) f2, f1]
      exact ⟨p, y, by rw [← f1]; omega, h1, h2, rfl⟩
  · rw [List.getElem?_set_ne (fun z => q z.symm)] at hd
    have := h.at_ j d hd
    unfold lose
    rw [if_neg q]
    exact this
theorem spoils_ok (hX : Sto.SixOk X) (h1 : 1 ≤ c.d) {s : Sto.St} {l : List Evt.Bat} {L : List (List Nat)} (h : SpS X c s l L (fun _ => false)) {f p y : Nat} (hp : p ≤ 11) (y1 : 1 ≤ y) (y2 : y < 256) : ∀ k, k ≤ c.s → SpS X c (Sto.steps X c s (spoils (c.d + c.s) f p y k)).1 l L (lostM (c.d + c.s) f k)
  | 0, _ => h
  | k + 1, hk => by
    have hr := spoils_ok hX h1 h hp y1 y2 (f := f) k (by omega)
    rw [spoils, steps_one]
    refine hr.spoil hX (Nat.mod_lt _ (by omega)) hp y1 y2 ?_
    by_cases q : lostM (c.d + c.s) f k ((f % (c.d + c.s) + k) % (c.d + c.s)) = true
    · obtain ⟨j, g1, g2⟩ := lostM_mem _ f k _ q
      have := mod_inj (Nat.mod_lt f (by omega)) (by omega) (by omega) g2
      omega
    · simpa using q
/-- The first batch is on disks. -/
theorem spoilt_start (hX : Sto.SixOk X) (hc : CfgOk c) (hb : c.b = 1) : ∃ l L, SpS X c (Sto.step X c (Sto.start c) (dPut 1 [evT1, evAdd 5])).1 l L (fun _ => false) ∧ Sto.evsOf l = [evT1, evAdd 5] := by
  have hp := PutS.put (evs := [evT1, evAdd 5]) hX hc (ps_start hc) (by decide) (small_two ⟨Nat.le_refl _, by decide⟩ (by decide) (by decide)) (show (Vw.fold 0 [] [evT1, evAdd 5]).1.1 = 0 by decide)
  obtain ⟨BL, i1, i2, i3⟩ := hp.2.1.ok
  obtain ⟨z1, z3⟩ : (Sto.step X c (Sto.start c) (dPut (0 + 1) [evT1, evAdd 5])).1.tail = [] ∧ (Sto.step X c (Sto.start c) (dPut (0 + 1) [evT1, evAdd 5])).1.segs = 1 := by
    rcases hp.2.2.2.2 with ⟨_, z, _⟩ | ⟨z1, _, z3⟩
    · exact absurd (show 1 < c.b from z) (by omega)
    · exact ⟨z1, z3⟩
  have hl : BL.length = 1 := i1.len.trans z3
  obtain ⟨l, rfl⟩ : ∃ l, BL = [l] := List.length_eq_one_iff.1 hl
  obtain ⟨w1, w2, L, w3, _⟩ := i1.ok 0 l rfl
  refine ⟨l, L, ⟨z3, z1, i1.dl, w1, w2, w3, fun i d hd => ?_⟩, ?_⟩
  · obtain ⟨g, hw⟩ := i3 i d hd List.not_mem_nil
    obtain ⟨u1, u2, _⟩ := i1.up i d hd
    rw [z3] at u2
    exact ⟨g, u1, u2, fun _ => hw 0 l L rfl w3, fun z => by cases z⟩
  · rw [z1] at i2
    have i2 : Sto.evsOf (l ++ []) ++ [] = [evT1, evAdd 5] := i2
    rw [List.append_nil, List.append_nil] at i2
    exact i2
theorem spoilt (hX : Sto.SixOk X) (hc : CfgOk c) (hb : c.b = 1) (f : Nat) {p y : Nat} (hp : p ≤ 11) (y1 : 1 ≤ y) (y2 : y < 256) : ∃ a1 a2 a3 a4, (Sto.steps X c (Sto.start c) (spoiltL c f p y c.s ++ [dHealth, dAll, dScrub, dHealth])).2[c.s + 1]? = some a1 ∧ (Sto.steps X c (Sto.start c) (spoiltL c f p y c.s ++ [dHealth, dAll, dScrub, dHealth])).2[c.s + 2]? = some a2 ∧ (Sto.steps X c (Sto.start c) (spoiltL c f p y c.s ++ [dHealth, dAll, dScrub, dHealth])).2[c.s + 3]? = some a3 ∧ (Sto.steps X c (Sto.start c) (spoiltL c f p y c.s ++ [dHealth, dAll, dScrub, dHealth])).2[c.s + 4]? = some a4 ∧ a1.n = (c.s : Int) ∧ a2.err = 0 ∧ a2.evs.length = 2 ∧ a3.n = (c.s : Int) ∧ a4.n = 0 := by
  have hg : Sto.Good X c := Sto.six_good hX
  have hd1 := hc.d1
  obtain ⟨l, L, h0, hev⟩ := spoilt_start hX hc hb
  have hk := spoils_ok hX hc.d1 h0 (f := f) hp y1 y2 c.s (Nat.le_refl _)
  have hst : (Sto.steps X c (Sto.start c) (spoiltL c f p y c.s)).1 = (Sto.steps X c (Sto.step X c (Sto.start c) (dPut 1 [evT1, evAdd 5])).1 (spoils (c.d + c.s) f p y c.s)).1 := rfl
  rw [← hst] at hk
  obtain ⟨s, hs⟩ : ∃ s, s = (Sto.steps X c (Sto.start c) (spoiltL c f p y c.s)).1 := ⟨_, rfl⟩
  rw [← hs] at hk
  have hll : (Sto.steps X c (Sto.start c) (spoiltL c f p y c.s)).2.length = c.s + 1 := (Sto.steps_length ..).trans (spoiltL_len ..)
  have hbad := hk.bad hg
  have hbl : (X.bad (Sto.blocks s.disks (0 : Nat)) 0).length = c.s := by
    rw [hbad, cnt_filter, lostM_cnt (by omega) f _ (by omega)]
  obtain ⟨k1, k2⟩ := hg.kept hk.hurts (Nat.le_of_eq hbl)
  have hth : Sto.there s.disks (X.bad (Sto.blocks s.disks (0 : Nat)) 0) = c.s := by
    unfold Sto.there
    rw [List.filter_eq_self.2 fun i hi => ?_]
    · exact hbl
    · rw [hbad] at hi
      have hi := List.mem_range.1 (List.mem_filter.1 hi).1
      obtain ⟨d, hd⟩ : ∃ d, s.disks[i]? = some d := ⟨s.disks[i]'(by rw [hk.dl]; exact hi), List.getElem?_eq_getElem _⟩
      rw [hd]
      show (!d.gone) = true
      rw [(hk.at_ i d hd).1]
      rfl
  have hall : Sto.all X c s = (0, [evT1, evAdd 5]) := by
    obtain ⟨p1, p2⟩ := Evt.parse_enc hk.wr
    unfold Sto.all
    have e : Sto.allS X c s.disks s.segs 0 [] = (0, [evT1, evAdd 5]) := by
      rw [hk.segs, Sto.allS, k1, if_neg (fun z => z rfl)]
      dsimp only
      rw [if_neg (fun z => z p1), p2, hev]
      rfl
    rw [e, if_neg (fun z => z rfl), hk.tail]
    rfl
  have hsc : (Sto.scrub X c s.segs 0 s.disks 0 0).2.2 = c.s ∧ Sto.health X (Sto.scrub X c s.segs 0 s.disks 0 0).1 s.segs 0 0 = 0 := by
    rw [hk.segs, Sto.scrub]
    by_cases q : X.bad (Sto.blocks s.disks (0 : Nat)) 0 = []
    · rw [if_pos q]
      rw [q] at hbl
      refine ⟨hbl, ?_⟩
      show 0 + (X.bad (Sto.blocks s.disks (0 : Nat)) 0).length = 0
      rw [q]
      rfl
    · rw [if_neg q, k2, if_neg (fun z => z rfl), hth]
      refine ⟨Nat.zero_add _, ?_⟩
      show 0 + (X.bad (Sto.blocks (Sto.write 0 L 0 s.disks) (0 : Nat)) 0).length = 0
      have hn : SpS X c { s with disks := Sto.write 0 L 0 s.disks } l L (fun _ => false) := ⟨hk.segs, hk.tail, by show (Sto.write 0 L 0 s.disks).length = _; rw [Sto.write_length, hk.dl], hk.wr, hk.byt, hk.lay, fun i d hd => by
        have hd : (Sto.write 0 L 0 s.disks)[i]? = some d := hd
        rw [Sto.write_at] at hd
        obtain ⟨e, he, rfl⟩ := Option.map_eq_some_iff.1 hd
        obtain ⟨g, u1, u2, _, _⟩ := hk.at_ i e he
        rw [if_neg (by rw [g]; decide), Nat.zero_add]
        refine ⟨rfl, Sto.ins_sorted u1, fun x hx => ?_, fun _ => Sto.pick_ins u1 [], fun z => by cases z⟩
        rcases Sto.ins_mem u1 hx with rfl | ⟨q, _⟩
        · exact ⟨Int.le_refl _, show (0 : Int) < 1 by decide⟩
        · exact u2 x q⟩
      have := hn.bad hg
      have this : X.bad (Sto.blocks (Sto.write 0 L 0 s.disks) (0 : Nat)) 0 = _ := this
      rw [this]
      simp
  have hh : Sto.health X s.disks s.segs 0 0 = c.s := by
    rw [hk.segs]
    show 0 + (X.bad (Sto.blocks s.disks (0 : Nat)) 0).length = c.s
    rw [hbl]
    omega
  have hfour : (Sto.steps X c (Sto.start c) (spoiltL c f p y c.s ++ [dHealth, dAll, dScrub, dHealth])).2 = (Sto.steps X c (Sto.start c) (spoiltL c f p y c.s)).2 ++ [Sto.told (c.s : Nat), ⟨0, 2, [evT1, evAdd 5], 0, []⟩, ⟨(Sto.scrub X c s.segs 0 s.disks 0 0).2.1, (c.s : Nat), [], 0, []⟩, Sto.told 0] := by
    rw [Sto.steps_append, ← hs]
    show _ ++ (Sto.steps X c s [dHealth, dAll, dScrub, dHealth]).2 = _
    rw [Sto.steps, Sto.steps, Sto.steps, Sto.steps, Sto.steps]
    dsimp only
    rw [stp_health, stp_all, stp_scrub, stp_health, looks_all hall, hh]
    dsimp only
    rw [hsc.1, hsc.2]
    rfl
  rw [hfour]
  refine ⟨Sto.told (c.s : Nat), ⟨0, 2, [evT1, evAdd 5], 0, []⟩, ⟨(Sto.scrub X c s.segs 0 s.disks 0 0).2.1, (c.s : Nat), [], 0, []⟩, Sto.told 0, ?_, ?_, ?_, ?_, rfl, rfl, rfl, rfl, rfl⟩
  · rw [List.getElem?_append_right (by omega), hll, Nat.sub_self]
    rfl
  · rw [List.getElem?_append_right (by omega), hll, show c.s + 2 - (c.s + 1) = 1 by omega]
    rfl
  · rw [List.getElem?_append_right (by omega), hll, show c.s + 3 - (c.s + 1) = 2 by omega]
    rfl
  · rw [List.getElem?_append_right (by omega), hll, show c.s + 4 - (c.s + 1) = 3 by omega]
    rfl
end

end Go.Proofs.YtleekmmoanlpfaaGreat
