/-
  No cell of these rows narrows 'for every input' (looked for: loops, veiled, ifaces, maps, wideKeys, modest, calm, conditions, laid).
  DERIVED. THE GIVEN ROWS OF THIS SEAT. 6 by the template 'for every input the law returns true; each argument reads behind the call as it read before'; 0 by the template 'total and deterministic' (their statements: YtldjieplbeflfaaGreatTotals.lean).
  GIVEN WITH THE SEED: the statements are not yours to turn. If you find one false, say at which input.
  Laid BY PROGRAM, IN A SANDBOX (cutbox-rows.mjs): the forced cells as the released guide's own fill.sh prints them over the translation 5e8bf5143d6bcdec… (all of the seat's roots in one cut). By AI agents, Wed Nov 11 2026. No macro, syntax, notation, axiom, sorry.
-/
import Derived.Test.YtldjieplbeflfaaGreatChecked
import GoSem.Claim
import GoSem.ClaimJoined
import GoSem.ClaimMapViews
import Derived.JoinedTies
import Derived.KernelRfl
namespace Go.Proofs.YtldjieplbeflfaaGreat
/- THE CELL 'sum', in the pinned program and in every row, IS THE sha256 OF THE DUMP (.gsa) THAT YtldjieplbeflfaaGreatProg.lean LOADS. Nothing in Lean hashes anything: it is a label: what it is worth is what the hold of that sum in a sandbox is worth. -/
noncomputable def Tryz.pinned : Pinned := { name := "ytldjieplbeflfaagreat", sum := "5e8bf5143d6bcdec79315183dfb65fb3f71e43f9ea56cb2d8bac85f193b21113", checked := Tryz.checked }
namespace Rows
def none {H : Type} : Left H := { results := [], args := [] }

/-- 'sparelaw8.StoreTruth': WHATEVER THE INPUT: true; the input reads as it did. -/
def storeTruthSpec : ChangeSpec := { name := "storeTruth", fn := fun _ => fun
  | [d1, d2] => { results := [.lit (.bool true)], args := [d1, d2] }
  | _ => none }
def storeTruthRow : OpenClaim := { program := "ytldjieplbeflfaagreat", sum := "5e8bf5143d6bcdec79315183dfb65fb3f71e43f9ea56cb2d8bac85f193b21113", func := "spareparts/sparelaw8.StoreTruth", spec := "storeTruth", inPlace := ["slices.overlaps[spareparts/api.Account]", "slices.overlaps[spareparts/api.Held]", "slices.overlaps[int]"], unfollowed := true, recurses := true, plainKeys := false, apart := false }
def StoreTruthSaid : Prop := storeTruthRow.holds Tryz.pinned (OpenSpec.ofChange storeTruthSpec)

/-- ITS FALSE NEIGHBOUR: 'it returns false'. Refute it at one input. -/
def storeTruthWrong : ChangeSpec := { name := "storeTruth", fn := fun _ => fun
  | [d1, d2] => { results := [.lit (.bool false)], args := [d1, d2] }
  | _ => none }
def StoreTruthWrongFalsely : Prop := storeTruthRow.holds Tryz.pinned (OpenSpec.ofChange storeTruthWrong)

/-- 'sparelaw8.StoreKeeps': WHATEVER THE INPUT: true; the input reads as it did. -/
def storeKeepsSpec : ChangeSpec := { name := "storeKeeps", fn := fun _ => fun
  | [d1, d2] => { results := [.lit (.bool true)], args := [d1, d2] }
  | _ => none }
def storeKeepsRow : OpenClaim := { program := "ytldjieplbeflfaagreat", sum := "5e8bf5143d6bcdec79315183dfb65fb3f71e43f9ea56cb2d8bac85f193b21113", func := "spareparts/sparelaw8.StoreKeeps", spec := "storeKeeps", inPlace := ["slices.overlaps[spareparts/api.Account]", "slices.overlaps[spareparts/api.Held]", "slices.overlaps[int]"], unfollowed := true, recurses := true, plainKeys := false, apart := false }
def StoreKeepsSaid : Prop := storeKeepsRow.holds Tryz.pinned (OpenSpec.ofChange storeKeepsSpec)

/-- ITS FALSE NEIGHBOUR: 'it returns false'. Refute it at one input. -/
def storeKeepsWrong : ChangeSpec := { name := "storeKeeps", fn := fun _ => fun
  | [d1, d2] => { results := [.lit (.bool false)], args := [d1, d2] }
  | _ => none }
def StoreKeepsWrongFalsely : Prop := storeKeepsRow.holds Tryz.pinned (OpenSpec.ofChange storeKeepsWrong)

/-- 'sparelaw8.StoreScrubs': WHATEVER THE INPUT: true; the input reads as it did. -/
def storeScrubsSpec : ChangeSpec := { name := "storeScrubs", fn := fun _ => fun
  | [d1, d2] => { results := [.lit (.bool true)], args := [d1, d2] }
  | _ => none }
def storeScrubsRow : OpenClaim := { program := "ytldjieplbeflfaagreat", sum := "5e8bf5143d6bcdec79315183dfb65fb3f71e43f9ea56cb2d8bac85f193b21113", func := "spareparts/sparelaw8.StoreScrubs", spec := "storeScrubs", inPlace := ["slices.overlaps[spareparts/api.Account]", "slices.overlaps[spareparts/api.Held]", "slices.overlaps[int]"], unfollowed := true, recurses := true, plainKeys := false, apart := false }
def StoreScrubsSaid : Prop := storeScrubsRow.holds Tryz.pinned (OpenSpec.ofChange storeScrubsSpec)

/-- ITS FALSE NEIGHBOUR: 'it returns false'. Refute it at one input. -/
def storeScrubsWrong : ChangeSpec := { name := "storeScrubs", fn := fun _ => fun
  | [d1, d2] => { results := [.lit (.bool false)], args := [d1, d2] }
  | _ => none }
def StoreScrubsWrongFalsely : Prop := storeScrubsRow.holds Tryz.pinned (OpenSpec.ofChange storeScrubsWrong)

/-- 'sparelaw8.StoreOnce': WHATEVER THE INPUT: true; the input reads as it did. -/
def storeOnceSpec : ChangeSpec := { name := "storeOnce", fn := fun _ => fun
  | [d1, d2, d3] => { results := [.lit (.bool true)], args := [d1, d2, d3] }
  | _ => none }
def storeOnceRow : OpenClaim := { program := "ytldjieplbeflfaagreat", sum := "5e8bf5143d6bcdec79315183dfb65fb3f71e43f9ea56cb2d8bac85f193b21113", func := "spareparts/sparelaw8.StoreOnce", spec := "storeOnce", inPlace := ["slices.overlaps[spareparts/api.Account]", "slices.overlaps[spareparts/api.Held]", "slices.overlaps[int]"], unfollowed := true, recurses := true, plainKeys := false, apart := false }
def StoreOnceSaid : Prop := storeOnceRow.holds Tryz.pinned (OpenSpec.ofChange storeOnceSpec)

/-- ITS FALSE NEIGHBOUR: 'it returns false'. Refute it at one input. -/
def storeOnceWrong : ChangeSpec := { name := "storeOnce", fn := fun _ => fun
  | [d1, d2, d3] => { results := [.lit (.bool false)], args := [d1, d2, d3] }
  | _ => none }
def StoreOnceWrongFalsely : Prop := storeOnceRow.holds Tryz.pinned (OpenSpec.ofChange storeOnceWrong)

/-- 'sparelaw8.StoreVersion': WHATEVER THE INPUT: true; the input reads as it did. -/
def storeVersionSpec : ChangeSpec := { name := "storeVersion", fn := fun _ => fun
  | [d1, d2, d3, d4] => { results := [.lit (.bool true)], args := [d1, d2, d3, d4] }
  | _ => none }
def storeVersionRow : OpenClaim := { program := "ytldjieplbeflfaagreat", sum := "5e8bf5143d6bcdec79315183dfb65fb3f71e43f9ea56cb2d8bac85f193b21113", func := "spareparts/sparelaw8.StoreVersion", spec := "storeVersion", inPlace := ["slices.overlaps[spareparts/api.Account]", "slices.overlaps[spareparts/api.Held]", "slices.overlaps[int]"], unfollowed := true, recurses := true, plainKeys := false, apart := false }
def StoreVersionSaid : Prop := storeVersionRow.holds Tryz.pinned (OpenSpec.ofChange storeVersionSpec)

/-- ITS FALSE NEIGHBOUR: 'it returns false'. Refute it at one input. -/
def storeVersionWrong : ChangeSpec := { name := "storeVersion", fn := fun _ => fun
  | [d1, d2, d3, d4] => { results := [.lit (.bool false)], args := [d1, d2, d3, d4] }
  | _ => none }
def StoreVersionWrongFalsely : Prop := storeVersionRow.holds Tryz.pinned (OpenSpec.ofChange storeVersionWrong)

/-- 'sparelaw8.StoreSnap': WHATEVER THE INPUT: true; the input reads as it did. -/
def storeSnapSpec : ChangeSpec := { name := "storeSnap", fn := fun _ => fun
  | [d1, d2] => { results := [.lit (.bool true)], args := [d1, d2] }
  | _ => none }
def storeSnapRow : OpenClaim := { program := "ytldjieplbeflfaagreat", sum := "5e8bf5143d6bcdec79315183dfb65fb3f71e43f9ea56cb2d8bac85f193b21113", func := "spareparts/sparelaw8.StoreSnap", spec := "storeSnap", inPlace := ["slices.overlaps[spareparts/api.Account]", "slices.overlaps[spareparts/api.Held]", "slices.overlaps[int]"], unfollowed := true, recurses := true, plainKeys := false, apart := false }
def StoreSnapSaid : Prop := storeSnapRow.holds Tryz.pinned (OpenSpec.ofChange storeSnapSpec)

/-- ITS FALSE NEIGHBOUR: 'it returns false'. Refute it at one input. -/
def storeSnapWrong : ChangeSpec := { name := "storeSnap", fn := fun _ => fun
  | [d1, d2] => { results := [.lit (.bool false)], args := [d1, d2] }
  | _ => none }
def StoreSnapWrongFalsely : Prop := storeSnapRow.holds Tryz.pinned (OpenSpec.ofChange storeSnapWrong)

/- THE SECOND FORM. 'bulk': how many values and letters a reading holds, each counted each time it is reached (what is shared counts as often as it is met; a slice's spare places count too). A statement '..UptoSaid' is the law's where the arguments, and the package variables that the reading takes, are together of bulk at most 1048576: NARROWER than '..Said'. Prove '..Said' where nothing that the law and all that it calls make is longer than what came in: it says more and counts as full. Else prove '..UptoSaid'. A law counts once. -/
mutual
def uptoBulk {H : Type} : DataW H → Nat
  | .lit (.string bytes) => bytes.length + 1
  | .lit _ => 1
  | .nil => 1
  | .ptr d => uptoBulk d + 1
  | .slice elems spare => uptoBulkAll elems + uptoBulkAll spare + 1
  | .agg parts => uptoBulkAll parts + 1
  | .iface _ d => uptoBulk d + 1
  | .map entries => uptoBulkEntries entries + 1
  | .held _ => 1
def uptoBulkAll {H : Type} : List (DataW H) → Nat
  | [] => 0
  | d :: r => uptoBulk d + uptoBulkAll r
def uptoBulkEntries {H : Type} : List (Lit × DataW H) → Nat
  | [] => 0
  | x :: r => uptoBulkEntry x + uptoBulkEntries r
def uptoBulkEntry {H : Type} : Lit × DataW H → Nat
  | (.string bytes, d) => bytes.length + uptoBulk d + 1
  | (_, d) => uptoBulk d + 1
 end
def uptoSmall : (H : Type) → List (DataW H) → Bool := fun _ ds => decide (uptoBulkAll ds ≤ 1048576)
def OpenSpec.upto (s : _root_.Go.ChangeSpec) : _root_.Go.OpenSpec := { _root_.Go.OpenSpec.ofChange s with cond := some uptoSmall }

/-- 'sparelaw8.StoreTruth', WHERE WHAT IT READS IS OF BULK AT MOST 1048576: true; the input reads as it did. -/
def storeTruthUptoRow : OpenClaim := { program := "ytldjieplbeflfaagreat", sum := "5e8bf5143d6bcdec79315183dfb65fb3f71e43f9ea56cb2d8bac85f193b21113", func := "spareparts/sparelaw8.StoreTruth", spec := "storeTruth", inPlace := ["slices.overlaps[spareparts/api.Account]", "slices.overlaps[spareparts/api.Held]", "slices.overlaps[int]"], unfollowed := true, recurses := true, plainKeys := false, apart := false, narrowed := true }
def StoreTruthUptoSaid : Prop := storeTruthUptoRow.holds Tryz.pinned (OpenSpec.upto storeTruthSpec)

/-- 'sparelaw8.StoreKeeps', WHERE WHAT IT READS IS OF BULK AT MOST 1048576: true; the input reads as it did. -/
def storeKeepsUptoRow : OpenClaim := { program := "ytldjieplbeflfaagreat", sum := "5e8bf5143d6bcdec79315183dfb65fb3f71e43f9ea56cb2d8bac85f193b21113", func := "spareparts/sparelaw8.StoreKeeps", spec := "storeKeeps", inPlace := ["slices.overlaps[spareparts/api.Account]", "slices.overlaps[spareparts/api.Held]", "slices.overlaps[int]"], unfollowed := true, recurses := true, plainKeys := false, apart := false, narrowed := true }
def StoreKeepsUptoSaid : Prop := storeKeepsUptoRow.holds Tryz.pinned (OpenSpec.upto storeKeepsSpec)

/-- 'sparelaw8.StoreScrubs', WHERE WHAT IT READS IS OF BULK AT MOST 1048576: true; the input reads as it did. -/
def storeScrubsUptoRow : OpenClaim := { program := "ytldjieplbeflfaagreat", sum := "5e8bf5143d6bcdec79315183dfb65fb3f71e43f9ea56cb2d8bac85f193b21113", func := "spareparts/sparelaw8.StoreScrubs", spec := "storeScrubs", inPlace := ["slices.overlaps[spareparts/api.Account]", "slices.overlaps[spareparts/api.Held]", "slices.overlaps[int]"], unfollowed := true, recurses := true, plainKeys := false, apart := false, narrowed := true }
def StoreScrubsUptoSaid : Prop := storeScrubsUptoRow.holds Tryz.pinned (OpenSpec.upto storeScrubsSpec)

/-- 'sparelaw8.StoreOnce', WHERE WHAT IT READS IS OF BULK AT MOST 1048576: true; the input reads as it did. -/
def storeOnceUptoRow : OpenClaim := { program := "ytldjieplbeflfaagreat", sum := "5e8bf5143d6bcdec79315183dfb65fb3f71e43f9ea56cb2d8bac85f193b21113", func := "spareparts/sparelaw8.StoreOnce", spec := "storeOnce", inPlace := ["slices.overlaps[spareparts/api.Account]", "slices.overlaps[spareparts/api.Held]", "slices.overlaps[int]"], unfollowed := true, recurses := true, plainKeys := false, apart := false, narrowed := true }
def StoreOnceUptoSaid : Prop := storeOnceUptoRow.holds Tryz.pinned (OpenSpec.upto storeOnceSpec)

/-- 'sparelaw8.StoreVersion', WHERE WHAT IT READS IS OF BULK AT MOST 1048576: true; the input reads as it did. -/
def storeVersionUptoRow : OpenClaim := { program := "ytldjieplbeflfaagreat", sum := "5e8bf5143d6bcdec79315183dfb65fb3f71e43f9ea56cb2d8bac85f193b21113", func := "spareparts/sparelaw8.StoreVersion", spec := "storeVersion", inPlace := ["slices.overlaps[spareparts/api.Account]", "slices.overlaps[spareparts/api.Held]", "slices.overlaps[int]"], unfollowed := true, recurses := true, plainKeys := false, apart := false, narrowed := true }
def StoreVersionUptoSaid : Prop := storeVersionUptoRow.holds Tryz.pinned (OpenSpec.upto storeVersionSpec)

/-- 'sparelaw8.StoreSnap', WHERE WHAT IT READS IS OF BULK AT MOST 1048576: true; the input reads as it did. -/
def storeSnapUptoRow : OpenClaim := { program := "ytldjieplbeflfaagreat", sum := "5e8bf5143d6bcdec79315183dfb65fb3f71e43f9ea56cb2d8bac85f193b21113", func := "spareparts/sparelaw8.StoreSnap", spec := "storeSnap", inPlace := ["slices.overlaps[spareparts/api.Account]", "slices.overlaps[spareparts/api.Held]", "slices.overlaps[int]"], unfollowed := true, recurses := true, plainKeys := false, apart := false, narrowed := true }
def StoreSnapUptoSaid : Prop := storeSnapUptoRow.holds Tryz.pinned (OpenSpec.upto storeSnapSpec)

end Rows
end Go.Proofs.YtldjieplbeflfaaGreat
