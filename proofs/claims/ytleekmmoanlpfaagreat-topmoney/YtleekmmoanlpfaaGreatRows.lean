/-
  No cell of these rows narrows 'for every input' (looked for: loops, veiled, ifaces, maps, wideKeys, modest, calm, conditions, laid).
  DERIVED. THE GIVEN ROWS OF THIS SEAT. 5 by the template 'for every input the law returns true; each argument reads behind the call as it read before'; 0 by the template 'total and deterministic' (their statements: YtleekmmoanlpfaaGreatTotals.lean).
  GIVEN WITH THE SEED: the statements are not yours to turn. If you find one false, say at which input.
  Laid BY PROGRAM, IN A SANDBOX (cutbox-rows.mjs): the forced cells as the released guide's own fill.sh prints them over the translation 6a74b7e13864d127… (all of the seat's roots in one cut). By AI agents, Wed Nov 11 2026. No macro, syntax, notation, axiom, sorry.
-/
import Derived.Test.YtleekmmoanlpfaaGreatChecked
import GoSem.Claim
import GoSem.ClaimJoined
import GoSem.ClaimMapViews
import Derived.JoinedTies
import Derived.KernelRfl
namespace Go.Proofs.YtleekmmoanlpfaaGreat
/- THE CELL 'sum', in the pinned program and in every row, IS THE sha256 OF THE DUMP (.gsa) THAT YtleekmmoanlpfaaGreatProg.lean LOADS. Nothing in Lean hashes anything: it is a label: what it is worth is what the hold of that sum in a sandbox is worth. -/
noncomputable def Tryz.pinned : Pinned := { name := "ytleekmmoanlpfaagreat", sum := "6a74b7e13864d127dbe083f27fd3f9d5cb481a878127a04475771f85e27c5977", checked := Tryz.checked }
namespace Rows
def none {H : Type} : Left H := { results := [], args := [] }

/-- 'sparetop.TopLose': WHATEVER THE INPUT: true; the input reads as it did. -/
def topLoseSpec : ChangeSpec := { name := "topLose", fn := fun _ => fun
  | [d1, d2, d3, d4, d5] => { results := [.lit (.bool true)], args := [d1, d2, d3, d4, d5] }
  | _ => none }
def topLoseRow : OpenClaim := { program := "ytleekmmoanlpfaagreat", sum := "6a74b7e13864d127dbe083f27fd3f9d5cb481a878127a04475771f85e27c5977", func := "spareparts/sparetop.TopLose", spec := "topLose", inPlace := ["slices.overlaps[spareparts/api.Account]", "slices.overlaps[spareparts/api.Held]", "slices.overlaps[int]"], unfollowed := true, recurses := true, apart := false }
def TopLoseSaid : Prop := topLoseRow.holds Tryz.pinned (OpenSpec.ofChange topLoseSpec)

/-- ITS FALSE NEIGHBOUR: 'it returns false'. Refute it at one input. -/
def topLoseWrong : ChangeSpec := { name := "topLose", fn := fun _ => fun
  | [d1, d2, d3, d4, d5] => { results := [.lit (.bool false)], args := [d1, d2, d3, d4, d5] }
  | _ => none }
def TopLoseWrongFalsely : Prop := topLoseRow.holds Tryz.pinned (OpenSpec.ofChange topLoseWrong)

/-- 'sparetop.TopMore': WHATEVER THE INPUT: true; the input reads as it did. -/
def topMoreSpec : ChangeSpec := { name := "topMore", fn := fun _ => fun
  | [d1, d2, d3] => { results := [.lit (.bool true)], args := [d1, d2, d3] }
  | _ => none }
def topMoreRow : OpenClaim := { program := "ytleekmmoanlpfaagreat", sum := "6a74b7e13864d127dbe083f27fd3f9d5cb481a878127a04475771f85e27c5977", func := "spareparts/sparetop.TopMore", spec := "topMore", inPlace := ["slices.overlaps[spareparts/api.Account]", "slices.overlaps[spareparts/api.Held]", "slices.overlaps[int]"], unfollowed := true, recurses := true, apart := false }
def TopMoreSaid : Prop := topMoreRow.holds Tryz.pinned (OpenSpec.ofChange topMoreSpec)

/-- ITS FALSE NEIGHBOUR: 'it returns false'. Refute it at one input. -/
def topMoreWrong : ChangeSpec := { name := "topMore", fn := fun _ => fun
  | [d1, d2, d3] => { results := [.lit (.bool false)], args := [d1, d2, d3] }
  | _ => none }
def TopMoreWrongFalsely : Prop := topMoreRow.holds Tryz.pinned (OpenSpec.ofChange topMoreWrong)

/-- 'sparetop.TopSpoilt': WHATEVER THE INPUT: true; the input reads as it did. -/
def topSpoiltSpec : ChangeSpec := { name := "topSpoilt", fn := fun _ => fun
  | [d1, d2, d3, d4, d5] => { results := [.lit (.bool true)], args := [d1, d2, d3, d4, d5] }
  | _ => none }
def topSpoiltRow : OpenClaim := { program := "ytleekmmoanlpfaagreat", sum := "6a74b7e13864d127dbe083f27fd3f9d5cb481a878127a04475771f85e27c5977", func := "spareparts/sparetop.TopSpoilt", spec := "topSpoilt", inPlace := ["slices.overlaps[spareparts/api.Account]", "slices.overlaps[spareparts/api.Held]", "slices.overlaps[int]"], unfollowed := true, recurses := true, apart := false }
def TopSpoiltSaid : Prop := topSpoiltRow.holds Tryz.pinned (OpenSpec.ofChange topSpoiltSpec)

/-- ITS FALSE NEIGHBOUR: 'it returns false'. Refute it at one input. -/
def topSpoiltWrong : ChangeSpec := { name := "topSpoilt", fn := fun _ => fun
  | [d1, d2, d3, d4, d5] => { results := [.lit (.bool false)], args := [d1, d2, d3, d4, d5] }
  | _ => none }
def TopSpoiltWrongFalsely : Prop := topSpoiltRow.holds Tryz.pinned (OpenSpec.ofChange topSpoiltWrong)

/-- 'sparetop.TopMoney': WHATEVER THE INPUT: true; the input reads as it did. -/
def topMoneySpec : ChangeSpec := { name := "topMoney", fn := fun _ => fun
  | [d] => { results := [.lit (.bool true)], args := [d] }
  | _ => none }
def topMoneyRow : OpenClaim := { program := "ytleekmmoanlpfaagreat", sum := "6a74b7e13864d127dbe083f27fd3f9d5cb481a878127a04475771f85e27c5977", func := "spareparts/sparetop.TopMoney", spec := "topMoney", inPlace := ["slices.overlaps[spareparts/api.Account]", "slices.overlaps[spareparts/api.Held]", "slices.overlaps[int]"], unfollowed := true, recurses := true, apart := false }
def TopMoneySaid : Prop := topMoneyRow.holds Tryz.pinned (OpenSpec.ofChange topMoneySpec)

/-- ITS FALSE NEIGHBOUR: 'it returns false'. Refute it at one input. -/
def topMoneyWrong : ChangeSpec := { name := "topMoney", fn := fun _ => fun
  | [d] => { results := [.lit (.bool false)], args := [d] }
  | _ => none }
def TopMoneyWrongFalsely : Prop := topMoneyRow.holds Tryz.pinned (OpenSpec.ofChange topMoneyWrong)

/-- 'sparetop.TopShape': WHATEVER THE INPUT: true; the input reads as it did. -/
def topShapeSpec : ChangeSpec := { name := "topShape", fn := fun _ => fun
  | [d1, d2, d3, d4] => { results := [.lit (.bool true)], args := [d1, d2, d3, d4] }
  | _ => none }
def topShapeRow : OpenClaim := { program := "ytleekmmoanlpfaagreat", sum := "6a74b7e13864d127dbe083f27fd3f9d5cb481a878127a04475771f85e27c5977", func := "spareparts/sparetop.TopShape", spec := "topShape", inPlace := ["slices.overlaps[spareparts/api.Account]", "slices.overlaps[spareparts/api.Held]", "slices.overlaps[int]"], unfollowed := true, recurses := true, apart := false }
def TopShapeSaid : Prop := topShapeRow.holds Tryz.pinned (OpenSpec.ofChange topShapeSpec)

/-- ITS FALSE NEIGHBOUR: 'it returns false'. Refute it at one input. -/
def topShapeWrong : ChangeSpec := { name := "topShape", fn := fun _ => fun
  | [d1, d2, d3, d4] => { results := [.lit (.bool false)], args := [d1, d2, d3, d4] }
  | _ => none }
def TopShapeWrongFalsely : Prop := topShapeRow.holds Tryz.pinned (OpenSpec.ofChange topShapeWrong)

/- THE SECOND FORM. 'bulk': how many values and letters a reading holds, each counted each time it is reached (what is shared counts as often as it is met; a slice's spare places count too). A statement '..UptoSaid' is the law's where the arguments, and the package variables that the reading takes, are together of bulk at most 1048576: NARROWER than '..Said'. Prove '..Said' where nothing that the law and all that it calls make is longer than what came in: it says more and counts as full. Else prove '..UptoSaid'. A law counts once. -/
mutual
def uptoBulk {H : Type} : DataW H → Nat
  | .lit (.string bytes) => bytes.length + 1
  | .lit _ => 1
  | .nil => 1
  | .ptr d => uptoBulk d + 1
  | .slice elems spare => uptoBulkAll elems + uptoBulkAll spare + 1
  | .agg parts => uptoBulkAll parts + 1
  | .iface _ d => uptoBulk d + 1
  | .map entries => uptoBulkEntries entries + 1
  | .held _ => 1
def uptoBulkAll {H : Type} : List (DataW H) → Nat
  | [] => 0
  | d :: r => uptoBulk d + uptoBulkAll r
def uptoBulkEntries {H : Type} : List (Lit × DataW H) → Nat
  | [] => 0
  | x :: r => uptoBulkEntry x + uptoBulkEntries r
def uptoBulkEntry {H : Type} : Lit × DataW H → Nat
  | (.string bytes, d) => bytes.length + uptoBulk d + 1
  | (_, d) => uptoBulk d + 1
 end
def uptoSmall : (H : Type) → List (DataW H) → Bool := fun _ ds => decide (uptoBulkAll ds ≤ 1048576)
def OpenSpec.upto (s : _root_.Go.ChangeSpec) : _root_.Go.OpenSpec := { _root_.Go.OpenSpec.ofChange s with cond := some uptoSmall }

/-- 'sparetop.TopLose', WHERE WHAT IT READS IS OF BULK AT MOST 1048576: true; the input reads as it did. -/
def topLoseUptoRow : OpenClaim := { program := "ytleekmmoanlpfaagreat", sum := "6a74b7e13864d127dbe083f27fd3f9d5cb481a878127a04475771f85e27c5977", func := "spareparts/sparetop.TopLose", spec := "topLose", inPlace := ["slices.overlaps[spareparts/api.Account]", "slices.overlaps[spareparts/api.Held]", "slices.overlaps[int]"], unfollowed := true, recurses := true, apart := false, narrowed := true }
def TopLoseUptoSaid : Prop := topLoseUptoRow.holds Tryz.pinned (OpenSpec.upto topLoseSpec)

/-- 'sparetop.TopMore', WHERE WHAT IT READS IS OF BULK AT MOST 1048576: true; the input reads as it did. -/
def topMoreUptoRow : OpenClaim := { program := "ytleekmmoanlpfaagreat", sum := "6a74b7e13864d127dbe083f27fd3f9d5cb481a878127a04475771f85e27c5977", func := "spareparts/sparetop.TopMore", spec := "topMore", inPlace := ["slices.overlaps[spareparts/api.Account]", "slices.overlaps[spareparts/api.Held]", "slices.overlaps[int]"], unfollowed := true, recurses := true, apart := false, narrowed := true }
def TopMoreUptoSaid : Prop := topMoreUptoRow.holds Tryz.pinned (OpenSpec.upto topMoreSpec)

/-- 'sparetop.TopSpoilt', WHERE WHAT IT READS IS OF BULK AT MOST 1048576: true; the input reads as it did. -/
def topSpoiltUptoRow : OpenClaim := { program := "ytleekmmoanlpfaagreat", sum := "6a74b7e13864d127dbe083f27fd3f9d5cb481a878127a04475771f85e27c5977", func := "spareparts/sparetop.TopSpoilt", spec := "topSpoilt", inPlace := ["slices.overlaps[spareparts/api.Account]", "slices.overlaps[spareparts/api.Held]", "slices.overlaps[int]"], unfollowed := true, recurses := true, apart := false, narrowed := true }
def TopSpoiltUptoSaid : Prop := topSpoiltUptoRow.holds Tryz.pinned (OpenSpec.upto topSpoiltSpec)

/-- 'sparetop.TopMoney', WHERE WHAT IT READS IS OF BULK AT MOST 1048576: true; the input reads as it did. -/
def topMoneyUptoRow : OpenClaim := { program := "ytleekmmoanlpfaagreat", sum := "6a74b7e13864d127dbe083f27fd3f9d5cb481a878127a04475771f85e27c5977", func := "spareparts/sparetop.TopMoney", spec := "topMoney", inPlace := ["slices.overlaps[spareparts/api.Account]", "slices.overlaps[spareparts/api.Held]", "slices.overlaps[int]"], unfollowed := true, recurses := true, apart := false, narrowed := true }
def TopMoneyUptoSaid : Prop := topMoneyUptoRow.holds Tryz.pinned (OpenSpec.upto topMoneySpec)

/-- 'sparetop.TopShape', WHERE WHAT IT READS IS OF BULK AT MOST 1048576: true; the input reads as it did. -/
def topShapeUptoRow : OpenClaim := { program := "ytleekmmoanlpfaagreat", sum := "6a74b7e13864d127dbe083f27fd3f9d5cb481a878127a04475771f85e27c5977", func := "spareparts/sparetop.TopShape", spec := "topShape", inPlace := ["slices.overlaps[spareparts/api.Account]", "slices.overlaps[spareparts/api.Held]", "slices.overlaps[int]"], unfollowed := true, recurses := true, apart := false, narrowed := true }
def TopShapeUptoSaid : Prop := topShapeUptoRow.holds Tryz.pinned (OpenSpec.upto topShapeSpec)

end Rows
end Go.Proofs.YtleekmmoanlpfaaGreat
