/-
  No cell of these rows narrows 'for every input' (looked for: loops, veiled, ifaces, maps, wideKeys, modest, calm, conditions, laid).
  DERIVED. THE GIVEN ROWS OF THIS SEAT. 6 by the template 'for every input the law returns true; each argument reads behind the call as it read before'; 0 by the template 'total and deterministic' (their statements: YtmlboaejkmffjadTotals.lean).
  GIVEN WITH THE SEED: the statements are not yours to turn. If you find one false, say at which input.
  Laid BY PROGRAM, IN A SANDBOX (cutbox-rows.mjs): the forced cells as the released guide's own fill.sh prints them over the translation d43f035f17794ee5… (all of the seat's roots in one cut). By AI agents, Wed Nov 11 2026. No macro, syntax, notation, axiom, sorry.
-/
import Derived.Test.YtmlboaejkmffjadChecked
import GoSem.Claim
import GoSem.ClaimJoined
import GoSem.ClaimMapViews
import Derived.JoinedTies
import Derived.KernelRfl
namespace Go.Proofs.Ytmlboaejkmffjad
/- THE CELL 'sum', in the pinned program and in every row, IS THE sha256 OF THE DUMP (.gsa) THAT YtmlboaejkmffjadProg.lean LOADS. Nothing in Lean hashes anything: it is a label: what it is worth is what the hold of that sum in a sandbox is worth. -/
noncomputable def Try.pinned : Pinned := { name := "ytmlboaejkmffjad", sum := "d43f035f17794ee53a4e5e13e9f5678a0ce79550c4d625c282b326dfe99ee8f1", checked := Try.checked }
namespace Rows
def none {H : Type} : Left H := { results := [], args := [] }

/-- 'sparelaw5.EventTells': WHATEVER THE INPUT: true; the input reads as it did. -/
def eventTellsSpec : ChangeSpec := { name := "eventTells", fn := fun _ => fun
  | [d1, d2, d3] => { results := [.lit (.bool true)], args := [d1, d2, d3] }
  | _ => none }
def eventTellsRow : OpenClaim := { program := "ytmlboaejkmffjad", sum := "d43f035f17794ee53a4e5e13e9f5678a0ce79550c4d625c282b326dfe99ee8f1", func := "spareparts/sparelaw5.EventTells", spec := "eventTells", unfollowed := true, recurses := true, apart := false }
def EventTellsSaid : Prop := eventTellsRow.holds Try.pinned (OpenSpec.ofChange eventTellsSpec)

/-- ITS FALSE NEIGHBOUR: 'it returns false'. Refute it at one input. -/
def eventTellsWrong : ChangeSpec := { name := "eventTells", fn := fun _ => fun
  | [d1, d2, d3] => { results := [.lit (.bool false)], args := [d1, d2, d3] }
  | _ => none }
def EventTellsWrongFalsely : Prop := eventTellsRow.holds Try.pinned (OpenSpec.ofChange eventTellsWrong)

/-- 'sparelaw5.EventTurns': WHATEVER THE INPUT: true; the input reads as it did. -/
def eventTurnsSpec : ChangeSpec := { name := "eventTurns", fn := fun _ => fun
  | [d1, d2] => { results := [.lit (.bool true)], args := [d1, d2] }
  | _ => none }
def eventTurnsRow : OpenClaim := { program := "ytmlboaejkmffjad", sum := "d43f035f17794ee53a4e5e13e9f5678a0ce79550c4d625c282b326dfe99ee8f1", func := "spareparts/sparelaw5.EventTurns", spec := "eventTurns", apart := false }
def EventTurnsSaid : Prop := eventTurnsRow.holds Try.pinned (OpenSpec.ofChange eventTurnsSpec)

/-- ITS FALSE NEIGHBOUR: 'it returns false'. Refute it at one input. -/
def eventTurnsWrong : ChangeSpec := { name := "eventTurns", fn := fun _ => fun
  | [d1, d2] => { results := [.lit (.bool false)], args := [d1, d2] }
  | _ => none }
def EventTurnsWrongFalsely : Prop := eventTurnsRow.holds Try.pinned (OpenSpec.ofChange eventTurnsWrong)

/-- 'sparelaw5.EventJoined': WHATEVER THE INPUT: true; the input reads as it did. -/
def eventJoinedSpec : ChangeSpec := { name := "eventJoined", fn := fun _ => fun
  | [d1, d2] => { results := [.lit (.bool true)], args := [d1, d2] }
  | _ => none }
def eventJoinedRow : OpenClaim := { program := "ytmlboaejkmffjad", sum := "d43f035f17794ee53a4e5e13e9f5678a0ce79550c4d625c282b326dfe99ee8f1", func := "spareparts/sparelaw5.EventJoined", spec := "eventJoined", apart := false }
def EventJoinedSaid : Prop := eventJoinedRow.holds Try.pinned (OpenSpec.ofChange eventJoinedSpec)

/-- ITS FALSE NEIGHBOUR: 'it returns false'. Refute it at one input. -/
def eventJoinedWrong : ChangeSpec := { name := "eventJoined", fn := fun _ => fun
  | [d1, d2] => { results := [.lit (.bool false)], args := [d1, d2] }
  | _ => none }
def EventJoinedWrongFalsely : Prop := eventJoinedRow.holds Try.pinned (OpenSpec.ofChange eventJoinedWrong)

/-- 'sparelaw6.StripeTells': WHATEVER THE INPUT: true; the input reads as it did. -/
def stripeTellsSpec : ChangeSpec := { name := "stripeTells", fn := fun _ => fun
  | [d1, d2, d3, d4, d5] => { results := [.lit (.bool true)], args := [d1, d2, d3, d4, d5] }
  | _ => none }
def stripeTellsRow : OpenClaim := { program := "ytmlboaejkmffjad", sum := "d43f035f17794ee53a4e5e13e9f5678a0ce79550c4d625c282b326dfe99ee8f1", func := "spareparts/sparelaw6.StripeTells", spec := "stripeTells", unfollowed := true, recurses := true, apart := false }
def StripeTellsSaid : Prop := stripeTellsRow.holds Try.pinned (OpenSpec.ofChange stripeTellsSpec)

/-- ITS FALSE NEIGHBOUR: 'it returns false'. Refute it at one input. -/
def stripeTellsWrong : ChangeSpec := { name := "stripeTells", fn := fun _ => fun
  | [d1, d2, d3, d4, d5] => { results := [.lit (.bool false)], args := [d1, d2, d3, d4, d5] }
  | _ => none }
def StripeTellsWrongFalsely : Prop := stripeTellsRow.holds Try.pinned (OpenSpec.ofChange stripeTellsWrong)

/-- 'sparelaw6.StripeMends': WHATEVER THE INPUT: true; the input reads as it did. -/
def stripeMendsSpec : ChangeSpec := { name := "stripeMends", fn := fun _ => fun
  | [d1, d2, d3, d4, d5] => { results := [.lit (.bool true)], args := [d1, d2, d3, d4, d5] }
  | _ => none }
def stripeMendsRow : OpenClaim := { program := "ytmlboaejkmffjad", sum := "d43f035f17794ee53a4e5e13e9f5678a0ce79550c4d625c282b326dfe99ee8f1", func := "spareparts/sparelaw6.StripeMends", spec := "stripeMends", unfollowed := true, recurses := true, apart := false }
def StripeMendsSaid : Prop := stripeMendsRow.holds Try.pinned (OpenSpec.ofChange stripeMendsSpec)

/-- ITS FALSE NEIGHBOUR: 'it returns false'. Refute it at one input. -/
def stripeMendsWrong : ChangeSpec := { name := "stripeMends", fn := fun _ => fun
  | [d1, d2, d3, d4, d5] => { results := [.lit (.bool false)], args := [d1, d2, d3, d4, d5] }
  | _ => none }
def StripeMendsWrongFalsely : Prop := stripeMendsRow.holds Try.pinned (OpenSpec.ofChange stripeMendsWrong)

/-- 'sparelaw6.StripeBad': WHATEVER THE INPUT: true; the input reads as it did. -/
def stripeBadSpec : ChangeSpec := { name := "stripeBad", fn := fun _ => fun
  | [d1, d2, d3, d4, d5] => { results := [.lit (.bool true)], args := [d1, d2, d3, d4, d5] }
  | _ => none }
def stripeBadRow : OpenClaim := { program := "ytmlboaejkmffjad", sum := "d43f035f17794ee53a4e5e13e9f5678a0ce79550c4d625c282b326dfe99ee8f1", func := "spareparts/sparelaw6.StripeBad", spec := "stripeBad", unfollowed := true, recurses := true, apart := false }
def StripeBadSaid : Prop := stripeBadRow.holds Try.pinned (OpenSpec.ofChange stripeBadSpec)

/-- ITS FALSE NEIGHBOUR: 'it returns false'. Refute it at one input. -/
def stripeBadWrong : ChangeSpec := { name := "stripeBad", fn := fun _ => fun
  | [d1, d2, d3, d4, d5] => { results := [.lit (.bool false)], args := [d1, d2, d3, d4, d5] }
  | _ => none }
def StripeBadWrongFalsely : Prop := stripeBadRow.holds Try.pinned (OpenSpec.ofChange stripeBadWrong)

/- THE SECOND FORM. 'bulk': how many values and letters a reading holds, each counted each time it is reached (what is shared counts as often as it is met; a slice's spare places count too). A statement '..UptoSaid' is the law's where the arguments, and the package variables that the reading takes, are together of bulk at most 1048576: NARROWER than '..Said'. Prove '..Said' where nothing that the law and all that it calls make is longer than what came in: it says more and counts as full. Else prove '..UptoSaid'. A law counts once. -/
mutual
def uptoBulk {H : Type} : DataW H → Nat
  | .lit (.string bytes) => bytes.length + 1
  | .lit _ => 1
  | .nil => 1
  | .ptr d => uptoBulk d + 1
  | .slice elems spare => uptoBulkAll elems + uptoBulkAll spare + 1
  | .agg parts => uptoBulkAll parts + 1
  | .iface _ d => uptoBulk d + 1
  | .map entries => uptoBulkEntries entries + 1
  | .held _ => 1
def uptoBulkAll {H : Type} : List (DataW H) → Nat
  | [] => 0
  | d :: r => uptoBulk d + uptoBulkAll r
def uptoBulkEntries {H : Type} : List (Lit × DataW H) → Nat
  | [] => 0
  | x :: r => uptoBulkEntry x + uptoBulkEntries r
def uptoBulkEntry {H : Type} : Lit × DataW H → Nat
  | (.string bytes, d) => bytes.length + uptoBulk d + 1
  | (_, d) => uptoBulk d + 1
 end
def uptoSmall : (H : Type) → List (DataW H) → Bool := fun _ ds => decide (uptoBulkAll ds ≤ 1048576)
def OpenSpec.upto (s : _root_.Go.ChangeSpec) : _root_.Go.OpenSpec := { _root_.Go.OpenSpec.ofChange s with cond := some uptoSmall }

/-- 'sparelaw5.EventTells', WHERE WHAT IT READS IS OF BULK AT MOST 1048576: true; the input reads as it did. -/
def eventTellsUptoRow : OpenClaim := { program := "ytmlboaejkmffjad", sum := "d43f035f17794ee53a4e5e13e9f5678a0ce79550c4d625c282b326dfe99ee8f1", func := "spareparts/sparelaw5.EventTells", spec := "eventTells", unfollowed := true, recurses := true, apart := false, narrowed := true }
def EventTellsUptoSaid : Prop := eventTellsUptoRow.holds Try.pinned (OpenSpec.upto eventTellsSpec)

/-- 'sparelaw5.EventTurns', WHERE WHAT IT READS IS OF BULK AT MOST 1048576: true; the input reads as it did. -/
def eventTurnsUptoRow : OpenClaim := { program := "ytmlboaejkmffjad", sum := "d43f035f17794ee53a4e5e13e9f5678a0ce79550c4d625c282b326dfe99ee8f1", func := "spareparts/sparelaw5.EventTurns", spec := "eventTurns", apart := false, narrowed := true }
def EventTurnsUptoSaid : Prop := eventTurnsUptoRow.holds Try.pinned (OpenSpec.upto eventTurnsSpec)

/-- 'sparelaw5.EventJoined', WHERE WHAT IT READS IS OF BULK AT MOST 1048576: true; the input reads as it did. -/
def eventJoinedUptoRow : OpenClaim := { program := "ytmlboaejkmffjad", sum := "d43f035f17794ee53a4e5e13e9f5678a0ce79550c4d625c282b326dfe99ee8f1", func := "spareparts/sparelaw5.EventJoined", spec := "eventJoined", apart := false, narrowed := true }
def EventJoinedUptoSaid : Prop := eventJoinedUptoRow.holds Try.pinned (OpenSpec.upto eventJoinedSpec)

/-- 'sparelaw6.StripeTells', WHERE WHAT IT READS IS OF BULK AT MOST 1048576: true; the input reads as it did. -/
def stripeTellsUptoRow : OpenClaim := { program := "ytmlboaejkmffjad", sum := "d43f035f17794ee53a4e5e13e9f5678a0ce79550c4d625c282b326dfe99ee8f1", func := "spareparts/sparelaw6.StripeTells", spec := "stripeTells", unfollowed := true, recurses := true, apart := false, narrowed := true }
def StripeTellsUptoSaid : Prop := stripeTellsUptoRow.holds Try.pinned (OpenSpec.upto stripeTellsSpec)

/-- 'sparelaw6.StripeMends', WHERE WHAT IT READS IS OF BULK AT MOST 1048576: true; the input reads as it did. -/
def stripeMendsUptoRow : OpenClaim := { program := "ytmlboaejkmffjad", sum := "d43f035f17794ee53a4e5e13e9f5678a0ce79550c4d625c282b326dfe99ee8f1", func := "spareparts/sparelaw6.StripeMends", spec := "stripeMends", unfollowed := true, recurses := true, apart := false, narrowed := true }
def StripeMendsUptoSaid : Prop := stripeMendsUptoRow.holds Try.pinned (OpenSpec.upto stripeMendsSpec)

/-- 'sparelaw6.StripeBad', WHERE WHAT IT READS IS OF BULK AT MOST 1048576: true; the input reads as it did. -/
def stripeBadUptoRow : OpenClaim := { program := "ytmlboaejkmffjad", sum := "d43f035f17794ee53a4e5e13e9f5678a0ce79550c4d625c282b326dfe99ee8f1", func := "spareparts/sparelaw6.StripeBad", spec := "stripeBad", unfollowed := true, recurses := true, apart := false, narrowed := true }
def StripeBadUptoSaid : Prop := stripeBadUptoRow.holds Try.pinned (OpenSpec.upto stripeBadSpec)

end Rows
end Go.Proofs.Ytmlboaejkmffjad
