/-
  What the statements' own Same does at matrices that are the same.
-/
import Derived.Test.YtmlboaejkmffjaeUndo
import Derived.Laws.BytesArg
namespace Go.Proofs.Ytmlboaejkmffjae
open Go.RowKit
end Go.Proofs.Ytmlboaejkmffjae
