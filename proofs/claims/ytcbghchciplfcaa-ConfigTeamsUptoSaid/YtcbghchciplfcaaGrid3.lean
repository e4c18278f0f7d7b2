/-
  GRID3: contracts of floor's functions on places and steps, further: distance, gridOf.
-/
import Derived.Test.YtcbghchciplfcaaGrid2
import Derived.Outline
namespace Go.Proofs.Ytcbghchciplfcaa
set_option linter.unusedVariables false
set_option linter.unusedSimpArgs false
set_option maxRecDepth 100000
open Go.RowKit

end Go.Proofs.Ytcbghchciplfcaa
