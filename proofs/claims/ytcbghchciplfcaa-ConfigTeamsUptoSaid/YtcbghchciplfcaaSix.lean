/-
  SIX: the helper 'six' of the laws of floor.
-/
import Derived.Test.YtcbghchciplfcaaLawHelp
namespace Go.Proofs.Ytcbghchciplfcaa
set_option linter.unusedVariables false
set_option linter.unusedSimpArgs false
set_option maxRecDepth 100000
open Go.RowKit

end Go.Proofs.Ytcbghchciplfcaa
