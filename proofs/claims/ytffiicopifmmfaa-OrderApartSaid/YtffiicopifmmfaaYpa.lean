/- Facts of the program over abstract values. No condition. -/
import Derived.Test.YtffiicopifmmfaaYq1
import Derived.Test.YtffiicopifmmfaaYn
set_option linter.unusedSimpArgs false
set_option linter.unusedVariables false
set_option maxRecDepth 8000
namespace Go.Proofs.Ytffiicopifmmfaa
set_option linter.unusedSimpArgs false
set_option linter.unusedVariables false
set_option linter.unnecessarySimpa false
set_option linter.unusedSectionVars false
open Go.Proofs.Try
open Go.Proofs.Ytffiicopifmmfaa.Ai
set_option maxHeartbeats 4000000

theorem orderApart_pcall (x0 x1 x2 : List AV) (d0 : Dat prog 52 x0) (d1 : Dat prog 46 x1) (d2 : Dat prog 38 x2) : PCall prog 12 [.agg x0, .agg x1, .agg x2] (.bool true) := by
  obtain ⟨b, m, rfl, rfl, h⟩ := fit_dat d0 d1
  obtain ⟨x, rfl, h1, h2⟩ := call_dat d2
  exact law_apart b m x h h1 h2
end Go.Proofs.Ytffiicopifmmfaa
