/- Facts of the program over abstract values. No condition. -/
import Derived.Test.YtffiicopifmmfaaYz1
import Derived.Test.YtffiicopifmmfaaYn
set_option linter.unusedVariables false
set_option maxRecDepth 8000
namespace Go.Proofs.Ytffiicopifmmfaa
set_option linter.unusedSimpArgs false
set_option linter.unusedVariables false
set_option linter.unnecessarySimpa false
set_option linter.unusedSectionVars false
open Go.Proofs.Try
open Go.Proofs.Ytffiicopifmmfaa.Ai
set_option maxHeartbeats 4000000

theorem orderKeeps_pcall (x0 : List AV) (x1 : AV) (d0 : Dat prog 52 x0) (d1 : Dat prog 41 [x1]) : PCall prog 10 [.agg x0, x1] (.bool true) := by
  obtain ⟨m, rfl, hm⟩ := tfit_dat d0
  obtain ⟨l, rfl, hc, hl⟩ := script_dat d1
  exact law_keeps m hm l hc (by omega)
end Go.Proofs.Ytffiicopifmmfaa
