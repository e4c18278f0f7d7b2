/- Facts of the program over abstract values. No condition. -/
import Derived.Test.YtffiicopifmmfaaYv1
set_option linter.unusedSimpArgs false
set_option linter.unusedVariables false
set_option maxRecDepth 8000
namespace Go.Proofs.Ytffiicopifmmfaa
set_option linter.unusedSimpArgs false
set_option linter.unusedVariables false
set_option linter.unnecessarySimpa false
set_option linter.unusedSectionVars false
open Go.Proofs.Try
open Go.Proofs.Ytffiicopifmmfaa.Ai
set_option maxHeartbeats 4000000

theorem orderExamples_pcall : PCall prog 3 [] (.bool true) := law_examples
end Go.Proofs.Ytffiicopifmmfaa
