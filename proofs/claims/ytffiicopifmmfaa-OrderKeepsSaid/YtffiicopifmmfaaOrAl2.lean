/- Facts of the program over abstract values. No condition. -/
import Derived.Test.YtffiicopifmmfaaOrTa
import Derived.Test.YtffiicopifmmfaaAiY
namespace Go.Proofs.Ytffiicopifmmfaa
set_option linter.unusedSimpArgs false
set_option linter.unusedVariables false
set_option linter.unnecessarySimpa false
set_option linter.unusedSectionVars false
open Go.Proofs.Try
open Go.Proofs.Ytffiicopifmmfaa.Ai
set_option maxRecDepth 100000
theorem alive_p : PCall prog 17 [] (.bool true) := ev_call (fr := [53, 73, 74]) (L := 200) (n := 12) mixed tabOK (by kernel_rfl)
end Go.Proofs.Ytffiicopifmmfaa
