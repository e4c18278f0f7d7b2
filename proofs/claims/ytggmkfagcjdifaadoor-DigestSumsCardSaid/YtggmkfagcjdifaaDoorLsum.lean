/- Facts of the program over abstract values. No condition. -/
import Derived.Test.YtggmkfagcjdifaaDoorEj
import Derived.Test.YtggmkfagcjdifaaDoorEm
set_option linter.unusedSimpArgs false
set_option maxRecDepth 8000
namespace Go.Proofs.YtggmkfagcjdifaaDoor
set_option linter.unusedSimpArgs false
set_option linter.unusedVariables false
set_option linter.unnecessarySimpa false
set_option linter.unusedSectionVars false
open Go.Proofs.Tryd
open Go.Proofs.YtggmkfagcjdifaaDoor.Ai
set_option maxHeartbeats 4000000
set_option linter.unusedVariables false
open Go.Proofs.YtggmkfagcjdifaaDoor.Sh hiding mixed

theorem digestSums_pcall (x0 : AV) (d0 : Dat prog 22 [x0]) : PCall prog 6 [x0] (.bool true) := by
  obtain ⟨l, e, hl⟩ := bytes_dat d0
  simp only [List.cons.injEq, and_true] at e
  subst e
  exact law6 l hl
end Go.Proofs.YtggmkfagcjdifaaDoor
