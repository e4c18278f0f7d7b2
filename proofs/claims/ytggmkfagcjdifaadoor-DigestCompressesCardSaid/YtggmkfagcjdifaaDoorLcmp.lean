/- Facts of the program over abstract values. No condition. -/
import Derived.Test.YtggmkfagcjdifaaDoorEl
import Derived.Test.YtggmkfagcjdifaaDoorEm
set_option linter.unusedSimpArgs false
set_option maxRecDepth 8000
namespace Go.Proofs.YtggmkfagcjdifaaDoor
set_option linter.unusedSimpArgs false
set_option linter.unusedVariables false
set_option linter.unnecessarySimpa false
set_option linter.unusedSectionVars false
open Go.Proofs.Tryd
open Go.Proofs.YtggmkfagcjdifaaDoor.Ai
set_option maxHeartbeats 4000000
set_option linter.unusedVariables false
open Go.Proofs.YtggmkfagcjdifaaDoor.Sh hiding mixed

theorem digestCompresses_pcall (x0 x1 : List AV) (d0 : Dat prog 40 x0) (d1 : Dat prog 48 x1) : PCall prog 4 [.agg x0, .agg x1] (.bool true) := by
  obtain ⟨s, rfl, hs⟩ := st_dat d0
  obtain ⟨l, rfl, hl⟩ := arr_dat (n := 64) (by kernel_rfl) (by kernel_rfl) d1
  exact law4 s hs l hl
end Go.Proofs.YtggmkfagcjdifaaDoor
