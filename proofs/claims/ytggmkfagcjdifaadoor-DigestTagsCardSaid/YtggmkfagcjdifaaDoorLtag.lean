/- Facts of the program over abstract values. No condition. -/
import Derived.Test.YtggmkfagcjdifaaDoorEk
import Derived.Test.YtggmkfagcjdifaaDoorEm
set_option linter.unusedSimpArgs false
set_option maxRecDepth 8000
namespace Go.Proofs.YtggmkfagcjdifaaDoor
set_option linter.unusedSimpArgs false
set_option linter.unusedVariables false
set_option linter.unnecessarySimpa false
set_option linter.unusedSectionVars false
open Go.Proofs.Tryd
open Go.Proofs.YtggmkfagcjdifaaDoor.Ai
set_option maxHeartbeats 4000000
set_option linter.unusedVariables false
open Go.Proofs.YtggmkfagcjdifaaDoor.Sh hiding mixed

theorem digestTags_pcall (x0 x1 : AV) (x2 : List AV) (d0 : Dat prog 22 [x0]) (d1 : Dat prog 22 [x1]) (d2 : Dat prog 35 x2) : PCall prog 7 [x0, x1, .agg x2] (.bool true) := by
  obtain ⟨k, e0, hk⟩ := bytes_dat d0
  obtain ⟨b, e1, hb⟩ := bytes_dat d1
  obtain ⟨t, rfl, ht⟩ := arr_dat (n := 32) (by kernel_rfl) (by kernel_rfl) d2
  simp only [List.cons.injEq, and_true] at e0 e1
  subst e0 e1
  exact law7 k b t hk hb ht
end Go.Proofs.YtggmkfagcjdifaaDoor
