/- Facts of the program over abstract values. No condition. -/
import Derived.Test.YtffiicopifmmfaaYr1
import Derived.Test.YtffiicopifmmfaaYo
set_option linter.unusedSimpArgs false
set_option linter.unusedVariables false
set_option maxRecDepth 8000
namespace Go.Proofs.Ytffiicopifmmfaa
set_option linter.unusedSimpArgs false
set_option linter.unusedVariables false
set_option linter.unnecessarySimpa false
set_option linter.unusedSectionVars false
open Go.Proofs.Try
open Go.Proofs.Ytffiicopifmmfaa.Ai
set_option maxHeartbeats 4000000

theorem orderRoom_pcall (x0 x1 : List AV) (a2 a3 a4 a5 : Int) (d0 : Dat prog 52 x0) (d1 : Dat prog 46 x1) (w2 : (Lit.int .i64 a2).wf = true) (w3 : (Lit.int .i64 a3).wf = true) (w4 : (Lit.int .u64 a4).wf = true) (w5 : (Lit.int .u8 a5).wf = true) :
    PCall prog 14 [.agg x0, .agg x1, .int .i64 a2, .int .i64 a3, .int .u64 a4, .int .u8 a5] (.bool true) := by
  obtain ⟨b, m, rfl, rfl, h⟩ := fit_dat d0 d1
  simp only [Lit.wf, Bool.and_eq_true, decide_eq_true_eq] at w4 w5
  have h1 : IntKind.u64.min = 0 := rfl
  have h2 : IntKind.u8.min = 0 := rfl
  have h3 : IntKind.u8.max = 255 := rfl
  exact law_room b m a2 a3 a4 a5 h (by omega) (by omega) (by omega)
end Go.Proofs.Ytffiicopifmmfaa
