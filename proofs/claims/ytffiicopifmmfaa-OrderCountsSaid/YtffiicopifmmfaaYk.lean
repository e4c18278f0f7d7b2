/- Facts of the program over abstract values. No condition. -/
import Derived.Test.YtffiicopifmmfaaYj
import Derived.Test.YtffiicopifmmfaaYo
set_option maxRecDepth 8000
namespace Go.Proofs.Ytffiicopifmmfaa
set_option linter.unusedSimpArgs false
set_option linter.unusedVariables false
set_option linter.unnecessarySimpa false
set_option linter.unusedSectionVars false
open Go.Proofs.Try
open Go.Proofs.Ytffiicopifmmfaa.Ai
set_option maxHeartbeats 4000000

theorem orderStates_pcall (a0 a1 a2 a3 : Int) (x4 : List AV) (a5 : Int) (_w0 : (Lit.int .i64 a0).wf = true) (_w1 : (Lit.int .i64 a1).wf = true) (_w2 : (Lit.int .i64 a2).wf = true) (_w3 : (Lit.int .u64 a3).wf = true) (d4 : Dat prog 24 x4) (_w5 : (Lit.int .u8 a5).wf = true) :
    PCall prog 4 [.int .i64 a0, .int .i64 a1, .int .i64 a2, .int .u64 a3, .agg x4, .int .u8 a5] (.bool true) := by
  obtain ⟨o, rfl⟩ := ord_dat d4
  exact law_states a0 a1 a2 a3 o a5
theorem orderCounts_pcall (x0 : List AV) (a1 a2 a3 : Int) (d0 : Dat prog 31 x0) (_w1 : (Lit.int .i64 a1).wf = true) (_w2 : (Lit.int .i64 a2).wf = true) (_w3 : (Lit.int .u64 a3).wf = true) :
    PCall prog 5 [.agg x0, .int .i64 a1, .int .i64 a2, .int .u64 a3] (.bool true) := by
  obtain ⟨cw, cm, rfl⟩ := count_datb d0
  exact law_counts cw cm a1 a2 a3
end Go.Proofs.Ytffiicopifmmfaa
