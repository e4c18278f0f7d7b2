/- Facts of the program over abstract values. No condition. -/
import Derived.Test.YtffiicopifmmfaaZh
import Derived.Test.YtffiicopifmmfaaZv
set_option linter.unusedSimpArgs false
set_option linter.unusedVariables false
set_option maxRecDepth 8000
namespace Go.Proofs.Ytffiicopifmmfaa
set_option linter.unusedSimpArgs false
set_option linter.unusedVariables false
set_option linter.unnecessarySimpa false
set_option linter.unusedSectionVars false
open Go.Proofs.Try
open Go.Proofs.Ytffiicopifmmfaa.Ai
set_option maxHeartbeats 4000000

def nwO (i p d a : Int) : O := bif decide (newE i p d a = 0) then ⟨i, p, d, 1, a, 0⟩ else zO
def avO (o : O) (st now : Int) : O := bif decide (advE o st now = 0) then advO o st now else zO
theorem new_p (i p d a : Int) : PCall prog 16 [.int .i64 i, .int .i64 p, .int .i64 d, .int .u64 a] (.tup [.agg (oc (nwO i p d a)), .int .i64 (newE i p d a)]) := by
  by_cases h : chkE i p d 1 a 0 = 0
  · have e : newE i p d a = 0 := by simp [newE, h]
    have e2 : nwO i p d a = ⟨i, p, d, 1, a, 0⟩ := by simp [nwO, e]
    rw [e, e2]; exact new_ok i p d a h
  · have e : newE i p d a = 2 := by simp [newE, h]
    have e2 : nwO i p d a = zO := by simp [nwO, e]
    rw [e, e2]; exact new_bad i p d a h
theorem advance_p (o : O) (st now : Int) : PCall prog 18 [.agg (oc o), .int .u8 st, .int .u64 now] (.tup [.agg (oc (avO o st now)), .int .i64 (advE o st now)]) := by
  by_cases h : advE o st now = 0
  · have e2 : avO o st now = advO o st now := by simp [avO, h]
    rw [h, e2]; exact adv_ok o st now h
  · have e2 : avO o st now = zO := by simp [avO, h]
    rw [e2]; exact adv_bad o st now h
end Go.Proofs.Ytffiicopifmmfaa
