/- Facts of the program over abstract values. No condition. -/
import Derived.Test.YtffiicopifmmfaaZm
set_option linter.unusedSimpArgs false
set_option maxRecDepth 8000
namespace Go.Proofs.Ytffiicopifmmfaa
set_option linter.unusedSimpArgs false
set_option linter.unusedVariables false
set_option linter.unnecessarySimpa false
set_option linter.unusedSectionVars false
open Go.Proofs.Try
open Go.Proofs.Ytffiicopifmmfaa.Ai
set_option maxHeartbeats 4000000

/-! Orders in and outside of a book -/
theorem ordE_in {b : Bk} {m : Tm} (h0 : bookE b m = 0) {k : Nat} (hk : k < b.os.length) : ordE b m ((k : Int) + 1) = 0 := by
  have : inB 1 b.os.length ((k : Int) + 1) = true := by simp [inB]; omega
  simp [ordE, h0, this]
theorem ordAt_in {b : Bk} {k : Nat} {x : O} (hx : b.os[k]? = some x) : ordAt b ((k : Int) + 1) = x := by
  simp only [ordAt, show ((k : Int) + 1 - 1).toNat = k by omega, List.getD, hx, Option.getD_some]
theorem ordE_out {b : Bk} {m : Tm} (h0 : bookE b m = 0) {id : Int} (hk : id < 1 ∨ (b.os.length : Int) < id) : ordE b m id = 6 := by
  have : inB 1 b.os.length id = false := by simp [inB]; omega
  simp [ordE, h0, this]
theorem okU_at {m : Tm} {os : List O} {k : Nat} {x : O} (hx : os[k]? = some x) (h : okU m os os.length = true) : okO m k x = true := by
  cases h1 : okO m k x
  · rw [okU_bad hx h1] at h; cases h
  · rfl
end Go.Proofs.Ytffiicopifmmfaa
