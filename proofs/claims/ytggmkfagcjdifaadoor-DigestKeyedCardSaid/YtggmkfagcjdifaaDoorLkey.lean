/- Facts of the program over abstract values. No condition. -/
import Derived.Test.YtggmkfagcjdifaaDoorFl
import Derived.Test.YtggmkfagcjdifaaDoorEm
set_option linter.unusedSimpArgs false
set_option maxRecDepth 8000
namespace Go.Proofs.YtggmkfagcjdifaaDoor
set_option linter.unusedSimpArgs false
set_option linter.unusedVariables false
set_option linter.unnecessarySimpa false
set_option linter.unusedSectionVars false
open Go.Proofs.Tryd
open Go.Proofs.YtggmkfagcjdifaaDoor.Ai
set_option maxHeartbeats 4000000
set_option linter.unusedVariables false
open Go.Proofs.YtggmkfagcjdifaaDoor.Sh hiding mixed

theorem digestKeyed_pcall (x0 x1 : AV) (a2 a3 : Int) (d0 : Dat prog 22 [x0]) (d1 : Dat prog 22 [x1]) (w2 : (Lit.int .u8 a2).wf = true) (w3 : (Lit.int .u8 a3).wf = true) : PCall prog 12 [x0, x1, .int .u8 a2, .int .u8 a3] (.bool true) := by
  obtain ⟨k, e0, hk⟩ := bytes_dat d0
  obtain ⟨b, e1, hb⟩ := bytes_dat d1
  simp only [List.cons.injEq, and_true] at e0 e1
  subst e0 e1
  have h2 := wf_u8 w2
  have h3 := wf_u8 w3
  have := law12 k b (UInt8.ofNat a2.toNat) (UInt8.ofNat a3.toNat) hk hb
  simp only [u8c, UInt8.toNat_ofNat'] at this
  rw [show (((a2.toNat % 2 ^ 8 : Nat)) : Int) = a2 from by omega, show (((a3.toNat % 2 ^ 8 : Nat)) : Int) = a3 from by omega] at this
  exact this
end Go.Proofs.YtggmkfagcjdifaaDoor
