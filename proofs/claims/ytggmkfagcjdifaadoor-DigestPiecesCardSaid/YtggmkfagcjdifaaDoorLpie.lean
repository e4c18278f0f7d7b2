/- Facts of the program over abstract values. No condition. -/
import Derived.Test.YtggmkfagcjdifaaDoorFm
import Derived.Test.YtggmkfagcjdifaaDoorEm
set_option linter.unusedSimpArgs false
set_option maxRecDepth 8000
namespace Go.Proofs.YtggmkfagcjdifaaDoor
set_option linter.unusedSimpArgs false
set_option linter.unusedVariables false
set_option linter.unnecessarySimpa false
set_option linter.unusedSectionVars false
open Go.Proofs.Tryd
open Go.Proofs.YtggmkfagcjdifaaDoor.Ai
set_option maxHeartbeats 4000000
set_option linter.unusedVariables false
open Go.Proofs.YtggmkfagcjdifaaDoor.Sh hiding mixed

theorem pieces_dat : ∀ {es : List (List AV)}, (∀ x ∈ es, Dat prog 22 x) → ∃ ps : List (List UInt8), es = ps.map (fun p => [bsV p]) ∧ ∀ p ∈ ps, p.length < 2 ^ 48
  | [], _ => ⟨[], rfl, by simp⟩
  | x :: es, h => by
    obtain ⟨ps, rfl, h2⟩ := pieces_dat (es := es) fun y hy => h y (List.mem_cons_of_mem _ hy)
    obtain ⟨l, rfl, hl⟩ := bytes_dat (h x List.mem_cons_self)
    exact ⟨l :: ps, rfl, fun p hp => (List.mem_cons.1 hp).elim (fun e => e ▸ hl) (h2 p)⟩
theorem digestPieces_pcall (x0 : AV) (d0 : Dat prog 74 [x0]) : PCall prog 10 [x0] (.bool true) := by
  obtain ⟨es, e0, hl, _, hx⟩ := d0.slice_inv (e := 22) (by kernel_rfl)
  obtain ⟨ps, rfl, hp⟩ := pieces_dat hx
  simp only [List.cons.injEq, and_true] at e0
  subst e0
  have h1 : prog.cellsOf 22 = 1 := by kernel_rfl
  have h2 : prog.bytesOf 22 = 24 := by kernel_rfl
  rw [h2] at hl
  rw [h1]
  have := reach47
  exact law10 ps (by simp only [List.length_map] at hl; omega) hp
end Go.Proofs.YtggmkfagcjdifaaDoor
