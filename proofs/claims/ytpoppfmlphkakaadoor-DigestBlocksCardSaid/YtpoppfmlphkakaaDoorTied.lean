/-
  TIED: what the condition 'laid' gives the walks, and the door's own heap, which meets it.
-/
import Derived.Test.YtpoppfmlphkakaaDoorSum
import Derived.Test.YtpoppfmlphkakaaDoorTie
import Derived.Test.YtpoppfmlphkakaaDoorCards
import Derived.Lib.LaidTab
import Derived.ProofKit
import Derived.LaidMore
import Derived.OpenShut
import Derived.Stop.Joined
import Derived.Stop.LaidErr
import Derived.SevenTiedAt
namespace Go.Proofs.YtpoppfmlphkakaaDoor
set_option linter.unusedVariables false
set_option linter.unusedSimpArgs false
set_option maxRecDepth 100000
open Go.ChangeShapes Go.WideShapes Go.ChangeAt Go.RowKit

def laid2 : List (String × DataW Unit) := [("dunnage/digest.firstState", Rows.laid_dunnage_digest_firstState), ("dunnage/digest.roundConstants", Rows.laid_dunnage_digest_roundConstants)]
theorem gFs : Tryd.prog.globalNamed "dunnage/digest.firstState" = some 0 := by kernel_rfl
theorem gRc : Tryd.prog.globalNamed "dunnage/digest.roundConstants" = some 1 := by kernel_rfl
theorem tFs : (Tryd.prog.globals[0]?).map (·.type) = some 40 := by kernel_rfl
theorem tRc : (Tryd.prog.globals[1]?).map (·.type) = some 91 := by kernel_rfl

theorem door_met (os : Os) (args : Array Value) : laidMetH Tryd.prog laid2 ((World.doorLaid Tryd.prog 400 os).forCall (fun _ _ => 0) ⟨#[], args, []⟩).memory :=
  laidMetH_of_parts3 (fuel := 8) (laidMet_of_run' 8 (by kernel_rfl) (by kernel_rfl)) (by kernel_rfl) (by kernel_rfl)

theorem tabs_of_laid {W : World} (h : laidMetH Tryd.prog laid2 W) :
    Lib.TabIs Tryd.prog W "dunnage/digest.firstState" .u32 (iv.list.map fun x : Nat => (x : Int)) ∧ Lib.TabIs Tryd.prog W "dunnage/digest.roundConstants" .u32 (rc.map fun x : Nat => (x : Int)) := by
  rw [MakeChecks.laidMetH_plain _ _ _ (by kernel_rfl)] at h
  exact ⟨Lib.tabIs_of_head gFs tFs Tryd.underlying40 Tryd.underlying39 (by kernel_rfl) (by kernel_rfl) (show laidMet Tryd.prog (("dunnage/digest.firstState", Lib.tabData .u32 (iv.list.map fun x : Nat => (x : Int))) :: _) W from h),
    Lib.tabIs_of_head (rest := []) gRc tRc Tryd.underlying91 Tryd.underlying39 (by kernel_rfl) (by kernel_rfl) (show laidMet Tryd.prog (("dunnage/digest.roundConstants", Lib.tabData .u32 (rc.map fun x : Nat => (x : Int))) :: []) W from laidMet.tail h)⟩
theorem has_fs {W : World} (h : laidMetH Tryd.prog laid2 W) : HasFs W := by
  obtain ⟨h1, h2⟩ := tabs_of_laid h
  have hc : ∀ i x, iv.list[i]? = some x → W.cell? ⟨0, i, none⟩ = some (u32v x) := by
    intro i x hx
    have hi : i < iv.list.length := (List.getElem?_eq_some_iff.1 hx).1
    rw [h1.cell gFs i (by rw [List.length_map]; exact hi)]
    simp [u32v, List.getD, hx]
  have hd : ∀ i x, rc[i]? = some x → W.cell? ⟨1, i, none⟩ = some (u32v x) := by
    intro i x hx
    have hi : i < rc.length := (List.getElem?_eq_some_iff.1 hx).1
    rw [h2.cell gRc i (by rw [List.length_map]; exact hi)]
    simp [u32v, List.getD, hx]
  have b0 := World.block_lt_of_cell? W _ (hc 0 _ rfl)
  have b1 := World.block_lt_of_cell? W _ (hd 0 _ rfl)
  exact ⟨by simp at b0 b1; omega, hc⟩
theorem has_rc {W : World} (h : laidMetH Tryd.prog laid2 W) : HasRc W := by
  obtain ⟨h1, h2⟩ := tabs_of_laid h
  have hd : ∀ i x, rc[i]? = some x → W.cell? ⟨1, i, none⟩ = some (u32v x) := by
    intro i x hx
    have hi : i < rc.length := (List.getElem?_eq_some_iff.1 hx).1
    rw [h2.cell gRc i (by rw [List.length_map]; exact hi)]
    simp [u32v, List.getD, hx]
  exact ⟨(has_fs h).1, hd⟩
end Go.Proofs.YtpoppfmlphkakaaDoor
