/-
  What the condition 'laid' gives the calls over abstract values: the program's two tables stand. The door's own heap meets it. No further condition.
-/
import Derived.Test.YtggmkfagcjdifaaDoorAiT
import Derived.Test.YtggmkfagcjdifaaDoorTie
import Derived.Test.YtggmkfagcjdifaaDoorCards
import Derived.Lib.LaidTab
import Derived.ProofKit
import Derived.LaidMore
import Derived.OpenShut
import Derived.Stop.Joined
import Derived.Stop.LaidErr
import Derived.SevenTiedAt
namespace Go.Proofs.YtggmkfagcjdifaaDoor
set_option linter.unusedVariables false
set_option linter.unusedSimpArgs false
set_option maxRecDepth 100000
open Go.ChangeShapes Go.WideShapes Go.ChangeAt Go.RowKit Go.Proofs.YtggmkfagcjdifaaDoor.Ai

def laid2 : List (String × DataW Unit) := [("dunnage/digest.firstState", Rows.laid_dunnage_digest_firstState), ("dunnage/digest.roundConstants", Rows.laid_dunnage_digest_roundConstants)]
theorem gFs : Tryd.prog.globalNamed "dunnage/digest.firstState" = some 0 := by kernel_rfl
theorem gRc : Tryd.prog.globalNamed "dunnage/digest.roundConstants" = some 1 := by kernel_rfl
theorem tFs : (Tryd.prog.globals[0]?).map (·.type) = some 40 := by kernel_rfl
theorem tRc : (Tryd.prog.globals[1]?).map (·.type) = some 91 := by kernel_rfl

theorem door_met (os : Os) (args : Array Value) : laidMetH Tryd.prog laid2 ((World.doorLaid Tryd.prog 400 os).forCall (fun _ _ => 0) ⟨#[], args, []⟩).memory :=
  laidMetH_of_parts3 (fuel := 8) (laidMet_of_run' 8 (by kernel_rfl) (by kernel_rfl)) (by kernel_rfl) (by kernel_rfl)

theorem tabs_of_laid {W : World} (h : laidMetH Tryd.prog laid2 W) :
    Lib.TabIs Tryd.prog W "dunnage/digest.firstState" .u32 ivN ∧ Lib.TabIs Tryd.prog W "dunnage/digest.roundConstants" .u32 rcN := by
  unfold ivN rcN
  rw [MakeChecks.laidMetH_plain _ _ _ (by kernel_rfl)] at h
  exact ⟨Lib.tabIs_of_head gFs tFs Tryd.underlying40 Tryd.underlying39 (by kernel_rfl) (by kernel_rfl) (show laidMet Tryd.prog (("dunnage/digest.firstState", Lib.tabData .u32 _) :: _) W from h),
    Lib.tabIs_of_head (rest := []) gRc tRc Tryd.underlying91 Tryd.underlying39 (by kernel_rfl) (by kernel_rfl) (show laidMet Tryd.prog (("dunnage/digest.roundConstants", Lib.tabData .u32 _) :: []) W from laidMet.tail h)⟩
theorem rop_of_tab {W : World} {name : String} {zs : List Int} {g : Nat} (h : Lib.TabIs Tryd.prog W name .u32 zs) (hg : Tryd.prog.globalNamed name = some g) (h0 : 0 < zs.length) :
    VR (InF W) W (fun _ => (0, 0)) (fun _ => False) (.rop (zs.map fun n => .int .u32 n)) (.pointer (some ⟨g, 0, none⟩)) := by
  have hc : ∀ i, i < zs.length → W.cell? ⟨g, i, none⟩ = some (.int .u32 (zs.getD i 0)) := fun i hi => h.cell hg i hi
  have hb := hc 0 h0
  unfold World.cell? at hb
  split at hb
  · rename_i c t fz hcell
    have hcell : W.heap[g]? = some (Obj.cells c t fz) := hcell
    have hk : ∀ i, i < zs.length → c[i]? = some (.int .u32 (zs.getD i 0)) := fun i hi => by
      have := hc i hi
      unfold World.cell? at this
      rw [show W.heap[(⟨g, i, none⟩ : Addr).block]? = some (Obj.cells c t fz) from hcell] at this
      simpa using this
    have hsz : zs.length ≤ c.size := by
      have := hk (zs.length - 1) (by omega)
      have := (Array.getElem?_eq_some_iff.1 this).1
      omega
    refine .rop _ g 0 c t fz hcell (lt_of_heap hcell) (by simpa using hsz) fun j v hj => ?_
    simp only [List.getElem?_map, Option.map_eq_some_iff] at hj
    obtain ⟨n, hn, rfl⟩ := hj
    have hj : j < zs.length := (List.getElem?_eq_some_iff.1 hn).1
    have h1 := hk j hj
    have h2 : zs.getD j 0 = n := by simp [List.getD, hn]
    rw [h2] at h1
    rw [Nat.zero_add, Array.getD_eq_getD_getElem?, h1]
    exact .int _ _
  · cases hb
theorem old_of_laid {W : World} (h : laidMetH Tryd.prog laid2 W) : Old (InF W) W := by
  obtain ⟨h1, h2⟩ := tabs_of_laid h
  refine ⟨fun _ h => h, fun x hx => ?_⟩
  have e1 : ivN.length = 8 := by unfold ivN; rfl
  have e2 : rcN.length = 64 := by unfold rcN; rfl
  unfold gtab at hx
  simp only [List.mem_cons, List.not_mem_nil, or_false] at hx
  rcases hx with rfl | rfl
  · have := rop_of_tab h1 gFs (by omega)
    unfold fsT; exact this
  · have := rop_of_tab h2 gRc (by omega)
    unfold rcT; exact this
end Go.Proofs.YtggmkfagcjdifaaDoor
