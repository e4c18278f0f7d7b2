/-
  SIX: the helper 'six' of the laws of floor.
-/
import Derived.Test.YthehkapaipfoaaaLawHelp
namespace Go.Proofs.Ythehkapaipfoaaa
set_option linter.unusedVariables false
set_option linter.unusedSimpArgs false
set_option maxRecDepth 100000
open Go.RowKit

set_option maxHeartbeats 800000 in
theorem six_any (w : World) : Calls Try.prog 27 #[] w fun e w' => ∃ A c, e = .returned (.agg #[.int .i64 3, .int .i64 2, .slice A 6 c]) ∧ Hid (Reads w' w'.heap.size 1 A 6 (bv sixL)) ∧ Below w.heap.size w w' := by
  have hr := lit_reads (w.alloc (.cells #[.int .i64 3, .int .i64 2, .slice (some ⟨w.heap.size + 1, 0, none⟩) 6 6] 34)) 5 sixL #[.int .u8 1, .int .u8 255, .int .u8 2, .int .u8 0, .int .u8 255, .int .u8 1] rfl
  have hb : Blk ((w.alloc (.cells #[.int .i64 3, .int .i64 2, .slice (some ⟨w.heap.size + 1, 0, none⟩) 6 6] 34)).alloc (.cells #[.int .u8 1, .int .u8 255, .int .u8 2, .int .u8 0, .int .u8 255, .int .u8 1] 5)) w.heap.size 34 (b3 3 2 (.slice (some ⟨w.heap.size + 1, 0, none⟩) 6 6)) := (Blk.new w 34 (b3 3 2 (.slice (some ⟨w.heap.size + 1, 0, none⟩) 6 6))).alloc _
  have hB : Below w.heap.size w ((w.alloc (.cells #[.int .i64 3, .int .i64 2, .slice (some ⟨w.heap.size + 1, 0, none⟩) 6 6] 34)).alloc (.cells #[.int .u8 1, .int .u8 255, .int .u8 2, .int .u8 0, .int .u8 255, .int .u8 1] 5)) := ((Below.refl _ _).alloc (Nat.le_refl _) _).alloc (by simp) _
  rw [show (w.alloc (.cells #[.int .i64 3, .int .i64 2, .slice (some ⟨w.heap.size + 1, 0, none⟩) 6 6] 34)).heap.size = w.heap.size + 1 from by simp] at hr
  have HR := Lib.hid hr; have HB := Lib.hid hb; have HL := Lib.hid hB
  clear hr hb hB
  go_enter Try.func27, Try.ntmps27
  go_wp2
  generalize (w.alloc _).alloc _ = W at HR HB HL ⊢
  refine bodyPost_ret (v := .agg (b3 3 2 (.slice (some ⟨w.heap.size + 1, 0, none⟩) 6 6))) ?_ rfl ?_
  · exact results_cell_row rfl _ _ w.heap.size 34 _ (0, 0) _ rfl HB.out Try.underlying34 rfl (f3_info _ _ _)
  · exact ⟨_, _, rfl, HR, HL.out⟩
end Go.Proofs.Ythehkapaipfoaaa
