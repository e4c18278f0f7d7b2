/-
  The law package's helper 'hex': a digest as text.
-/
import Derived.Test.YtpoppfmlphkakaaDoorSum
import Derived.Test.YtpoppfmlphkakaaDoorTexts
namespace Go.Proofs.YtpoppfmlphkakaaDoor
set_option linter.unusedVariables false
set_option linter.unusedSimpArgs false
set_option maxRecDepth 100000
open Go.RowKit

set_option maxHeartbeats 1600000 in
theorem lawhex_ok (D : List UInt8) (w : World) (hD : D.length = 32) :
    Calls Tryd.prog 43 #[.agg (bv D).toArray, .int .i64 0] w fun e w' => e = .returned (.string ⟨(hexS D).1.toArray⟩) ∧ Below w.heap.size w w' := by
  have hr := reads_lit w 35 (bv D)
  have hr1 : Reads (w.alloc (.cells (bv D).toArray 35)) (w.alloc (.cells (bv D).toArray 35)).heap.size 1 (some ⟨w.heap.size, 0, none⟩) 32 (bv D) := by
    rw [bv_length, hD] at hr
    exact hr.more (by simp)
  have hx := hex_any _ 32 32 D _ hr1
  have h0 : (hexS D).2 = 0 := by unfold hexS; rw [if_neg (by omega)]
  rw [h0] at hx
  have hb : Below w.heap.size w (w.alloc (.cells (bv D).toArray 35)) := (Below.refl _ _).alloc (Nat.le_refl _) _
  have HX := Lib.hid hx; have HB := Lib.hid hb
  clear hr hr1 hx h0 hb hD
  generalize (bv D).toArray = V at *
  go_enter Tryd.func43, Tryd.ntmps43
  go_wp2_with fail
  refine HX.out.mono ?_
  rintro e w1 ⟨rfl, hb1⟩
  have hb2 := HB.out.trans (hb1.mono HB.out.size)
  have H2 := Lib.hid hb2
  clear hb1 hb2 HB HX
  go_wp2
  go_ret
  exact ⟨rfl, H2.out⟩
/-- An error: no text. -/
theorem lawhex_err (D : List UInt8) (k : Int) (w : World) (hD : D.length = 32) (hk : (k != 0) = true) :
    Calls Tryd.prog 43 #[.agg (bv D).toArray, .int .i64 k] w fun e w' => e = .returned (.string ⟨#[]⟩) ∧ Below w.heap.size w w' := by
  have hr := reads_lit w 35 (bv D)
  have hr1 : Reads (w.alloc (.cells (bv D).toArray 35)) (w.alloc (.cells (bv D).toArray 35)).heap.size 1 (some ⟨w.heap.size, 0, none⟩) 32 (bv D) := by
    rw [bv_length, hD] at hr
    exact hr.more (by simp)
  have hx := hex_any _ 32 32 D _ hr1
  have hb : Below w.heap.size w (w.alloc (.cells (bv D).toArray 35)) := (Below.refl _ _).alloc (Nat.le_refl _) _
  have HX := Lib.hid hx; have HB := Lib.hid hb
  clear hr hr1 hx hb hD
  generalize (bv D).toArray = V at *
  go_enter Tryd.func43, Tryd.ntmps43
  go_wp2_with fail
  refine HX.out.mono ?_
  rintro e w1 ⟨rfl, hb1⟩
  have hb2 := HB.out.trans (hb1.mono HB.out.size)
  have H2 := Lib.hid hb2
  clear hb1 hb2 HB HX
  go_wp2
  go_ret
  exact ⟨rfl, H2.out⟩
end Go.Proofs.YtpoppfmlphkakaaDoor
