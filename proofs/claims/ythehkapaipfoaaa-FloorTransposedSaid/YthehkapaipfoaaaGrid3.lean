/-
  GRID3: contracts of floor's functions on places and steps, further: distance, gridOf.
-/
import Derived.Test.YthehkapaipfoaaaGrid2
import Derived.Outline
namespace Go.Proofs.Ythehkapaipfoaaa
set_option linter.unusedVariables false
set_option linter.unusedSimpArgs false
set_option maxRecDepth 100000
open Go.RowKit

set_option maxHeartbeats 800000 in
theorem gdist_any (a b p q : Int) (w : World) (ha : 2 ≤ a ∧ a ≤ 8) (hb : 2 ≤ b ∧ b ≤ 8) (hp : 0 ≤ p ∧ p < a * b) (hq : 0 ≤ q ∧ q < a * b) :
    Calls Try.prog 69 #[.agg #[.int .i64 a, .int .i64 b], .int .i64 p, .int .i64 q] w fun e w' => e = .returned (.int .i64 (distI a p q)) ∧ Below w.heap.size w w' := by
  have hsz := size_bd ha hb
  have hc := coords ha hp
  have hc' := coords ha hq
  have L := Lib.hid (fun W => locate_any a b p W ha ⟨hp.1, by omega⟩)
  have L' := Lib.hid (fun W => locate_any a b q W ha ⟨hq.1, by omega⟩)
  have G := Lib.hid (fun W => gap_any (p % a) (q % a) W ⟨hc.1, by omega⟩ ⟨hc'.1, by omega⟩)
  have G' := Lib.hid (fun W => gap_any (p / a) (q / a) W ⟨hc.2.2.1, by omega⟩ ⟨hc'.2.2.1, by omega⟩)
  have g1 := gap_nonneg (p % a) (q % a)
  have g2 := gap_nonneg (p / a) (q / a)
  have g3 : gapS (p % a) (q % a) ≤ 8 := by unfold gapS; omega
  have g4 : gapS (p / a) (q / a) ≤ 8 := by unfold gapS; omega
  rw [show distI a p q = gapS (p % a) (q % a) + gapS (p / a) (q / a) from rfl]
  clear hsz hc hc' hp hq ha hb
  generalize gapS (p % a) (q % a) = gx at *
  generalize gapS (p / a) (q / a) = gy at *
  generalize p % a = x at *
  generalize p / a = y at *
  generalize q % a = x' at *
  generalize q / a = y' at *
  go_enter Try.func69, Try.ntmps69
  go_wp2_with fail
  refine (L.out _).mono ?_
  rintro e w1 ⟨rfl, hb1⟩
  have hbc := hb1.cell (p := ⟨w.heap.size, 0, none⟩) (by simp)
  have hbd := hb1.cell (p := ⟨w.heap.size, 1, none⟩) (by simp)
  have B1 := Lib.hid (((Below.refl _ _).alloc (Nat.le_refl _) _).trans (hb1.mono (by simp))); clear hb1
  go_wp2_with fail
  refine (L'.out _).mono ?_
  rintro e w2 ⟨rfl, hb2⟩
  have B2 := Lib.hid (B1.out.trans (hb2.mono B1.out.size)); clear hb2
  go_wp2_with fail
  refine (G.out _).mono ?_
  rintro e w3 ⟨rfl, rfl⟩
  go_wp2_with fail
  refine (G'.out _).mono ?_
  rintro e w4 ⟨rfl, rfl⟩
  go_wp2
  go_ret
  exact ⟨rfl, B2.out⟩
end Go.Proofs.Ythehkapaipfoaaa
