/-
  GRID2: contracts of floor's functions on places and steps, further: step, distance, gridOf.
-/
import Derived.Test.YthehkapaipfoaaaGrid
import Derived.Outline
namespace Go.Proofs.Ythehkapaipfoaaa
set_option linter.unusedVariables false
set_option linter.unusedSimpArgs false
set_option maxRecDepth 100000
open Go.RowKit

set_option maxHeartbeats 800000 in
theorem gstep_any (a b p d : Int) (w : World) (ha : 2 ≤ a ∧ a ≤ 8) (hb : 2 ≤ b ∧ b ≤ 8) (hp : 0 ≤ p ∧ p < a * b) (hd : 0 ≤ d ∧ d < 4) :
    Calls Try.prog 68 #[.agg #[.int .i64 a, .int .i64 b], .int .i64 p, .int .i64 d] w fun e w' => e = .returned (.tuple #[.int .i64 (placeN a b (toX a p d) (toY a p d)), .bool (inStep a b p d)]) ∧ Below w.heap.size w w' := by
  have hsz := size_bd ha hb
  have hc := coords ha hp
  have L := Lib.hid (fun W => locate_any a b p W ha ⟨hp.1, by omega⟩)
  have P := Lib.hid (fun W => place_any a b (toX a p d) (toY a p d) W ha hb)
  have hx1 : 0 ≤ p % a := hc.1
  have hx2 : p % a ≤ 8 := by omega
  have hy1 : 0 ≤ p / a := hc.2.2.1
  have hy2 : p / a ≤ 8 := by omega
  rw [show inB a b (toX a p d) (toY a p d) = inStep a b p d from rfl] at P
  obtain ⟨x, hx⟩ : ∃ x, x = p % a := ⟨_, rfl⟩
  obtain ⟨y, hy⟩ : ∃ y, y = p / a := ⟨_, rfl⟩
  have X : Hid (toX a p d = if d = 1 then x + 1 else if d = 3 then x - 1 else x) := Lib.hid (by unfold toX; rw [hx])
  have Y : Hid (toY a p d = if d = 0 then y - 1 else if d = 2 then y + 1 else y) := Lib.hid (by unfold toY; rw [hy])
  rw [← hx] at L hx1 hx2
  rw [← hy] at L hy1 hy2
  clear hx hy hc hsz hp ha hb
  generalize toX a p d = tx at *
  generalize toY a p d = ty at *
  generalize inStep a b p d = bb at *
  rcases (show d = 0 ∨ d = 1 ∨ d = 2 ∨ d = 3 by omega) with rfl | rfl | rfl | rfl
  all_goals
    obtain ⟨rfl⟩ : tx = _ := X.out
    obtain ⟨rfl⟩ : ty = _ := Y.out
    clear X Y hd
    simp only [if_pos, if_neg, reduceIte, show ¬ ((0 : Int) = 1) from by decide, show ¬ ((0 : Int) = 3) from by decide, show ¬ ((1 : Int) = 0) from by decide, show ¬ ((1 : Int) = 2) from by decide, show ¬ ((2 : Int) = 1) from by decide, show ¬ ((2 : Int) = 3) from by decide, show ¬ ((2 : Int) = 0) from by decide, show ¬ ((3 : Int) = 0) from by decide, show ¬ ((3 : Int) = 1) from by decide, show ¬ ((3 : Int) = 2) from by decide] at P
    go_enter Try.func68, Try.ntmps68
    go_wp2_with fail
    refine (L.out _).mono ?_
    rintro e w1 ⟨rfl, hb1⟩
    have hbc := hb1.cell (p := ⟨w.heap.size, 0, none⟩) (by simp)
    have hbd := hb1.cell (p := ⟨w.heap.size, 1, none⟩) (by simp)
    have B1 := Lib.hid hb1; clear hb1
    go_wp2_with fail
    refine (P.out _).mono ?_
    rintro e w2 ⟨rfl, hb2⟩
    go_wp2
    go_ret2
    exact ⟨rfl, (((Below.refl _ _).alloc (Nat.le_refl _) _).trans (B1.out.mono (by simp))).trans (hb2.mono (by have := B1.out.size; simp at this; omega))⟩
end Go.Proofs.Ythehkapaipfoaaa
