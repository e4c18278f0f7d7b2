/-
  FLOORMATH: places, steps and distances of a grid in plain Lean; no program.
-/
import Derived.WalkKit
namespace Go.Proofs.Ytcbghchciplfcaa
set_option linter.unusedVariables false
set_option linter.unusedSimpArgs false
set_option maxRecDepth 100000

def sideB (n : Int) : Bool := decide (2 ≤ n ∧ n ≤ 8)
def gridB (w h : Int) : Bool := sideB w && sideB h
def hasB (w h p : Int) : Bool := decide (0 ≤ p ∧ p < w * h)
def inB (w h x y : Int) : Bool := decide (0 ≤ x ∧ x < w ∧ 0 ≤ y ∧ y < h)
def onB (w h p : Int) : Bool := gridB w h && hasB w h p
def cellsS (w h : Int) : Int × Int := if gridB w h then (w * h, 0) else (0, 2)
def locateS (w h p : Int) : Int × Int × Int := if onB w h p then (p % w, p / w, 0) else (0, 0, 2)
def placeS (w h x y : Int) : Int × Int := if gridB w h && inB w h x y then (y * w + x, 0) else (0, 2)
/-- the column and the row to which a step leads. -/
def toX (w p d : Int) : Int := if d = 1 then p % w + 1 else if d = 3 then p % w - 1 else p % w
def toY (w p d : Int) : Int := if d = 0 then p / w - 1 else if d = 2 then p / w + 1 else p / w
def stepS (w h p d : Int) : Int × Int :=
  if onB w h p && decide (0 ≤ d ∧ d < 4) then (if inB w h (toX w p d) (toY w p d) then (toY w p d * w + toX w p d, 0) else (0, 6)) else (0, 2)
def gapS (a b : Int) : Int := max (a - b) (b - a)
def distI (w p q : Int) : Int := gapS (p % w) (q % w) + gapS (p / w) (q / w)
def distS (w h p q : Int) : Int × Int := if onB w h p && onB w h q then (distI w p q, 0) else (0, 2)
def adjS (w h p q : Int) : Bool × Int := if onB w h p && onB w h q then (decide (distI w p q = 1), 0) else (false, 2)

theorem sideB_iff (n : Int) : sideB n = true ↔ 2 ≤ n ∧ n ≤ 8 := by unfold sideB; simp
theorem gridB_iff (w h : Int) : gridB w h = true ↔ (2 ≤ w ∧ w ≤ 8) ∧ (2 ≤ h ∧ h ≤ 8) := by unfold gridB; simp [sideB_iff]
theorem hasB_iff (w h p : Int) : hasB w h p = true ↔ 0 ≤ p ∧ p < w * h := by unfold hasB; simp
theorem inB_iff (w h x y : Int) : inB w h x y = true ↔ 0 ≤ x ∧ x < w ∧ 0 ≤ y ∧ y < h := by unfold inB; simp
theorem onB_iff (w h p : Int) : onB w h p = true ↔ ((2 ≤ w ∧ w ≤ 8) ∧ (2 ≤ h ∧ h ≤ 8)) ∧ 0 ≤ p ∧ p < w * h := by unfold onB; simp [gridB_iff, hasB_iff]
theorem size_bd {w h : Int} (hw : 2 ≤ w ∧ w ≤ 8) (hh : 2 ≤ h ∧ h ≤ 8) : 4 ≤ w * h ∧ w * h ≤ 64 := by
  obtain ⟨h1, h2⟩ := hw
  rcases (show w = 2 ∨ w = 3 ∨ w = 4 ∨ w = 5 ∨ w = 6 ∨ w = 7 ∨ w = 8 by omega) with rfl | rfl | rfl | rfl | rfl | rfl | rfl <;> omega
/-- the coordinates of a place. -/
theorem coords {w h p : Int} (hw : 2 ≤ w ∧ w ≤ 8) (hp : 0 ≤ p ∧ p < w * h) : 0 ≤ p % w ∧ p % w < w ∧ 0 ≤ p / w ∧ p / w < h ∧ p / w * w + p % w = p := by
  obtain ⟨h1, h2⟩ := hw
  rcases (show w = 2 ∨ w = 3 ∨ w = 4 ∨ w = 5 ∨ w = 6 ∨ w = 7 ∨ w = 8 by omega) with rfl | rfl | rfl | rfl | rfl | rfl | rfl <;> omega
/-- the place of coordinates. -/
theorem placed {w h x y : Int} (hw : 2 ≤ w ∧ w ≤ 8) (hx : 0 ≤ x ∧ x < w) (hy : 0 ≤ y ∧ y < h) : 0 ≤ y * w + x ∧ y * w + x < w * h ∧ (y * w + x) % w = x ∧ (y * w + x) / w = y := by
  obtain ⟨h1, h2⟩ := hw
  rcases (show w = 2 ∨ w = 3 ∨ w = 4 ∨ w = 5 ∨ w = 6 ∨ w = 7 ∨ w = 8 by omega) with rfl | rfl | rfl | rfl | rfl | rfl | rfl <;> omega
theorem gap_nonneg (a b : Int) : 0 ≤ gapS a b := by unfold gapS; omega
theorem gap_comm (a b : Int) : gapS a b = gapS b a := by unfold gapS; omega
theorem gap_zero (a b : Int) : gapS a b = 0 ↔ a = b := by unfold gapS; omega
theorem gap_tri (a b c : Int) : gapS a c ≤ gapS a b + gapS b c := by unfold gapS; omega
theorem dist_comm (w p q : Int) : distI w p q = distI w q p := by unfold distI; rw [gap_comm, gap_comm (p / w)]
theorem dist_nonneg (w p q : Int) : 0 ≤ distI w p q := by unfold distI; have := gap_nonneg (p % w) (q % w); have := gap_nonneg (p / w) (q / w); omega
theorem dist_tri (w p q r : Int) : distI w p r ≤ distI w p q + distI w q r := by
  unfold distI
  have := gap_tri (p % w) (q % w) (r % w)
  have := gap_tri (p / w) (q / w) (r / w)
  omega
theorem same_coords {w h p q : Int} (hw : 2 ≤ w ∧ w ≤ 8) (hp : 0 ≤ p ∧ p < w * h) (hq : 0 ≤ q ∧ q < w * h) (h1 : p % w = q % w) (h2 : p / w = q / w) : p = q := by
  have a := (coords hw hp).2.2.2.2
  have b := (coords hw hq).2.2.2.2
  rw [h1, h2] at a
  omega
theorem dist_zero {w h p q : Int} (hw : 2 ≤ w ∧ w ≤ 8) (hp : 0 ≤ p ∧ p < w * h) (hq : 0 ≤ q ∧ q < w * h) : distI w p q = 0 ↔ p = q := by
  constructor
  · intro h
    unfold distI at h
    have h1 := gap_nonneg (p % w) (q % w)
    have h2 := gap_nonneg (p / w) (q / w)
    exact same_coords hw hp hq ((gap_zero _ _).1 (by omega)) ((gap_zero _ _).1 (by omega))
  · rintro rfl
    unfold distI gapS
    omega
theorem dist_le {w h p q : Int} (hw : 2 ≤ w ∧ w ≤ 8) (hh : 2 ≤ h ∧ h ≤ 8) (hp : 0 ≤ p ∧ p < w * h) (hq : 0 ≤ q ∧ q < w * h) : distI w p q ≤ 14 := by
  have a := coords hw hp
  have b := coords hw hq
  unfold distI gapS
  omega
/-- the place to which a step leads, and its coordinates. -/
theorem stepped {w h p d : Int} (hw : 2 ≤ w ∧ w ≤ 8) (hin : inB w h (toX w p d) (toY w p d) = true) :
    (0 ≤ toY w p d * w + toX w p d ∧ toY w p d * w + toX w p d < w * h) ∧ (toY w p d * w + toX w p d) % w = toX w p d ∧ (toY w p d * w + toX w p d) / w = toY w p d := by
  obtain ⟨a, b, c, e⟩ := (inB_iff _ _ _ _).1 hin
  obtain ⟨p1, p2, p3, p4⟩ := placed (h := h) hw ⟨a, b⟩ ⟨c, e⟩
  exact ⟨⟨p1, p2⟩, p3, p4⟩
/-- a step changes the distance to any place by 1. -/
theorem dist_step {w h p d q : Int} (hw : 2 ≤ w ∧ w ≤ 8) (hd : 0 ≤ d ∧ d < 4) (hin : inB w h (toX w p d) (toY w p d) = true) :
    distI w (toY w p d * w + toX w p d) q = distI w p q + 1 ∨ distI w (toY w p d * w + toX w p d) q = distI w p q - 1 := by
  obtain ⟨_, h1, h2⟩ := stepped hw hin
  have e : distI w (toY w p d * w + toX w p d) q = gapS (toX w p d) (q % w) + gapS (toY w p d) (q / w) := by unfold distI; rw [h1, h2]
  rw [e]
  clear e h1 h2 hin
  unfold distI gapS toX toY
  rcases (show d = 0 ∨ d = 1 ∨ d = 2 ∨ d = 3 by omega) with rfl | rfl | rfl | rfl <;> simp <;> omega
/-- some step reduces the distance. -/
theorem dist_closer {w h p q : Int} (hw : 2 ≤ w ∧ w ≤ 8) (hp : 0 ≤ p ∧ p < w * h) (hq : 0 ≤ q ∧ q < w * h) (hn : distI w p q ≠ 0) :
    ∃ d : Int, (0 ≤ d ∧ d < 4) ∧ inB w h (toX w p d) (toY w p d) = true ∧ distI w (toY w p d * w + toX w p d) q = distI w p q - 1 := by
  have a := coords hw hp
  have b := coords hw hq
  have key : ∀ d : Int, (0 ≤ d ∧ d < 4) → inB w h (toX w p d) (toY w p d) = true → gapS (toX w p d) (q % w) + gapS (toY w p d) (q / w) = distI w p q - 1 →
      ∃ d : Int, (0 ≤ d ∧ d < 4) ∧ inB w h (toX w p d) (toY w p d) = true ∧ distI w (toY w p d * w + toX w p d) q = distI w p q - 1 := by
    intro d hd hin he
    obtain ⟨_, h1, h2⟩ := stepped hw hin
    exact ⟨d, hd, hin, by rw [← he]; unfold distI; rw [h1, h2]⟩
  rcases Int.lt_trichotomy (p % w) (q % w) with g | g | g
  · refine key 1 (by omega) ?_ ?_
    · rw [inB_iff]; simp only [toX, toY]; simp; omega
    · simp only [toX, toY, distI, gapS]; simp; omega
  · rcases Int.lt_trichotomy (p / w) (q / w) with g' | g' | g'
    · refine key 2 (by omega) ?_ ?_
      · rw [inB_iff]; simp only [toX, toY]; simp; omega
      · simp only [toX, toY, distI, gapS]; simp; omega
    · exact absurd ((dist_zero hw hp hq).2 (same_coords hw hp hq g g')) hn
    · refine key 0 (by omega) ?_ ?_
      · rw [inB_iff]; simp only [toX, toY]; simp; omega
      · simp only [toX, toY, distI, gapS]; simp; omega
  · refine key 3 (by omega) ?_ ?_
    · rw [inB_iff]; simp only [toX, toY]; simp; omega
    · simp only [toX, toY, distI, gapS]; simp; omega
end Go.Proofs.Ytcbghchciplfcaa
