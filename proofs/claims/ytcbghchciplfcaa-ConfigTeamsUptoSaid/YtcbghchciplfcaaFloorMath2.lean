/-
  FLOORMATH2: steps that are undone, steps that commute, adjacent places; no program.
-/
import Derived.Test.YtcbghchciplfcaaFloorMath
namespace Go.Proofs.Ytcbghchciplfcaa
set_option linter.unusedVariables false
set_option linter.unusedSimpArgs false
set_option maxRecDepth 100000

def toP (w p d : Int) : Int := toY w p d * w + toX w p d
def inStep (w h p d : Int) : Bool := inB w h (toX w p d) (toY w p d)
theorem stepS_eq (w h p d : Int) : stepS w h p d = if onB w h p && decide (0 ≤ d ∧ d < 4) then (if inStep w h p d then (toP w p d, 0) else (0, 6)) else (0, 2) := rfl
theorem step_split (w h p d : Int) : (stepS w h p d = (0, 2) ∧ (onB w h p = false ∨ ¬ (0 ≤ d ∧ d < 4))) ∨ (stepS w h p d = (0, 6) ∧ onB w h p = true ∧ (0 ≤ d ∧ d < 4) ∧ inStep w h p d = false) ∨
    (stepS w h p d = (toP w p d, 0) ∧ onB w h p = true ∧ (0 ≤ d ∧ d < 4) ∧ inStep w h p d = true) := by
  rw [stepS_eq]
  cases h1 : onB w h p
  · exact .inl ⟨by simp, .inl rfl⟩
  · by_cases h2 : 0 ≤ d ∧ d < 4
    · cases h3 : inStep w h p d
      · exact .inr (.inl ⟨by simp [h2], rfl, h2, rfl⟩)
      · exact .inr (.inr ⟨by simp [h2], rfl, h2, rfl⟩)
    · exact .inl ⟨by simp [h2], .inr h2⟩
theorem step_no {w h p d : Int} (h1 : onB w h p = true) (h2 : 0 ≤ d ∧ d < 4) (h3 : inStep w h p d = false) : stepS w h p d = (0, 6) := by
  rw [stepS_eq]; simp [h1, h2, h3]
theorem step_yes {w h p d : Int} (h1 : onB w h p = true) (h2 : 0 ≤ d ∧ d < 4) (h3 : inStep w h p d = true) : stepS w h p d = (toP w p d, 0) := by
  rw [stepS_eq]; simp [h1, h2, h3]
theorem step_arg {w h p d : Int} (h1 : onB w h p = false ∨ ¬ (0 ≤ d ∧ d < 4)) : stepS w h p d = (0, 2) := by
  rw [stepS_eq]
  rcases h1 with h1 | h1
  · simp [h1]
  · cases onB w h p <;> simp [h1]
theorem toP_on {w h p d : Int} (h1 : onB w h p = true) (h3 : inStep w h p d = true) : onB w h (toP w p d) = true ∧ (toP w p d) % w = toX w p d ∧ (toP w p d) / w = toY w p d := by
  obtain ⟨⟨hw, hh⟩, hp⟩ := (onB_iff _ _ _).1 h1
  obtain ⟨a, b, c⟩ := stepped (h := h) hw h3
  exact ⟨(onB_iff _ _ _).2 ⟨⟨hw, hh⟩, a⟩, b, c⟩
theorem inStep_iff (w h p d : Int) : inStep w h p d = true ↔ 0 ≤ toX w p d ∧ toX w p d < w ∧ 0 ≤ toY w p d ∧ toY w p d < h := inB_iff _ _ _ _
theorem toP_self {w h p : Int} (h1 : onB w h p = true) : p / w * w + p % w = p := by
  obtain ⟨⟨hw, hh⟩, hp⟩ := (onB_iff _ _ _).1 h1
  exact (coords hw hp).2.2.2.2

theorem turn_back {w h p d : Int} (h1 : onB w h p = true) (h2 : 0 ≤ d ∧ d < 4) (h3 : inStep w h p d = true) : stepS w h (toP w p d) ((d + 2) % 4) = (p, 0) := by
  obtain ⟨g1, g2, g3⟩ := toP_on h1 h3
  obtain ⟨⟨hw, hh⟩, hp⟩ := (onB_iff _ _ _).1 h1
  have hc := coords hw hp
  have hx : toX w (toP w p d) ((d + 2) % 4) = p % w := by
    unfold toX at g2 ⊢
    rw [g2]
    rcases (show d = 0 ∨ d = 1 ∨ d = 2 ∨ d = 3 by omega) with rfl | rfl | rfl | rfl <;> simp <;> omega
  have hy : toY w (toP w p d) ((d + 2) % 4) = p / w := by
    unfold toY at g3 ⊢
    rw [g3]
    rcases (show d = 0 ∨ d = 1 ∨ d = 2 ∨ d = 3 by omega) with rfl | rfl | rfl | rfl <;> simp <;> omega
  rw [step_yes g1 (by omega) (by rw [inStep_iff, hx, hy]; omega)]
  unfold toP
  unfold toP at hx hy
  rw [hx, hy, hc.2.2.2.2]

theorem turn_swap {w h p d e : Int} (h1 : onB w h p = true) (hd : 0 ≤ d ∧ d < 4) (he : 0 ≤ e ∧ e < 4) (hde : (d + e) % 2 ≠ 0) (h3 : inStep w h p d = true) (h4 : inStep w h p e = true) :
    ∃ c, stepS w h (toP w p d) e = (c, 0) ∧ stepS w h (toP w p e) d = (c, 0) := by
  obtain ⟨a1, a2, a3⟩ := toP_on h1 h3
  obtain ⟨b1, b2, b3⟩ := toP_on h1 h4
  have i3 := (inStep_iff _ _ _ _).1 h3
  have i4 := (inStep_iff _ _ _ _).1 h4
  have hx : toX w (toP w p d) e = toX w (toP w p e) d := by
    unfold toX at a2 b2 ⊢
    rw [a2, b2]
    rcases (show d = 0 ∨ d = 1 ∨ d = 2 ∨ d = 3 by omega) with rfl | rfl | rfl | rfl <;> rcases (show e = 0 ∨ e = 1 ∨ e = 2 ∨ e = 3 by omega) with rfl | rfl | rfl | rfl <;> simp at hde ⊢
  have hy : toY w (toP w p d) e = toY w (toP w p e) d := by
    unfold toY at a3 b3 ⊢
    rw [a3, b3]
    rcases (show d = 0 ∨ d = 1 ∨ d = 2 ∨ d = 3 by omega) with rfl | rfl | rfl | rfl <;> rcases (show e = 0 ∨ e = 1 ∨ e = 2 ∨ e = 3 by omega) with rfl | rfl | rfl | rfl <;> simp at hde ⊢
  have bx : 0 ≤ toX w (toP w p d) e ∧ toX w (toP w p d) e < w := by
    unfold toX at a2 i3 i4 ⊢
    rw [a2]
    rcases (show d = 0 ∨ d = 1 ∨ d = 2 ∨ d = 3 by omega) with rfl | rfl | rfl | rfl <;> rcases (show e = 0 ∨ e = 1 ∨ e = 2 ∨ e = 3 by omega) with rfl | rfl | rfl | rfl <;> simp at hde i3 i4 ⊢ <;> omega
  have bY : 0 ≤ toY w (toP w p d) e ∧ toY w (toP w p d) e < h := by
    unfold toY at a3 i3 i4 ⊢
    rw [a3]
    rcases (show d = 0 ∨ d = 1 ∨ d = 2 ∨ d = 3 by omega) with rfl | rfl | rfl | rfl <;> rcases (show e = 0 ∨ e = 1 ∨ e = 2 ∨ e = 3 by omega) with rfl | rfl | rfl | rfl <;> simp at hde i3 i4 ⊢ <;> omega
  refine ⟨toP w (toP w p d) e, step_yes a1 he ((inStep_iff _ _ _ _).2 ⟨bx.1, bx.2, bY.1, bY.2⟩), ?_⟩
  rw [step_yes b1 hd ((inStep_iff _ _ _ _).2 ⟨by rw [← hx]; exact bx.1, by rw [← hx]; exact bx.2, by rw [← hy]; exact bY.1, by rw [← hy]; exact bY.2⟩)]
  show (toY w (toP w p e) d * w + toX w (toP w p e) d, (0 : Int)) = (toY w (toP w p d) e * w + toX w (toP w p d) e, 0)
  rw [hx, hy]

/-- a step leads to an adjacent place. -/
theorem adj_step {w h p d : Int} (h1 : onB w h p = true) (h2 : 0 ≤ d ∧ d < 4) (h3 : inStep w h p d = true) : adjS w h p (toP w p d) = (true, 0) := by
  obtain ⟨g1, g2, g3⟩ := toP_on h1 h3
  obtain ⟨⟨hw, hh⟩, hp⟩ := (onB_iff _ _ _).1 h1
  have hz := (dist_zero hw hp hp).2 rfl
  have hs := dist_step (h := h) (q := p) hw h2 h3
  have hn := dist_nonneg w (toP w p d) p
  have he : distI w p (toP w p d) = 1 := by
    rw [dist_comm]
    unfold toP at hn ⊢
    omega
  unfold adjS
  rw [h1, g1, he]
  rfl
theorem locate_step {w h p d : Int} (h1 : onB w h p = true) (h3 : inStep w h p d = true) : locateS w h (toP w p d) = (toX w p d, toY w p d, 0) := by
  obtain ⟨g1, g2, g3⟩ := toP_on h1 h3
  unfold locateS
  rw [g1, g2, g3]
  rfl
end Go.Proofs.Ytcbghchciplfcaa
