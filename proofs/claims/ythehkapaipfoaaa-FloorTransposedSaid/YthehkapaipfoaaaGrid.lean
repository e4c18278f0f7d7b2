/-
  GRID: contracts of floor's functions on places and steps.
-/
import Derived.Test.YthehkapaipfoaaaRows
import Derived.Test.YthehkapaipfoaaaWords
import Derived.Test.YthehkapaipfoaaaFloorMath2
import Derived.WalkLawsBesides
import Derived.Deep.QuietTactic
import Derived.BigQuiet
namespace Go.Proofs.Ythehkapaipfoaaa
set_option linter.unusedVariables false
set_option linter.unusedSimpArgs false
set_option maxRecDepth 100000
open Go.RowKit

def gridV (w h : Int) : Value := .agg #[.int .i64 w, .int .i64 h]

theorem isSide_any (n : Int) (w : World) : Calls Try.prog 95 #[.int .i64 n] w fun e w' => e = .returned (.bool (sideB n)) ∧ w = w' := by
  by_cases h1 : 2 ≤ n
  · by_cases h2 : n ≤ 8
    · have hs : sideB n = true := (sideB_iff n).2 ⟨h1, h2⟩
      rw [hs]; clear hs
      go_enter Try.func95, Try.ntmps95
      go_wp2
      go_ret
      exact ⟨rfl, rfl⟩
    · have hs : sideB n = false := by unfold sideB; exact decide_eq_false (by omega)
      rw [hs]; clear hs
      have h3 : decide (n ≤ 8) = false := decide_eq_false h2
      clear h2
      go_enter Try.func95, Try.ntmps95
      go_wp2
      go_ret
      exact ⟨rfl, rfl⟩
  · have hs : sideB n = false := by unfold sideB; exact decide_eq_false (by omega)
    rw [hs]; clear hs
    have h3 : n < 2 := by omega
    clear h1
    go_enter Try.func95, Try.ntmps95
    go_wp2
    go_ret
    exact ⟨rfl, rfl⟩

theorem valid_any (a b : Int) (w : World) : Calls Try.prog 92 #[.agg #[.int .i64 a, .int .i64 b]] w fun e w' => e = .returned (.bool (gridB a b)) ∧ Below w.heap.size w w' := by
  have hw := fun W => isSide_any a W
  have hh := fun W => isSide_any b W
  cases h1 : sideB a
  · rw [h1] at hw
    have H := Lib.hid hw; have H' := Lib.hid hh
    clear hw hh
    rw [show gridB a b = false from by unfold gridB; rw [h1]; rfl]
    clear h1
    go_enter Try.func92, Try.ntmps92
    go_wp2_with (go_at_call 95; refine (H.out _).mono ?_; rintro e w1 ⟨rfl, rfl⟩)
    go_ret
    exact ⟨rfl, (Below.refl _ _).alloc (Nat.le_refl _) _⟩
  · rw [h1] at hw
    have H := Lib.hid hw; have H' := Lib.hid hh
    clear hw hh
    rw [show gridB a b = sideB b from by unfold gridB; rw [h1]; rfl]
    clear h1
    go_enter Try.func92, Try.ntmps92
    go_wp2_with (first | (go_at_call 95; ((with_reducible refine (H.out _).mono ?_); rintro e w1 ⟨rfl, rfl⟩)) | (go_at_call 95; ((with_reducible refine (H'.out _).mono ?_); rintro e w1 ⟨rfl, rfl⟩)))
    go_ret
    exact ⟨rfl, (Below.refl _ _).alloc (Nat.le_refl _) _⟩

theorem size_any (a b : Int) (w : World) (ha : 2 ≤ a ∧ a ≤ 8) (hb : 2 ≤ b ∧ b ≤ 8) : Calls Try.prog 65 #[.agg #[.int .i64 a, .int .i64 b]] w fun e w' => e = .returned (.int .i64 (a * b)) ∧ Below w.heap.size w w' := by
  obtain ⟨h1, h2⟩ := size_bd ha hb
  go_enter Try.func65, Try.ntmps65
  go_wp2
  go_ret
  exact ⟨rfl, (Below.refl _ _).alloc (Nat.le_refl _) _⟩

theorem has_any (a b p : Int) (w : World) (ha : 2 ≤ a ∧ a ≤ 8) (hb : 2 ≤ b ∧ b ≤ 8) : Calls Try.prog 73 #[.agg #[.int .i64 a, .int .i64 b], .int .i64 p] w fun e w' => e = .returned (.bool (hasB a b p)) ∧ Below w.heap.size w w' := by
  have hs := fun W => size_any a b W ha hb
  have HS := Lib.hid hs
  clear hs
  by_cases h1 : 0 ≤ p
  · by_cases h2 : p < a * b
    · rw [show hasB a b p = true from (hasB_iff _ _ _).2 ⟨h1, h2⟩]
      go_enter Try.func73, Try.ntmps73
      go_wp2_with (go_at_call 65; refine (HS.out _).mono ?_; rintro e w1 ⟨rfl, hb1⟩)
      go_ret
      exact ⟨by simp [h2], ((Below.refl _ _).alloc (Nat.le_refl _) _).trans (hb1.mono (by simp))⟩
    · rw [show hasB a b p = false from decide_eq_false (fun h => h2 h.2)]
      go_enter Try.func73, Try.ntmps73
      go_wp2_with (go_at_call 65; refine (HS.out _).mono ?_; rintro e w1 ⟨rfl, hb1⟩)
      go_ret
      exact ⟨by simp [h2], ((Below.refl _ _).alloc (Nat.le_refl _) _).trans (hb1.mono (by simp))⟩
  · rw [show hasB a b p = false from decide_eq_false (fun h => h1 h.1)]
    have h3 : p < 0 := by omega
    have h4 : decide (0 ≤ p) = false := decide_eq_false h1
    clear h1
    go_enter Try.func73, Try.ntmps73
    go_wp2
    go_ret
    exact ⟨rfl, (Below.refl _ _).alloc (Nat.le_refl _) _⟩

theorem locate_any (a b p : Int) (w : World) (ha : 2 ≤ a ∧ a ≤ 8) (hp : 0 ≤ p ∧ p ≤ 1000) : Calls Try.prog 67 #[.agg #[.int .i64 a, .int .i64 b], .int .i64 p] w fun e w' => e = .returned (.tuple #[.int .i64 (p % a), .int .i64 (p / a)]) ∧ Below w.heap.size w w' := by
  obtain ⟨h1, h2⟩ := ha
  obtain ⟨h3, h4⟩ := hp
  have hz : (a == 0) = false := by simp; omega
  go_enter Try.func67, Try.ntmps67
  go_wp2
  go_quiet (fail)
  go_wp2
  go_ret2
  exact ⟨rfl, below_drewN ((Below.refl _ _).alloc (Nat.le_refl _) _) _⟩

theorem gap_any (a b : Int) (w : World) (ha : 0 ≤ a ∧ a ≤ 1000) (hb : 0 ≤ b ∧ b ≤ 1000) : Calls Try.prog 93 #[.int .i64 a, .int .i64 b] w fun e w' => e = .returned (.int .i64 (gapS a b)) ∧ w = w' := by
  obtain ⟨h1, h2⟩ := ha
  obtain ⟨h3, h4⟩ := hb
  go_enter Try.func93, Try.ntmps93
  go_wp2
  all_goals
    go_ret
    exact ⟨ret_int (by unfold gapS; omega), rfl⟩

def placeN (w h x y : Int) : Int := if inB w h x y then y * w + x else 0
set_option maxHeartbeats 800000 in
theorem place_any (a b x y : Int) (w : World) (ha : 2 ≤ a ∧ a ≤ 8) (hb : 2 ≤ b ∧ b ≤ 8) : Calls Try.prog 66 #[.agg #[.int .i64 a, .int .i64 b], .int .i64 x, .int .i64 y] w fun e w' => e = .returned (.tuple #[.int .i64 (placeN a b x y), .bool (inB a b x y)]) ∧ Below w.heap.size w w' := by
  cases hin : inB a b x y
  · have hn : placeN a b x y = 0 := by unfold placeN; rw [hin]; rfl
    rw [hn]
    have hin' : ¬ (0 ≤ x ∧ x < a ∧ 0 ≤ y ∧ y < b) := fun h => by rw [(inB_iff _ _ _ _).2 h] at hin; cases hin
    clear hin hn
    by_cases c1 : x < 0
    · go_enter Try.func66, Try.ntmps66
      go_wp2
      go_ret2
      exact ⟨rfl, (Below.refl _ _).alloc (Nat.le_refl _) _⟩
    · by_cases c2 : a ≤ x
      · have d1 : decide (x < 0) = false := decide_eq_false c1
        have e1 : 0 ≤ x := by omega
        clear c1 hin'
        go_enter Try.func66, Try.ntmps66
        go_wp2
        go_ret2
        exact ⟨rfl, (Below.refl _ _).alloc (Nat.le_refl _) _⟩
      · by_cases c3 : y < 0
        · have d1 : decide (x < 0) = false := decide_eq_false c1
          have d2 : decide (a ≤ x) = false := decide_eq_false c2
          clear c1 c2 hin'
          go_enter Try.func66, Try.ntmps66
          go_wp2
          go_ret2
          exact ⟨rfl, (Below.refl _ _).alloc (Nat.le_refl _) _⟩
        · have c4 : b ≤ y := by omega
          have d1 : decide (x < 0) = false := decide_eq_false c1
          have d2 : decide (a ≤ x) = false := decide_eq_false c2
          have d3 : decide (y < 0) = false := decide_eq_false c3
          clear c1 c2 c3 hin'
          go_enter Try.func66, Try.ntmps66
          go_wp2
          go_ret2
          exact ⟨rfl, (Below.refl _ _).alloc (Nat.le_refl _) _⟩
  · obtain ⟨x1, x2, y1, y2⟩ := (inB_iff _ _ _ _).1 hin
    have hn : placeN a b x y = y * a + x := by unfold placeN; rw [hin]; rfl
    rw [hn]
    clear hin hn
    have hbd := placed (h := b) ha ⟨x1, x2⟩ ⟨y1, y2⟩
    have hsz := size_bd ha hb
    have g1 : 0 ≤ y * a := Int.mul_nonneg y1 (by omega)
    have g2 : y * a ≤ 64 := by omega
    have d1 : decide (x < 0) = false := decide_eq_false (by omega)
    have d2 : decide (a ≤ x) = false := decide_eq_false (by omega)
    have d3 : decide (y < 0) = false := decide_eq_false (by omega)
    have d4 : decide (b ≤ y) = false := decide_eq_false (by omega)
    have x3 : x ≤ 8 := by omega
    clear hbd hsz
    go_enter Try.func66, Try.ntmps66
    go_wp2
    go_ret2
    exact ⟨rfl, (Below.refl _ _).alloc (Nat.le_refl _) _⟩
end Go.Proofs.Ythehkapaipfoaaa
