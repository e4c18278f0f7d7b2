/-
  GRID: contracts of floor's functions on places and steps.
-/
import Derived.Test.YtcbghchciplfcaaRows
import Derived.Test.YtcbghchciplfcaaWords
import Derived.Test.YtcbghchciplfcaaFloorMath2
import Derived.WalkLawsBesides
import Derived.Deep.QuietTactic
import Derived.BigQuiet
namespace Go.Proofs.Ytcbghchciplfcaa
set_option linter.unusedVariables false
set_option linter.unusedSimpArgs false
set_option maxRecDepth 100000
open Go.RowKit

def gridV (w h : Int) : Value := .agg #[.int .i64 w, .int .i64 h]

theorem isSide_any (n : Int) (w : World) : Calls Try.prog 135 #[.int .i64 n] w fun e w' => e = .returned (.bool (sideB n)) ∧ w = w' := by
  by_cases h1 : 2 ≤ n
  · by_cases h2 : n ≤ 8
    · have hs : sideB n = true := (sideB_iff n).2 ⟨h1, h2⟩
      rw [hs]; clear hs
      go_enter Try.func135, Try.ntmps135
      go_wp2
      go_ret
      exact ⟨rfl, rfl⟩
    · have hs : sideB n = false := by unfold sideB; exact decide_eq_false (by omega)
      rw [hs]; clear hs
      have h3 : decide (n ≤ 8) = false := decide_eq_false h2
      clear h2
      go_enter Try.func135, Try.ntmps135
      go_wp2
      go_ret
      exact ⟨rfl, rfl⟩
  · have hs : sideB n = false := by unfold sideB; exact decide_eq_false (by omega)
    rw [hs]; clear hs
    have h3 : n < 2 := by omega
    clear h1
    go_enter Try.func135, Try.ntmps135
    go_wp2
    go_ret
    exact ⟨rfl, rfl⟩

theorem valid_any (a b : Int) (w : World) : Calls Try.prog 127 #[.agg #[.int .i64 a, .int .i64 b]] w fun e w' => e = .returned (.bool (gridB a b)) ∧ Below w.heap.size w w' := by
  have hw := fun W => isSide_any a W
  have hh := fun W => isSide_any b W
  cases h1 : sideB a
  · rw [h1] at hw
    have H := Lib.hid hw; have H' := Lib.hid hh
    clear hw hh
    rw [show gridB a b = false from by unfold gridB; rw [h1]; rfl]
    clear h1
    go_enter Try.func127, Try.ntmps127
    go_wp2_with (go_at_call 135; refine (H.out _).mono ?_; rintro e w1 ⟨rfl, rfl⟩)
    go_ret
    exact ⟨rfl, (Below.refl _ _).alloc (Nat.le_refl _) _⟩
  · rw [h1] at hw
    have H := Lib.hid hw; have H' := Lib.hid hh
    clear hw hh
    rw [show gridB a b = sideB b from by unfold gridB; rw [h1]; rfl]
    clear h1
    go_enter Try.func127, Try.ntmps127
    go_wp2_with (first | (go_at_call 135; ((with_reducible refine (H.out _).mono ?_); rintro e w1 ⟨rfl, rfl⟩)) | (go_at_call 135; ((with_reducible refine (H'.out _).mono ?_); rintro e w1 ⟨rfl, rfl⟩)))
    go_ret
    exact ⟨rfl, (Below.refl _ _).alloc (Nat.le_refl _) _⟩

theorem size_any (a b : Int) (w : World) (ha : 2 ≤ a ∧ a ≤ 8) (hb : 2 ≤ b ∧ b ≤ 8) : Calls Try.prog 105 #[.agg #[.int .i64 a, .int .i64 b]] w fun e w' => e = .returned (.int .i64 (a * b)) ∧ Below w.heap.size w w' := by
  obtain ⟨h1, h2⟩ := size_bd ha hb
  go_enter Try.func105, Try.ntmps105
  go_wp2
  go_ret
  exact ⟨rfl, (Below.refl _ _).alloc (Nat.le_refl _) _⟩

theorem has_any (a b p : Int) (w : World) (ha : 2 ≤ a ∧ a ≤ 8) (hb : 2 ≤ b ∧ b ≤ 8) : Calls Try.prog 95 #[.agg #[.int .i64 a, .int .i64 b], .int .i64 p] w fun e w' => e = .returned (.bool (hasB a b p)) ∧ Below w.heap.size w w' := by
  have hs := fun W => size_any a b W ha hb
  have HS := Lib.hid hs
  clear hs
  by_cases h1 : 0 ≤ p
  · by_cases h2 : p < a * b
    · rw [show hasB a b p = true from (hasB_iff _ _ _).2 ⟨h1, h2⟩]
      go_enter Try.func95, Try.ntmps95
      go_wp2_with (go_at_call 105; refine (HS.out _).mono ?_; rintro e w1 ⟨rfl, hb1⟩)
      go_ret
      exact ⟨by simp [h2], ((Below.refl _ _).alloc (Nat.le_refl _) _).trans (hb1.mono (by simp))⟩
    · rw [show hasB a b p = false from decide_eq_false (fun h => h2 h.2)]
      go_enter Try.func95, Try.ntmps95
      go_wp2_with (go_at_call 105; refine (HS.out _).mono ?_; rintro e w1 ⟨rfl, hb1⟩)
      go_ret
      exact ⟨by simp [h2], ((Below.refl _ _).alloc (Nat.le_refl _) _).trans (hb1.mono (by simp))⟩
  · rw [show hasB a b p = false from decide_eq_false (fun h => h1 h.1)]
    have h3 : p < 0 := by omega
    have h4 : decide (0 ≤ p) = false := decide_eq_false h1
    clear h1
    go_enter Try.func95, Try.ntmps95
    go_wp2
    go_ret
    exact ⟨rfl, (Below.refl _ _).alloc (Nat.le_refl _) _⟩

theorem locate_any (a b p : Int) (w : World) (ha : 2 ≤ a ∧ a ≤ 8) (hp : 0 ≤ p ∧ p ≤ 1000) : Calls Try.prog 107 #[.agg #[.int .i64 a, .int .i64 b], .int .i64 p] w fun e w' => e = .returned (.tuple #[.int .i64 (p % a), .int .i64 (p / a)]) ∧ Below w.heap.size w w' := by
  obtain ⟨h1, h2⟩ := ha
  obtain ⟨h3, h4⟩ := hp
  have hz : (a == 0) = false := by simp; omega
  go_enter Try.func107, Try.ntmps107
  go_wp2
  go_quiet (fail)
  go_wp2
  go_ret2
  exact ⟨rfl, below_drewN ((Below.refl _ _).alloc (Nat.le_refl _) _) _⟩

def placeN (w h x y : Int) : Int := if inB w h x y then y * w + x else 0
end Go.Proofs.Ytcbghchciplfcaa
