/-
  FLOORTURNS: the walk.
-/
import Derived.Test.YthehkapaipfoaaaFAlive
namespace Go.Proofs.Ythehkapaipfoaaa.floorTurns
set_option linter.unusedVariables false
set_option linter.unusedSimpArgs false
set_option maxRecDepth 100000
open Go.RowKit

set_option maxHeartbeats 1600000 in
theorem turns_err (w h p d c a k : Int) (w0 : World) (h1 : stepS w h p d = (a, k)) (hk : (k != 0) = true) : Calls Try.prog 9 #[.int .i64 w, .int .i64 h, .int .i64 p, .int .i64 d, .int .i64 c] w0 fun e w' => e = .returned (.bool true) ∧ Below w0.heap.size w0 w' := by
  have S1 := Lib.hid (fun W => stepP_any w h p d W)
  have S2 := Lib.hid (fun W => stepP_any w h p c W)
  rw [h1] at S1
  generalize stepS w h p c = R at S2
  obtain ⟨r1, r2⟩ := R
  clear h1
  go_enter Try.func9, Try.ntmps9
  go_wp2_with fail
  refine (falive_true _).mono ?_
  rintro e x1 ⟨rfl, hb1⟩
  have B1 := Lib.hid hb1; clear hb1
  go_wp2_with fail
  refine (S1.out _).mono ?_
  rintro e x2 ⟨rfl, hb2⟩
  have B2 := Lib.hid (B1.out.trans (hb2.mono B1.out.size)); clear hb2 B1
  go_wp2_with fail
  refine (S2.out _).mono ?_
  rintro e x3 ⟨rfl, hb3⟩
  have B3 := Lib.hid (B2.out.trans (hb3.mono B2.out.size)); clear hb3 B2
  go_wp2
  go_ret
  exact ⟨rfl, B3.out⟩
set_option maxHeartbeats 1600000 in
theorem turns_ok (w h p d c : Int) (w0 : World) (ho : onB w h p = true) (hd : 0 ≤ d ∧ d < 4) (hin : inStep w h p d = true) (hc0 : -9223372036854775808 ≤ c ∧ c ≤ 9223372036854775807) : Calls Try.prog 9 #[.int .i64 w, .int .i64 h, .int .i64 p, .int .i64 d, .int .i64 c] w0 fun e w' => e = .returned (.bool true) ∧ Below w0.heap.size w0 w' := by
  have S1 := Lib.hid (fun W => stepP_any w h p d W)
  have S2 := Lib.hid (fun W => stepP_any w h p c W)
  have S3 := Lib.hid (fun W => stepP_any w h (toP w p d) ((d + 2) % 4) W)
  rw [step_yes ho hd hin] at S1
  rw [turn_back ho hd hin] at S3
  obtain ⟨d0, d1⟩ := hd
  have S5 := Lib.hid (fun W => stepP_any w h (toP w p d) c W)
  have S6 := Lib.hid (fun W => stepP_any w h (toP w p c) d W)
  rcases step_split w h p c with ⟨hs, _⟩ | ⟨hs, _⟩ | ⟨hs, _, hc, hin2⟩
  · rw [hs] at S2
    clear hs ho hin S5 S6
    generalize toP w p d = a at *
    go_enter Try.func9, Try.ntmps9
    go_wp2_with fail
    refine (falive_true _).mono ?_
    rintro e x1 ⟨rfl, hb1⟩
    have B1 := Lib.hid hb1; clear hb1
    go_wp2_with fail
    refine (S1.out _).mono ?_
    rintro e x2 ⟨rfl, hb2⟩
    have B2 := Lib.hid (B1.out.trans (hb2.mono B1.out.size)); clear hb2 B1
    go_wp2_with fail
    refine (S2.out _).mono ?_
    rintro e x3 ⟨rfl, hb3⟩
    have B3 := Lib.hid (B2.out.trans (hb3.mono B2.out.size)); clear hb3 B2
    go_wp2_with fail
    refine (S3.out _).mono ?_
    rintro e x4 ⟨rfl, hb4⟩
    have B4 := Lib.hid (B3.out.trans (hb4.mono B3.out.size)); clear hb4 B3
    go_wp2_with fail
    refine (is_true _ _).mono ?_
    rintro e x5 ⟨rfl, rfl⟩
    go_wp2
    go_ret
    exact ⟨rfl, B4.out⟩
  · rw [hs] at S2
    clear hs ho hin S5 S6
    generalize toP w p d = a at *
    go_enter Try.func9, Try.ntmps9
    go_wp2_with fail
    refine (falive_true _).mono ?_
    rintro e x1 ⟨rfl, hb1⟩
    have B1 := Lib.hid hb1; clear hb1
    go_wp2_with fail
    refine (S1.out _).mono ?_
    rintro e x2 ⟨rfl, hb2⟩
    have B2 := Lib.hid (B1.out.trans (hb2.mono B1.out.size)); clear hb2 B1
    go_wp2_with fail
    refine (S2.out _).mono ?_
    rintro e x3 ⟨rfl, hb3⟩
    have B3 := Lib.hid (B2.out.trans (hb3.mono B2.out.size)); clear hb3 B2
    go_wp2_with fail
    refine (S3.out _).mono ?_
    rintro e x4 ⟨rfl, hb4⟩
    have B4 := Lib.hid (B3.out.trans (hb4.mono B3.out.size)); clear hb4 B3
    go_wp2_with fail
    refine (is_true _ _).mono ?_
    rintro e x5 ⟨rfl, rfl⟩
    go_wp2
    go_ret
    exact ⟨rfl, B4.out⟩
  · rw [hs] at S2
    by_cases hev : (d + c) % 2 = 0
    · have e1 : ((d + c) % 2 == 0) = true := by simpa using hev
      clear hs ho hin hin2 S5 S6 hev
      obtain ⟨c0, c1⟩ := hc
      clear hc0
      generalize toP w p d = a at *
      generalize toP w p c = b at *
      go_enter Try.func9, Try.ntmps9
      go_wp2_with fail
      refine (falive_true _).mono ?_
      rintro e x1 ⟨rfl, hb1⟩
      have B1 := Lib.hid hb1; clear hb1
      go_wp2_with fail
      refine (S1.out _).mono ?_
      rintro e x2 ⟨rfl, hb2⟩
      have B2 := Lib.hid (B1.out.trans (hb2.mono B1.out.size)); clear hb2 B1
      go_wp2_with fail
      refine (S2.out _).mono ?_
      rintro e x3 ⟨rfl, hb3⟩
      have B3 := Lib.hid (B2.out.trans (hb3.mono B2.out.size)); clear hb3 B2
      go_wp2_with fail
      refine (S3.out _).mono ?_
      rintro e x4 ⟨rfl, hb4⟩
      have B4 := Lib.hid (B3.out.trans (hb4.mono B3.out.size)); clear hb4 B3
      go_wp2_with fail
      refine (is_true _ _).mono ?_
      rintro e x5 ⟨rfl, rfl⟩
      go_wp2
      go_ret
      exact ⟨rfl, B4.out⟩
    · have e1 : ((d + c) % 2 == 0) = false := by simpa using hev
      obtain ⟨z, z1, z2⟩ := turn_swap ho ⟨d0, d1⟩ hc hev hin hin2
      rw [z1] at S5
      rw [z2] at S6
      clear hs ho hin hin2 hev z1 z2
      obtain ⟨c0, c1⟩ := hc
      clear hc0
      generalize toP w p d = a at *
      generalize toP w p c = b at *
      go_enter Try.func9, Try.ntmps9
      go_wp2_with fail
      refine (falive_true _).mono ?_
      rintro e x1 ⟨rfl, hb1⟩
      have B1 := Lib.hid hb1; clear hb1
      go_wp2_with fail
      refine (S1.out _).mono ?_
      rintro e x2 ⟨rfl, hb2⟩
      have B2 := Lib.hid (B1.out.trans (hb2.mono B1.out.size)); clear hb2 B1
      go_wp2_with fail
      refine (S2.out _).mono ?_
      rintro e x3 ⟨rfl, hb3⟩
      have B3 := Lib.hid (B2.out.trans (hb3.mono B2.out.size)); clear hb3 B2
      go_wp2_with fail
      refine (S3.out _).mono ?_
      rintro e x4 ⟨rfl, hb4⟩
      have B4 := Lib.hid (B3.out.trans (hb4.mono B3.out.size)); clear hb4 B3
      go_wp2_with fail
      refine (is_true _ _).mono ?_
      rintro e x5 ⟨rfl, rfl⟩
      go_wp2_with fail
      refine (S5.out _).mono ?_
      rintro e x6 ⟨rfl, hb6⟩
      have B6 := Lib.hid (B4.out.trans (hb6.mono B4.out.size)); clear hb6 B4
      go_wp2_with fail
      refine (S6.out _).mono ?_
      rintro e x7 ⟨rfl, hb7⟩
      have B7 := Lib.hid (B6.out.trans (hb7.mono B6.out.size)); clear hb7 B6
      go_wp2_with fail
      refine (is_true _ _).mono ?_
      rintro e x8 ⟨rfl, rfl⟩
      go_wp2
      go_ret
      exact ⟨rfl, B7.out⟩

/-- The walk: true, whatever came in. -/
theorem floorTurns_walk (w h p d c : Int) (w0 : World) (_ : (Lit.int .i64 w).wf = true) (_ : (Lit.int .i64 h).wf = true) (_ : (Lit.int .i64 p).wf = true) (_ : (Lit.int .i64 d).wf = true) (hc : (Lit.int .i64 c).wf = true) : Calls Try.prog 9 #[.int .i64 w, .int .i64 h, .int .i64 p, .int .i64 d, .int .i64 c] w0 fun e w' => e = .returned (.bool true) ∧ Below w0.heap.size w0 w' := by
  have hc0 : -9223372036854775808 ≤ c ∧ c ≤ 9223372036854775807 := by
    have h1 : IntKind.i64.min = -9223372036854775808 := rfl
    have h2 : IntKind.i64.max = 9223372036854775807 := rfl
    simp only [Lit.wf, Bool.and_eq_true, decide_eq_true_eq] at hc
    omega
  rcases step_split w h p d with ⟨hs, _⟩ | ⟨hs, _⟩ | ⟨hs, ho, hd, hin⟩
  · exact turns_err w h p d c _ _ w0 hs rfl
  · exact turns_err w h p d c _ _ w0 hs rfl
  · exact turns_ok w h p d c w0 ho hd hin hc0
end Go.Proofs.Ythehkapaipfoaaa.floorTurns
