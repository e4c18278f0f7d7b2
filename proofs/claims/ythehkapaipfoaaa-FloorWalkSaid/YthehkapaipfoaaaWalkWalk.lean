/-
  FLOORWALK: the walk.
-/
import Derived.Test.YthehkapaipfoaaaSlRef
namespace Go.Proofs.Ythehkapaipfoaaa.floorWalk
set_option linter.unusedVariables false
set_option linter.unusedSimpArgs false
set_option maxRecDepth 100000
open Go.RowKit

set_option maxHeartbeats 1600000 in
theorem walk_bad (A : Option Addr) (n c : Nat) (w h p : Int) (w0 : World) (hp : onB w h p = false) :
    Calls Try.prog 10 #[.int .i64 w, .int .i64 h, .int .i64 p, .slice A n c] w0 fun e w' => e = .returned (.bool true) ∧ Below w0.heap.size w0 w' := by
  have L := Lib.hid (fun W => locateP_any w h p W)
  have O := Lib.hid (fun W => on_any w h p W)
  have S := Lib.hid (fun W => stepP_any w h p 1 W)
  rw [show locateS w h p = (0, 0, 2) from by unfold locateS; rw [hp]; rfl] at L
  rw [step_arg (.inl hp)] at S
  rw [hp] at O
  clear hp
  go_enter Try.func10, Try.ntmps10
  go_wp2_with fail
  refine (falive_true _).mono ?_
  rintro e x ⟨rfl, hb⟩
  have B := Lib.hid hb
  clear hb
  go_wp2_with fail
  refine (L.out _).mono ?_
  rintro e x ⟨rfl, hb⟩
  replace B := Lib.hid (B.out.trans (hb.mono B.out.size))
  clear hb
  go_wp2_with fail
  refine (O.out _).mono ?_
  rintro e x ⟨rfl, rfl⟩
  go_wp2_with fail
  refine (S.out _).mono ?_
  rintro e x ⟨rfl, hb⟩
  replace B := Lib.hid (B.out.trans (hb.mono B.out.size))
  clear hb
  go_wp2
  go_ret
  exact ⟨rfl, B.out⟩

set_option maxHeartbeats 6400000 in
theorem walk_ok (A : Option Addr) (n c : Nat) (l : List UInt8) (w h p : Int) (w0 : World) (hr : Reads w0 w0.heap.size 1 A n (bv l)) (hn : n ≤ 140737488351232) (hp : onB w h p = true) :
    Calls Try.prog 10 #[.int .i64 w, .int .i64 h, .int .i64 p, .slice A n c] w0 fun e w' => e = .returned (.bool true) ∧ Below w0.heap.size w0 w' := by
  have L := Lib.hid (fun W => locateP_any w h p W)
  have O := Lib.hid (fun W => on_any w h p W)
  rw [show locateS w h p = (p % w, p / w, 0) from by unfold locateS; rw [hp]; rfl] at L
  rw [hp] at O
  have LA := Lib.hid (fun q W => locateP_any w h q W)
  have ST := Lib.hid (fun q d W => stepP_any w h q d W)
  have AD := Lib.hid (fun p q W => adjP_any w h p q W)
  obtain ⟨⟨hw, hh⟩, hp'⟩ := (onB_iff _ _ _).1 hp
  obtain ⟨w2, w8⟩ := hw
  obtain ⟨h2, h8⟩ := hh
  have HR := Lib.hid hr
  have HP := Lib.hid hp
  clear hr hp hp'
  obtain ⟨X0, hX⟩ : ∃ X, X = p % w := ⟨_, rfl⟩
  obtain ⟨Y0, hY⟩ : ∃ Y, Y = p / w := ⟨_, rfl⟩
  rw [← hX, ← hY] at L
  have HXY := Lib.hid (And.intro hX hY)
  clear hX hY
  go_enter Try.func10, Try.ntmps10
  go_wp2_with fail
  refine (falive_true _).mono ?_
  rintro e x ⟨rfl, hb⟩
  have B := Lib.hid hb
  clear hb
  go_wp2_with fail
  refine (L.out _).mono ?_
  rintro e x ⟨rfl, hb⟩
  replace B := Lib.hid (B.out.trans (hb.mono B.out.size))
  clear hb
  go_wp2_with fail
  refine (O.out _).mono ?_
  rintro e x ⟨rfl, rfl⟩
  go_wp2
  go_loopw [2, 10, 11, 15] (fun P X Y i wr => ∃ (k : Nat) (p x y : Int), k ≤ n ∧ i = .int .i64 (k : Int) ∧ P = .int .i64 p ∧ X = .int .i64 x ∧ Y = .int .i64 y ∧ Hid (onB w h p = true ∧ x = p % w ∧ y = p / w) ∧ Hid (Below w0.heap.size w0 wr))
    (fun _ _ _ i _ => n - (intOf i).toNat)
  case atStart => exact ⟨0, _, _, _, Nat.zero_le _, rfl, rfl, rfl, rfl, Lib.hid ⟨HP.out, HXY.out⟩, B⟩
  case round =>
    obtain ⟨k, P, X, Y, hk, rfl, rfl, rfl, rfl, hin, hB⟩ := hrel
    clear B HP HXY L O
    have B := hB
    clear hB
    by_cases hlt : k < n
    · obtain ⟨ad, x, rfl, had, hx, hcx⟩ := cells_at (HR.out.below B.out) hlt
      clear hx had
      have hc := coords ⟨w2, w8⟩ ((onB_iff _ _ _).1 hin.out.1).2
      rw [← hin.out.2.1, ← hin.out.2.2] at hc
      obtain ⟨x0, x1, y0, y1, _⟩ := hc
      have hxl := x.toNat_lt
      have k0 : (0 : Int) ≤ (k : Int) := by omega
      have k1 : (k : Int) < (n : Int) := by omega
      obtain ⟨m, hm⟩ : ∃ m : Int, m = (x.toNat : Int) := ⟨_, rfl⟩
      rw [← hm] at hcx
      have m0 : 0 ≤ m := by omega
      have m1 : m ≤ 255 := by omega
      clear hm hxl
      have hq : m % 4 = 0 ∨ m % 4 = 1 ∨ m % 4 = 2 ∨ m % 4 = 3 := by omega
      rcases hq with hq | hq | hq | hq
      · by_cases hb : Y = 0
        · have hi : inStep w h P 0 = false := by
            cases hi : inStep w h P 0
            · rfl
            · have := (inStep_iff _ _ _ _).1 hi
              simp [toX, toY] at this
              have h1 := hin.out.2.1; have h2 := hin.out.2.2
              omega
          have S1 := Lib.hid (fun W => ST.out P 0 W)
          rw [step_no hin.out.1 (by omega) hi] at S1
          have HI := Lib.hid hb
          clear hi
          have c1 : decide (X < 0) = false := decide_eq_false (by omega)
          have c2 : decide (w ≤ X) = false := decide_eq_false (by omega)
          have c3 : decide (Y - 1 < 0) = true := decide_eq_true (by omega)
          have c4 : decide (h ≤ Y - 1) = false := decide_eq_false (by omega)
          clear hb
          go_wp2_with fail
          refine (S1.out _).mono ?_
          rintro e x ⟨rfl, hb⟩
          replace B := Lib.hid (B.out.trans (hb.mono B.out.size))
          clear hb
          go_wp2
          go_roundw
          case rel => exact ⟨k + 1, _, _, _, by omega, by go_num, rfl, rfl, rfl, hin, B⟩
          case measure => simp [intOf]; omega
        · have hi : inStep w h P 0 = true := by
            refine (inStep_iff _ _ _ _).2 ?_
            simp [toX, toY]
            have h1 := hin.out.2.1; have h2 := hin.out.2.2
            omega
          have S1 := Lib.hid (fun W => ST.out P 0 W)
          rw [step_yes hin.out.1 (by omega) hi] at S1
          have A1 := Lib.hid (fun W => AD.out P (toP w P 0) W)
          rw [adj_step hin.out.1 (by omega) hi] at A1
          have L1 := Lib.hid (fun W => LA.out (toP w P 0) W)
          have hU : toX w P 0 = X := by rw [hin.out.2.1]; simp [toX]
          have hV : toY w P 0 = Y - 1 := by rw [hin.out.2.2]; simp [toY]
          rw [locate_step hin.out.1 hi, hU, hV] at L1
          have ht := toP_on hin.out.1 hi
          rw [hU, hV] at ht
          generalize toP w P 0 = Q at S1 A1 L1 ht
          have HT := Lib.hid ht
          clear hi ht hU hV
          have c1 : decide (X < 0) = false := decide_eq_false (by omega)
          have c2 : decide (w ≤ X) = false := decide_eq_false (by omega)
          have c3 : decide (Y - 1 < 0) = false := decide_eq_false (by omega)
          have c4 : decide (h ≤ Y - 1) = false := decide_eq_false (by omega)
          clear hb
          go_wp2_with fail
          refine (S1.out _).mono ?_
          rintro e x ⟨rfl, hb⟩
          replace B := Lib.hid (B.out.trans (hb.mono B.out.size))
          clear hb
          go_wp2_with fail
          refine (A1.out _).mono ?_
          rintro e x ⟨rfl, hb⟩
          replace B := Lib.hid (B.out.trans (hb.mono B.out.size))
          clear hb
          go_wp2_with fail
          refine (L1.out _).mono ?_
          rintro e x ⟨rfl, hb⟩
          replace B := Lib.hid (B.out.trans (hb.mono B.out.size))
          clear hb
          go_wp2
          go_roundw
          case rel => exact ⟨k + 1, _, _, _, by omega, by go_num, rfl, rfl, rfl, Lib.hid ⟨HT.out.1, HT.out.2.1.symm, HT.out.2.2.symm⟩, B⟩
          case measure => simp [intOf]; omega
      · by_cases hb : X = w - 1
        · have hi : inStep w h P 1 = false := by
            cases hi : inStep w h P 1
            · rfl
            · have := (inStep_iff _ _ _ _).1 hi
              simp [toX, toY] at this
              have h1 := hin.out.2.1; have h2 := hin.out.2.2
              omega
          have S1 := Lib.hid (fun W => ST.out P 1 W)
          rw [step_no hin.out.1 (by omega) hi] at S1
          have HI := Lib.hid hb
          clear hi
          have c1 : decide (X + 1 < 0) = false := decide_eq_false (by omega)
          have c2 : decide (w ≤ X + 1) = true := decide_eq_true (by omega)
          have c3 : decide (Y < 0) = false := decide_eq_false (by omega)
          have c4 : decide (h ≤ Y) = false := decide_eq_false (by omega)
          clear hb
          go_wp2_with fail
          refine (S1.out _).mono ?_
          rintro e x ⟨rfl, hb⟩
          replace B := Lib.hid (B.out.trans (hb.mono B.out.size))
          clear hb
          go_wp2
          go_roundw
          case rel => exact ⟨k + 1, _, _, _, by omega, by go_num, rfl, rfl, rfl, hin, B⟩
          case measure => simp [intOf]; omega
        · have hi : inStep w h P 1 = true := by
            refine (inStep_iff _ _ _ _).2 ?_
            simp [toX, toY]
            have h1 := hin.out.2.1; have h2 := hin.out.2.2
            omega
          have S1 := Lib.hid (fun W => ST.out P 1 W)
          rw [step_yes hin.out.1 (by omega) hi] at S1
          have A1 := Lib.hid (fun W => AD.out P (toP w P 1) W)
          rw [adj_step hin.out.1 (by omega) hi] at A1
          have L1 := Lib.hid (fun W => LA.out (toP w P 1) W)
          have hU : toX w P 1 = X + 1 := by rw [hin.out.2.1]; simp [toX]
          have hV : toY w P 1 = Y := by rw [hin.out.2.2]; simp [toY]
          rw [locate_step hin.out.1 hi, hU, hV] at L1
          have ht := toP_on hin.out.1 hi
          rw [hU, hV] at ht
          generalize toP w P 1 = Q at S1 A1 L1 ht
          have HT := Lib.hid ht
          clear hi ht hU hV
          have c1 : decide (X + 1 < 0) = false := decide_eq_false (by omega)
          have c2 : decide (w ≤ X + 1) = false := decide_eq_false (by omega)
          have c3 : decide (Y < 0) = false := decide_eq_false (by omega)
          have c4 : decide (h ≤ Y) = false := decide_eq_false (by omega)
          clear hb
          go_wp2_with fail
          refine (S1.out _).mono ?_
          rintro e x ⟨rfl, hb⟩
          replace B := Lib.hid (B.out.trans (hb.mono B.out.size))
          clear hb
          go_wp2_with fail
          refine (A1.out _).mono ?_
          rintro e x ⟨rfl, hb⟩
          replace B := Lib.hid (B.out.trans (hb.mono B.out.size))
          clear hb
          go_wp2_with fail
          refine (L1.out _).mono ?_
          rintro e x ⟨rfl, hb⟩
          replace B := Lib.hid (B.out.trans (hb.mono B.out.size))
          clear hb
          go_wp2
          go_roundw
          case rel => exact ⟨k + 1, _, _, _, by omega, by go_num, rfl, rfl, rfl, Lib.hid ⟨HT.out.1, HT.out.2.1.symm, HT.out.2.2.symm⟩, B⟩
          case measure => simp [intOf]; omega
      · by_cases hb : Y = h - 1
        · have hi : inStep w h P 2 = false := by
            cases hi : inStep w h P 2
            · rfl
            · have := (inStep_iff _ _ _ _).1 hi
              simp [toX, toY] at this
              have h1 := hin.out.2.1; have h2 := hin.out.2.2
              omega
          have S1 := Lib.hid (fun W => ST.out P 2 W)
          rw [step_no hin.out.1 (by omega) hi] at S1
          have HI := Lib.hid hb
          clear hi
          have c1 : decide (X < 0) = false := decide_eq_false (by omega)
          have c2 : decide (w ≤ X) = false := decide_eq_false (by omega)
          have c3 : decide (Y + 1 < 0) = false := decide_eq_false (by omega)
          have c4 : decide (h ≤ Y + 1) = true := decide_eq_true (by omega)
          clear hb
          go_wp2_with fail
          refine (S1.out _).mono ?_
          rintro e x ⟨rfl, hb⟩
          replace B := Lib.hid (B.out.trans (hb.mono B.out.size))
          clear hb
          go_wp2
          go_roundw
          case rel => exact ⟨k + 1, _, _, _, by omega, by go_num, rfl, rfl, rfl, hin, B⟩
          case measure => simp [intOf]; omega
        · have hi : inStep w h P 2 = true := by
            refine (inStep_iff _ _ _ _).2 ?_
            simp [toX, toY]
            have h1 := hin.out.2.1; have h2 := hin.out.2.2
            omega
          have S1 := Lib.hid (fun W => ST.out P 2 W)
          rw [step_yes hin.out.1 (by omega) hi] at S1
          have A1 := Lib.hid (fun W => AD.out P (toP w P 2) W)
          rw [adj_step hin.out.1 (by omega) hi] at A1
          have L1 := Lib.hid (fun W => LA.out (toP w P 2) W)
          have hU : toX w P 2 = X := by rw [hin.out.2.1]; simp [toX]
          have hV : toY w P 2 = Y + 1 := by rw [hin.out.2.2]; simp [toY]
          rw [locate_step hin.out.1 hi, hU, hV] at L1
          have ht := toP_on hin.out.1 hi
          rw [hU, hV] at ht
          generalize toP w P 2 = Q at S1 A1 L1 ht
          have HT := Lib.hid ht
          clear hi ht hU hV
          have c1 : decide (X < 0) = false := decide_eq_false (by omega)
          have c2 : decide (w ≤ X) = false := decide_eq_false (by omega)
          have c3 : decide (Y + 1 < 0) = false := decide_eq_false (by omega)
          have c4 : decide (h ≤ Y + 1) = false := decide_eq_false (by omega)
          clear hb
          go_wp2_with fail
          refine (S1.out _).mono ?_
          rintro e x ⟨rfl, hb⟩
          replace B := Lib.hid (B.out.trans (hb.mono B.out.size))
          clear hb
          go_wp2_with fail
          refine (A1.out _).mono ?_
          rintro e x ⟨rfl, hb⟩
          replace B := Lib.hid (B.out.trans (hb.mono B.out.size))
          clear hb
          go_wp2_with fail
          refine (L1.out _).mono ?_
          rintro e x ⟨rfl, hb⟩
          replace B := Lib.hid (B.out.trans (hb.mono B.out.size))
          clear hb
          go_wp2
          go_roundw
          case rel => exact ⟨k + 1, _, _, _, by omega, by go_num, rfl, rfl, rfl, Lib.hid ⟨HT.out.1, HT.out.2.1.symm, HT.out.2.2.symm⟩, B⟩
          case measure => simp [intOf]; omega
      · by_cases hb : X = 0
        · have hi : inStep w h P 3 = false := by
            cases hi : inStep w h P 3
            · rfl
            · have := (inStep_iff _ _ _ _).1 hi
              simp [toX, toY] at this
              have h1 := hin.out.2.1; have h2 := hin.out.2.2
              omega
          have S1 := Lib.hid (fun W => ST.out P 3 W)
          rw [step_no hin.out.1 (by omega) hi] at S1
          have HI := Lib.hid hb
          clear hi
          have c1 : decide (X - 1 < 0) = true := decide_eq_true (by omega)
          have c2 : decide (w ≤ X - 1) = false := decide_eq_false (by omega)
          have c3 : decide (Y < 0) = false := decide_eq_false (by omega)
          have c4 : decide (h ≤ Y) = false := decide_eq_false (by omega)
          clear hb
          go_wp2_with fail
          refine (S1.out _).mono ?_
          rintro e x ⟨rfl, hb⟩
          replace B := Lib.hid (B.out.trans (hb.mono B.out.size))
          clear hb
          go_wp2
          go_roundw
          case rel => exact ⟨k + 1, _, _, _, by omega, by go_num, rfl, rfl, rfl, hin, B⟩
          case measure => simp [intOf]; omega
        · have hi : inStep w h P 3 = true := by
            refine (inStep_iff _ _ _ _).2 ?_
            simp [toX, toY]
            have h1 := hin.out.2.1; have h2 := hin.out.2.2
            omega
          have S1 := Lib.hid (fun W => ST.out P 3 W)
          rw [step_yes hin.out.1 (by omega) hi] at S1
          have A1 := Lib.hid (fun W => AD.out P (toP w P 3) W)
          rw [adj_step hin.out.1 (by omega) hi] at A1
          have L1 := Lib.hid (fun W => LA.out (toP w P 3) W)
          have hU : toX w P 3 = X - 1 := by rw [hin.out.2.1]; simp [toX]
          have hV : toY w P 3 = Y := by rw [hin.out.2.2]; simp [toY]
          rw [locate_step hin.out.1 hi, hU, hV] at L1
          have ht := toP_on hin.out.1 hi
          rw [hU, hV] at ht
          generalize toP w P 3 = Q at S1 A1 L1 ht
          have HT := Lib.hid ht
          clear hi ht hU hV
          have c1 : decide (X - 1 < 0) = false := decide_eq_false (by omega)
          have c2 : decide (w ≤ X - 1) = false := decide_eq_false (by omega)
          have c3 : decide (Y < 0) = false := decide_eq_false (by omega)
          have c4 : decide (h ≤ Y) = false := decide_eq_false (by omega)
          clear hb
          go_wp2_with fail
          refine (S1.out _).mono ?_
          rintro e x ⟨rfl, hb⟩
          replace B := Lib.hid (B.out.trans (hb.mono B.out.size))
          clear hb
          go_wp2_with fail
          refine (A1.out _).mono ?_
          rintro e x ⟨rfl, hb⟩
          replace B := Lib.hid (B.out.trans (hb.mono B.out.size))
          clear hb
          go_wp2_with fail
          refine (L1.out _).mono ?_
          rintro e x ⟨rfl, hb⟩
          replace B := Lib.hid (B.out.trans (hb.mono B.out.size))
          clear hb
          go_wp2
          go_roundw
          case rel => exact ⟨k + 1, _, _, _, by omega, by go_num, rfl, rfl, rfl, Lib.hid ⟨HT.out.1, HT.out.2.1.symm, HT.out.2.2.symm⟩, B⟩
          case measure => simp [intOf]; omega
    · obtain rfl : k = n := by omega
      go_wp2
      go_ret
      exact ⟨rfl, B.out⟩

/-- The walk: true, whatever came in. -/
theorem floorWalk_walk (w h p : Int) (A : Option Addr) (n c : Nat) (l : List UInt8) (W : World) (_ : (Lit.int .i64 w).wf = true) (_ : (Lit.int .i64 h).wf = true) (_ : (Lit.int .i64 p).wf = true) (hr : Reads W W.heap.size 1 A n (bv l)) (hnc : n ≤ c) (hc : c ≤ 140737488351232) :
    Calls Try.prog 10 #[.int .i64 w, .int .i64 h, .int .i64 p, .slice A n c] W fun e w' => e = .returned (.bool true) ∧ Below W.heap.size W w' := by
  cases hp : onB w h p
  · exact walk_bad A n c w h p W hp
  · exact walk_ok A n c l w h p W hr (by omega) hp
end Go.Proofs.Ythehkapaipfoaaa.floorWalk
