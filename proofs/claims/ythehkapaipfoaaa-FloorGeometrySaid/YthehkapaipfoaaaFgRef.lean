/-
  FGREF: the reference's grid: Move, Cells, Locate, Place, Step, Adjacent.
-/
import Derived.Test.YthehkapaipfoaaaFAlive
import Derived.BigQuiet
namespace Go.Proofs.Ythehkapaipfoaaa
set_option linter.unusedVariables false
set_option linter.unusedSimpArgs false
set_option maxRecDepth 100000
open Go.RowKit

def moveS (w h p d : Int) : Int := if inStep w h p d then toP w p d else -1
theorem toP_0 {w h p : Int} (ho : onB w h p = true) : toP w p 0 = p - w := by
  have := toP_self ho
  unfold toP toY toX
  simp only [show ¬ ((0 : Int) = 1) by omega, show ¬ ((0 : Int) = 3) by omega, if_false, if_true]
  rw [Int.sub_mul]; omega
theorem toP_1 {w h p : Int} (ho : onB w h p = true) : toP w p 1 = p + 1 := by
  have := toP_self ho
  unfold toP toY toX
  simp only [show ¬ ((1 : Int) = 0) by omega, show ¬ ((1 : Int) = 2) by omega, if_false, if_true]
  omega
theorem toP_2 {w h p : Int} (ho : onB w h p = true) : toP w p 2 = p + w := by
  have := toP_self ho
  unfold toP toY toX
  simp only [show ¬ ((2 : Int) = 0) by omega, show ¬ ((2 : Int) = 1) by omega, show ¬ ((2 : Int) = 3) by omega, if_false, if_true]
  rw [Int.add_mul]; omega
theorem toP_3 {w h p : Int} (ho : onB w h p = true) : toP w p 3 = p - 1 := by
  have := toP_self ho
  unfold toP toY toX
  simp only [show ¬ ((3 : Int) = 0) by omega, show ¬ ((3 : Int) = 1) by omega, show ¬ ((3 : Int) = 2) by omega, if_false, if_true]
  omega

set_option maxHeartbeats 1600000 in
theorem move_any (a b p d : Int) (w : World) (ho : onB a b p = true) (d0 : 0 ≤ d) (d4 : d < 4) :
    Calls Try.prog 81 #[.int .i64 a, .int .i64 b, .int .i64 p, .int .i64 d] w fun e w' => e = .returned (.int .i64 (moveS a b p d)) ∧ w = w' := by
  obtain ⟨⟨⟨a2, a8⟩, b2, b8⟩, p0, pl⟩ := (onB_iff _ _ _).1 ho
  obtain ⟨x0, x1, y0, y1, _⟩ := coords ⟨a2, a8⟩ ⟨p0, pl⟩
  obtain ⟨s1, s2⟩ := size_bd ⟨a2, a8⟩ ⟨b2, b8⟩
  have az : (a == 0) = false := by rw [beq_eq_false_iff_ne]; omega
  have p9 : p < 64 := by omega
  have hi := inStep_iff a b p d
  rcases (show d = 0 ∨ d = 1 ∨ d = 2 ∨ d = 3 by omega) with rfl | rfl | rfl | rfl
  · simp [toX, toY] at hi
    by_cases hc : 0 < p / a
    · rw [show moveS a b p 0 = p - a from by unfold moveS; rw [if_pos (hi.2 (by omega)), toP_0 ho]]
      have e1 : decide (0 < p / a) = true := decide_eq_true hc
      clear hi hc ho
      go_enter Try.func81, Try.ntmps81
      go_wp2
      go_ret
      exact ⟨rfl, rfl⟩
    · rw [show moveS a b p 0 = -1 from by unfold moveS; rw [if_neg (fun h => hc (by have := hi.1 h; omega))]]
      have e1 : decide (0 < p / a) = false := decide_eq_false hc
      clear hi hc ho
      go_enter Try.func81, Try.ntmps81
      go_wp2
      go_ret
      exact ⟨rfl, rfl⟩
  · simp [toX, toY] at hi
    by_cases hc : p % a < a - 1
    · rw [show moveS a b p 1 = p + 1 from by unfold moveS; rw [if_pos (hi.2 (by omega)), toP_1 ho]]
      have e1 : decide (p % a < a - 1) = true := decide_eq_true hc
      clear hi hc ho
      go_enter Try.func81, Try.ntmps81
      go_wp2
      go_ret
      exact ⟨rfl, rfl⟩
    · rw [show moveS a b p 1 = -1 from by unfold moveS; rw [if_neg (fun h => hc (by have := hi.1 h; omega))]]
      have e1 : decide (p % a < a - 1) = false := decide_eq_false hc
      clear hi hc ho
      go_enter Try.func81, Try.ntmps81
      go_wp2
      go_ret
      exact ⟨rfl, rfl⟩
  · simp [toX, toY] at hi
    by_cases hc : p / a < b - 1
    · rw [show moveS a b p 2 = p + a from by unfold moveS; rw [if_pos (hi.2 (by omega)), toP_2 ho]]
      have e1 : decide (p / a < b - 1) = true := decide_eq_true hc
      clear hi hc ho
      go_enter Try.func81, Try.ntmps81
      go_wp2
      go_ret
      exact ⟨rfl, rfl⟩
    · rw [show moveS a b p 2 = -1 from by unfold moveS; rw [if_neg (fun h => hc (by have := hi.1 h; omega))]]
      have e1 : decide (p / a < b - 1) = false := decide_eq_false hc
      clear hi hc ho
      go_enter Try.func81, Try.ntmps81
      go_wp2
      go_ret
      exact ⟨rfl, rfl⟩
  · simp [toX, toY] at hi
    by_cases hc : 0 < p % a
    · rw [show moveS a b p 3 = p - 1 from by unfold moveS; rw [if_pos (hi.2 (by omega)), toP_3 ho]]
      have e1 : decide (0 < p % a) = true := decide_eq_true hc
      clear hi hc ho
      go_enter Try.func81, Try.ntmps81
      go_wp2
      go_ret
      exact ⟨rfl, rfl⟩
    · rw [show moveS a b p 3 = -1 from by unfold moveS; rw [if_neg (fun h => hc (by have := hi.1 h; omega))]]
      have e1 : decide (0 < p % a) = false := decide_eq_false hc
      clear hi hc ho
      go_enter Try.func81, Try.ntmps81
      go_wp2
      go_ret
      exact ⟨rfl, rfl⟩

theorem refCells_any (a b : Int) (w : World) : Calls Try.prog 38 #[.int .i64 a, .int .i64 b] w fun e w' => e = .returned (.tuple #[.int .i64 (cellsS a b).1, .int .i64 (cellsS a b).2]) ∧ w = w' := by
  have V := Lib.hid (fun W => validSides_any a b W)
  cases h : gridB a b
  · rw [show cellsS a b = (0, 2) from by unfold cellsS; rw [h]; rfl]
    rw [h] at V
    clear h
    go_enter Try.func38, Try.ntmps38
    go_wp2_with fail
    refine (V.out _).mono ?_
    rintro e x ⟨rfl, rfl⟩
    go_wp2
    go_ret2
    exact ⟨rfl, rfl⟩
  · rw [show cellsS a b = (a * b, 0) from by unfold cellsS; rw [h]; rfl]
    obtain ⟨h1, h2⟩ := (gridB_iff _ _).1 h
    obtain ⟨s1, s2⟩ := size_bd h1 h2
    have s0 : 0 ≤ a * b := by omega
    rw [h] at V
    clear h h1 h2
    go_enter Try.func38, Try.ntmps38
    go_wp2_with fail
    refine (V.out _).mono ?_
    rintro e x ⟨rfl, rfl⟩
    go_wp2
    go_ret2
    exact ⟨rfl, rfl⟩
theorem refLocate_any (a b p : Int) (w : World) : Calls Try.prog 39 #[.int .i64 a, .int .i64 b, .int .i64 p] w fun e w' => e = .returned (.tuple #[.int .i64 (locateS a b p).1, .int .i64 (locateS a b p).2.1, .int .i64 (locateS a b p).2.2]) ∧ ∃ d, w' = w.drewN d := by
  have O := Lib.hid (fun W => on_any a b p W)
  cases h : onB a b p
  · rw [show locateS a b p = (0, 0, 2) from by unfold locateS; rw [h]; rfl]
    rw [h] at O
    clear h
    go_enter Try.func39, Try.ntmps39
    go_wp2_with fail
    refine (O.out _).mono ?_
    rintro e x ⟨rfl, rfl⟩
    go_wp2
    go_ret3
    exact ⟨rfl, 0, rfl⟩
  · rw [show locateS a b p = (p % a, p / a, 0) from by unfold locateS; rw [h]; rfl]
    obtain ⟨⟨⟨a2, a8⟩, b2, b8⟩, p0, pl⟩ := (onB_iff _ _ _).1 h
    obtain ⟨x0, x1, y0, y1, _⟩ := coords ⟨a2, a8⟩ ⟨p0, pl⟩
    have az : (a == 0) = false := by rw [beq_eq_false_iff_ne]; omega
    have t1 : p.tmod a = p % a := Int.tmod_eq_emod_of_nonneg p0
    have t2 : p.tdiv a = p / a := Int.tdiv_eq_ediv_of_nonneg p0
    rw [h] at O
    clear h pl
    go_enter Try.func39, Try.ntmps39
    go_wp2_with fail
    refine (O.out _).mono ?_
    rintro e x ⟨rfl, rfl⟩
    go_wp2
    go_quiet (fail)
    go_wp2
    go_ret3
    exact ⟨rfl, _, rfl⟩

set_option maxHeartbeats 1600000 in
theorem refPlace_any (a b x y : Int) (w : World) : Calls Try.prog 40 #[.int .i64 a, .int .i64 b, .int .i64 x, .int .i64 y] w fun e w' => e = .returned (.tuple #[.int .i64 (placeS a b x y).1, .int .i64 (placeS a b x y).2]) ∧ w = w' := by
  have V := Lib.hid (fun W => validSides_any a b W)
  cases h : gridB a b
  · rw [show placeS a b x y = (0, 2) from by unfold placeS; rw [h]; rfl]
    rw [h] at V
    clear h
    go_enter Try.func40, Try.ntmps40
    go_wp2_with fail
    refine (V.out _).mono ?_
    rintro e x ⟨rfl, rfl⟩
    go_wp2
    go_ret2
    exact ⟨rfl, rfl⟩
  · obtain ⟨⟨a2, a8⟩, b2, b8⟩ := (gridB_iff _ _).1 h
    obtain ⟨s1, s2⟩ := size_bd ⟨a2, a8⟩ ⟨b2, b8⟩
    have az : (a == 0) = false := by rw [beq_eq_false_iff_ne]; omega
    have HRES : Hid (placeS a b x y = if inB a b x y then (y * a + x, 0) else (0, 2)) := Lib.hid (by unfold placeS; rw [h]; rfl)
    rw [h] at V
    obtain ⟨N, hN⟩ := Int.eq_ofNat_of_zero_le (show 0 ≤ a * b by omega)
    have HN := Lib.hid hN
    have n1 : (N : Int) ≤ 64 := by omega
    generalize placeS a b x y = R at *
    have s0 : 0 ≤ a * b := by omega
    clear h
    go_enter Try.func40, Try.ntmps40
    go_wp2_with fail
    refine (V.out _).mono ?_
    rintro e x ⟨rfl, rfl⟩
    go_wp2
    clear hN s1 s2
    go_loop [10] (fun i => ∃ k : Nat, k ≤ N ∧ i = .int .i64 (k : Int) ∧ Hid (∀ j : Nat, j < k → ¬ ((j : Int) % a = x ∧ (j : Int) / a = y))) (fun i => N - (intOf i).toNat)
    case atStart => exact ⟨0, Nat.zero_le _, rfl, Lib.hid (fun j hj => absurd hj (by omega))⟩
    case round =>
      obtain ⟨k, hk, rfl, hno⟩ := hrel
      have k0 : (0 : Int) ≤ (k : Int) := by omega
      have hab := HN.out
      have s0 : 0 ≤ a * b := by omega
      have s9 : a * b ≤ 64 := by omega
      by_cases hlt : k < N
      · have k1 : (k : Int) < a * b := by omega
        have l1 : decide ((k : Int) < a * b) = true := decide_eq_true k1
        have HK := Lib.hid k1
        obtain ⟨x0, x1, y0, y1, hsum⟩ := coords (h := b) ⟨a2, a8⟩ ⟨k0, k1⟩
        have HS := Lib.hid hsum
        clear hsum hab
        by_cases hx : (k : Int) % a = x
        · have e1 : ((k : Int) % a == x) = true := by simpa using hx
          by_cases hy : (k : Int) / a = y
          · have e2 : ((k : Int) / a == y) = true := by simpa using hy
            have hr : R = ((k : Int), 0) := by
              rw [HRES.out, if_pos ((inB_iff _ _ _ _).2 (by rw [← hx, ← hy]; exact ⟨x0, x1, y0, y1⟩)), ← hx, ← hy, HS.out]
            have HR := Lib.hid hr
            clear hx hy hr
            go_wp2
            go_ret2
            exact ⟨by rw [HR.out]; rfl, rfl⟩
          · have e2 : ((k : Int) / a == y) = false := by simpa using hy
            have HY := Lib.hid hy
            clear hx hy
            go_wp2
            go_round
            case rel => exact ⟨k + 1, by omega, by go_num, Lib.hid (fun j hj => by
                rcases Nat.lt_or_ge j k with h | h
                · exact hno.out j h
                · obtain rfl : j = k := by omega
                  exact fun h => HY.out h.2)⟩
            case measure => simp [intOf]; omega
        · have e1 : ((k : Int) % a == x) = false := by simpa using hx
          have HX := Lib.hid hx
          clear hx
          go_wp2
          go_round
          case rel => exact ⟨k + 1, by omega, by go_num, Lib.hid (fun j hj => by
              rcases Nat.lt_or_ge j k with h | h
              · exact hno.out j h
              · obtain rfl : j = k := by omega
                exact fun h => HX.out h.1)⟩
          case measure => simp [intOf]; omega
      · have l1 : decide ((k : Int) < a * b) = false := decide_eq_false (by omega)
        have hr : R = (0, 2) := by
          rw [HRES.out, if_neg]
          intro hin
          obtain ⟨h1, h2, h3, h4⟩ := (inB_iff _ _ _ _).1 hin
          obtain ⟨g1, g2, g3, g4⟩ := placed (h := b) ⟨a2, a8⟩ ⟨h1, h2⟩ ⟨h3, h4⟩
          obtain ⟨j, hj⟩ := Int.eq_ofNat_of_zero_le g1
          rw [hj] at g2 g3 g4
          exact hno.out j (by omega) ⟨g3, g4⟩
        have HR := Lib.hid hr
        clear hr hab
        go_wp2
        go_ret2
        exact ⟨by rw [HR.out]; rfl, rfl⟩

set_option maxHeartbeats 1600000 in
theorem refStep_any (a b p d : Int) (w : World) : Calls Try.prog 41 #[.int .i64 a, .int .i64 b, .int .i64 p, .int .i64 d] w fun e w' => e = .returned (.tuple #[.int .i64 (stepS a b p d).1, .int .i64 (stepS a b p d).2]) ∧ w = w' := by
  have O := Lib.hid (fun W => on_any a b p W)
  cases h : onB a b p
  · rw [step_arg (.inl h)]
    rw [h] at O
    clear h
    go_enter Try.func41, Try.ntmps41
    go_wp2_with fail
    refine (O.out _).mono ?_
    rintro e x ⟨rfl, rfl⟩
    go_wp2
    go_ret2
    exact ⟨rfl, rfl⟩
  · rw [h] at O
    rcases Int.lt_or_le d 0 with h0 | h0
    · rw [step_arg (.inr (by omega))]
      have e1 : decide (d < 0) = true := decide_eq_true h0
      clear h h0
      go_enter Try.func41, Try.ntmps41
      go_wp2_with fail
      refine (O.out _).mono ?_
      rintro e x ⟨rfl, rfl⟩
      go_wp2
      go_ret2
      exact ⟨rfl, rfl⟩
    · have e1 : decide (d < 0) = false := decide_eq_false (by omega)
      rcases Int.lt_or_le d 4 with h4 | h4
      · have e2 : decide (3 < d) = false := decide_eq_false (by omega)
        have M := Lib.hid (fun W => move_any a b p d W h h0 h4)
        cases hi : inStep a b p d
        · rw [step_no h ⟨h0, h4⟩ hi]
          rw [show moveS a b p d = -1 from by unfold moveS; rw [hi]; rfl] at M
          clear h h0 h4 hi
          go_enter Try.func41, Try.ntmps41
          go_wp2_with fail
          refine (O.out _).mono ?_
          rintro e x ⟨rfl, rfl⟩
          go_wp2_with fail
          refine (M.out _).mono ?_
          rintro e x ⟨rfl, rfl⟩
          go_wp2
          go_ret2
          exact ⟨rfl, rfl⟩
        · rw [step_yes h ⟨h0, h4⟩ hi]
          rw [show moveS a b p d = toP a p d from by unfold moveS; rw [hi]; rfl] at M
          have hq := ((onB_iff _ _ _).1 (toP_on h hi).1).2.1
          have e3 : decide (toP a p d < 0) = false := decide_eq_false (by omega)
          generalize toP a p d = q at *
          clear h h0 h4 hi
          go_enter Try.func41, Try.ntmps41
          go_wp2_with fail
          refine (O.out _).mono ?_
          rintro e x ⟨rfl, rfl⟩
          go_wp2_with fail
          refine (M.out _).mono ?_
          rintro e x ⟨rfl, rfl⟩
          go_wp2
          go_ret2
          exact ⟨rfl, rfl⟩
      · rw [step_arg (.inr (by omega))]
        have e2 : decide (3 < d) = true := decide_eq_true (by omega)
        clear h h0 h4
        go_enter Try.func41, Try.ntmps41
        go_wp2_with fail
        refine (O.out _).mono ?_
        rintro e x ⟨rfl, rfl⟩
        go_wp2
        go_ret2
        exact ⟨rfl, rfl⟩

theorem adj_dir {w h p q : Int} (hp : onB w h p = true) (hq : onB w h q = true) : distI w p q = 1 ↔ ∃ d : Nat, d < 4 ∧ moveS w h p (d : Int) = q := by
  obtain ⟨⟨hw, hh⟩, hp'⟩ := (onB_iff _ _ _).1 hp
  obtain ⟨_, hq'⟩ := (onB_iff _ _ _).1 hq
  constructor
  · intro h1
    obtain ⟨d, ⟨d0, d4⟩, hin, he⟩ := dist_closer hw hp' hq' (by omega)
    obtain ⟨k, rfl⟩ := Int.eq_ofNat_of_zero_le d0
    refine ⟨k, by omega, ?_⟩
    have hin' : inStep w h p (k : Int) = true := hin
    have hto := (onB_iff _ _ _).1 (toP_on hp hin').1
    unfold moveS
    rw [hin', if_pos rfl]
    exact (dist_zero hw hto.2 hq').1 (by have : distI w (toP w p (k : Int)) q = distI w p q - 1 := he; omega)
  · rintro ⟨d, hd, he⟩
    unfold moveS at he
    cases hin : inStep w h p (d : Int)
    · rw [hin] at he; simp at he; omega
    · rw [hin, if_pos rfl] at he
      have := adj_step hp (show 0 ≤ (d : Int) ∧ (d : Int) < 4 by omega) hin
      unfold adjS at this
      rw [hp, (toP_on hp hin).1] at this
      simp only [Bool.and_self, if_true, Prod.mk.injEq, decide_eq_true_eq, and_true] at this
      rw [← he]; exact this
set_option maxHeartbeats 1600000 in
theorem refAdjacent_any (a b p q : Int) (w : World) : Calls Try.prog 42 #[.int .i64 a, .int .i64 b, .int .i64 p, .int .i64 q] w fun e w' => e = .returned (.tuple #[.bool (adjS a b p q).1, .int .i64 (adjS a b p q).2]) ∧ w = w' := by
  have O := Lib.hid (fun W => on_any a b p W)
  have O2 := Lib.hid (fun W => on_any a b q W)
  cases h : onB a b p
  · rw [show adjS a b p q = (false, 2) from by unfold adjS; rw [h]; rfl]
    rw [h] at O
    clear h O2
    go_enter Try.func42, Try.ntmps42
    go_wp2_with fail
    refine (O.out _).mono ?_
    rintro e x ⟨rfl, rfl⟩
    go_wp2
    go_ret2
    exact ⟨rfl, rfl⟩
  · cases h2 : onB a b q
    · rw [show adjS a b p q = (false, 2) from by unfold adjS; rw [h, h2]; rfl]
      rw [h] at O
      rw [h2] at O2
      clear h h2
      go_enter Try.func42, Try.ntmps42
      go_wp2_with fail
      refine (O.out _).mono ?_
      rintro e x ⟨rfl, rfl⟩
      go_wp2_with fail
      refine (O2.out _).mono ?_
      rintro e x ⟨rfl, rfl⟩
      go_wp2
      go_ret2
      exact ⟨rfl, rfl⟩
    · have hadj := adj_dir h h2
      have M := Lib.hid (fun (k : Nat) (hk : k < 4) W => move_any a b p (k : Int) W h (by omega) (by omega))
      have HRES : Hid (adjS a b p q = (decide (∃ d : Nat, d < 4 ∧ moveS a b p (d : Int) = q), 0)) := Lib.hid (by
        unfold adjS
        rw [h, h2]
        simp only [Bool.and_self, if_true]
        congr 1
        exact decide_eq_decide.2 hadj)
      rw [h] at O
      rw [h2] at O2
      generalize adjS a b p q = R at *
      clear h h2 hadj
      go_enter Try.func42, Try.ntmps42
      go_wp2_with fail
      refine (O.out _).mono ?_
      rintro e x ⟨rfl, rfl⟩
      go_wp2_with fail
      refine (O2.out _).mono ?_
      rintro e x ⟨rfl, rfl⟩
      go_wp2
      go_loop [10] (fun i => ∃ k : Nat, k ≤ 4 ∧ i = .int .i64 (k : Int) ∧ Hid (∀ j : Nat, j < k → moveS a b p (j : Int) ≠ q)) (fun i => 4 - (intOf i).toNat)
      case atStart => exact ⟨0, Nat.zero_le _, rfl, Lib.hid (fun j hj => absurd hj (by omega))⟩
      case round =>
        obtain ⟨k, hk, rfl, hno⟩ := hrel
        by_cases hlt : k < 4
        · have M1 := Lib.hid (fun W => M.out k hlt W)
          by_cases he : moveS a b p (k : Int) = q
          · have hr : R = (true, 0) := by rw [HRES.out, decide_eq_true ⟨k, hlt, he⟩]
            rw [he] at M1
            have HR := Lib.hid hr
            clear hr he
            go_wp2_with fail
            refine (M1.out _).mono ?_
            rintro e x ⟨rfl, rfl⟩
            go_wp2
            go_ret2
            exact ⟨by rw [HR.out]; rfl, rfl⟩
          · have e1 : (moveS a b p (k : Int) == q) = false := by simpa using he
            have HE := Lib.hid he
            generalize moveS a b p (k : Int) = z at M1 e1
            clear he
            go_wp2_with fail
            refine (M1.out _).mono ?_
            rintro e x ⟨rfl, rfl⟩
            go_wp2
            go_round
            case rel => exact ⟨k + 1, by omega, by go_num, Lib.hid (fun j hj => by
                rcases Nat.lt_or_ge j k with h | h
                · exact hno.out j h
                · obtain rfl : j = k := by omega
                  exact HE.out)⟩
            case measure => simp [intOf]; omega
        · obtain rfl : k = 4 := by omega
          have hr : R = (false, 0) := by
            rw [HRES.out, decide_eq_false]
            rintro ⟨d, hd, he⟩
            exact hno.out d hd he
          have HR := Lib.hid hr
          clear hr
          go_wp2
          go_ret2
          exact ⟨by rw [HR.out]; rfl, rfl⟩
end Go.Proofs.Ythehkapaipfoaaa
