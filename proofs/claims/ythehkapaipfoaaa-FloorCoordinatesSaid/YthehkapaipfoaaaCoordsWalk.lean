/-
  FLOORCOORDINATES: the walk.
-/
import Derived.Test.YthehkapaipfoaaaFAlive
namespace Go.Proofs.Ythehkapaipfoaaa.floorCoordinates
set_option linter.unusedVariables false
set_option linter.unusedSimpArgs false
set_option maxRecDepth 100000
open Go.RowKit

theorem place_back {w h p : Int} (h1 : onB w h p = true) : placeS w h (p % w) (p / w) = (p, 0) := by
  obtain ⟨⟨hw, hh⟩, hp⟩ := (onB_iff _ _ _).1 h1
  obtain ⟨a, b, c, d, e⟩ := coords hw hp
  unfold placeS
  rw [(gridB_iff _ _).2 ⟨hw, hh⟩, (inB_iff _ _ _ _).2 ⟨a, b, c, d⟩, e]
  rfl
theorem locate_back {w h x y : Int} (h1 : gridB w h = true) (h2 : inB w h x y = true) : locateS w h (y * w + x) = (x, y, 0) := by
  obtain ⟨hw, hh⟩ := (gridB_iff _ _).1 h1
  obtain ⟨a, b, c, d⟩ := (inB_iff _ _ _ _).1 h2
  obtain ⟨p1, p2, p3, p4⟩ := placed (h := h) hw ⟨a, b⟩ ⟨c, d⟩
  unfold locateS
  rw [(onB_iff _ _ _).2 ⟨⟨hw, hh⟩, p1, p2⟩, p3, p4]
  rfl
set_option maxHeartbeats 1600000 in
theorem coords_bad (w h p x y : Int) (w0 : World) (hg : gridB w h = false) : Calls Try.prog 8 #[.int .i64 w, .int .i64 h, .int .i64 p, .int .i64 x, .int .i64 y] w0 fun e w' => e = .returned (.bool true) ∧ Below w0.heap.size w0 w' := by
  have C := Lib.hid (fun W => cells_any w h W)
  have L := Lib.hid (fun W => locateP_any w h p W)
  have P := Lib.hid (fun W => placeP_any w h x y W)
  have V := Lib.hid (fun W => validSides_any w h W)
  rw [show cellsS w h = (0, 2) from by unfold cellsS; rw [hg]; rfl] at C
  rw [show locateS w h p = (0, 0, 2) from by unfold locateS onB; rw [hg]; rfl] at L
  rw [show placeS w h x y = (0, 2) from by unfold placeS; rw [hg]; rfl] at P
  rw [hg] at V
  clear hg
  go_enter Try.func8, Try.ntmps8
  go_wp2_with fail
  refine (falive_true _).mono ?_
  rintro e x1 ⟨rfl, hb1⟩
  have B1 := Lib.hid hb1; clear hb1
  go_wp2_with fail
  refine (C.out _).mono ?_
  rintro e x2 ⟨rfl, hb2⟩
  have B2 := Lib.hid (B1.out.trans (hb2.mono B1.out.size)); clear hb2 B1
  go_wp2_with fail
  refine (L.out _).mono ?_
  rintro e x3 ⟨rfl, hb3⟩
  have B3 := Lib.hid (B2.out.trans (hb3.mono B2.out.size)); clear hb3 B2
  go_wp2_with fail
  refine (P.out _).mono ?_
  rintro e x4 ⟨rfl, hb4⟩
  have B4 := Lib.hid (B3.out.trans (hb4.mono B3.out.size)); clear hb4 B3
  go_wp2_with fail
  refine (V.out _).mono ?_
  rintro e x5 ⟨rfl, rfl⟩
  go_wp2
  go_ret
  exact ⟨rfl, B4.out⟩
set_option maxHeartbeats 3200000 in
theorem coords_yy (w h p x y : Int) (w0 : World) (hg : gridB w h = true) (p1 : 0 ≤ p) (p2 : p < w * h) (x1 : 0 ≤ x) (x2 : x < w) (y1 : 0 ≤ y) (y2 : y < h) : Calls Try.prog 8 #[.int .i64 w, .int .i64 h, .int .i64 p, .int .i64 x, .int .i64 y] w0 fun e w' => e = .returned (.bool true) ∧ Below w0.heap.size w0 w' := by
  have C := Lib.hid (fun W => cells_any w h W)
  have L := Lib.hid (fun W => locateP_any w h p W)
  have P := Lib.hid (fun W => placeP_any w h x y W)
  have V := Lib.hid (fun W => validSides_any w h W)
  rw [show cellsS w h = (w * h, 0) from by unfold cellsS; rw [hg]; rfl] at C
  rw [hg] at V
  have ho : onB w h p = true := by unfold onB; rw [hg, (hasB_iff _ _ _).2 ⟨p1, p2⟩]; rfl
  rw [show locateS w h p = (p % w, p / w, 0) from by unfold locateS; rw [ho]; rfl] at L
  have P2 := Lib.hid (fun W => placeP_any w h (p % w) (p / w) W)
  rw [place_back ho] at P2
  clear ho
  generalize p % w = a at *
  generalize p / w = b at *
  have hi : inB w h x y = true := (inB_iff _ _ _ _).2 ⟨x1, x2, y1, y2⟩
  rw [show placeS w h x y = (y * w + x, 0) from by unfold placeS; rw [hg, hi]; rfl] at P
  have L2 := Lib.hid (fun W => locateP_any w h (y * w + x) W)
  rw [locate_back hg hi] at L2
  clear hi hg
  generalize y * w + x = q at *
  generalize w * h = n at *
  have D : True := trivial
  go_enter Try.func8, Try.ntmps8
  go_wp2_with fail
  refine (falive_true _).mono ?_
  rintro e x1 ⟨rfl, hb1⟩
  have B1 := Lib.hid hb1; clear hb1
  go_wp2_with fail
  refine (C.out _).mono ?_
  rintro e x2 ⟨rfl, hb2⟩
  have B2 := Lib.hid (B1.out.trans (hb2.mono B1.out.size)); clear hb2 B1
  go_wp2_with fail
  refine (L.out _).mono ?_
  rintro e x3 ⟨rfl, hb3⟩
  have B3 := Lib.hid (B2.out.trans (hb3.mono B2.out.size)); clear hb3 B2
  go_wp2_with fail
  refine (P.out _).mono ?_
  rintro e x4 ⟨rfl, hb4⟩
  have B4 := Lib.hid (B3.out.trans (hb4.mono B3.out.size)); clear hb4 B3
  go_wp2_with fail
  refine (V.out _).mono ?_
  rintro e x5 ⟨rfl, rfl⟩
  go_wp2_with fail
  refine (P2.out _).mono ?_
  rintro e x6 ⟨rfl, hb6⟩
  have B6 := Lib.hid (B4.out.trans (hb6.mono B4.out.size)); clear hb6 B4
  go_wp2_with fail
  refine (is_true _ _).mono ?_
  rintro e x7 ⟨rfl, rfl⟩
  go_wp2_with fail
  refine (L2.out _).mono ?_
  rintro e x8 ⟨rfl, hb8⟩
  have B8 := Lib.hid (B6.out.trans (hb8.mono B6.out.size)); clear hb8 B6
  go_wp2
  go_ret
  exact ⟨rfl, B8.out⟩
set_option maxHeartbeats 3200000 in
theorem coords_yn (w h p x y : Int) (w0 : World) (hg : gridB w h = true) (p1 : 0 ≤ p) (p2 : p < w * h) (hq : x < 0 ∨ (0 ≤ x ∧ w ≤ x) ∨ (0 ≤ x ∧ x < w ∧ y < 0) ∨ (0 ≤ x ∧ x < w ∧ 0 ≤ y ∧ h ≤ y)) : Calls Try.prog 8 #[.int .i64 w, .int .i64 h, .int .i64 p, .int .i64 x, .int .i64 y] w0 fun e w' => e = .returned (.bool true) ∧ Below w0.heap.size w0 w' := by
  have C := Lib.hid (fun W => cells_any w h W)
  have L := Lib.hid (fun W => locateP_any w h p W)
  have P := Lib.hid (fun W => placeP_any w h x y W)
  have V := Lib.hid (fun W => validSides_any w h W)
  rw [show cellsS w h = (w * h, 0) from by unfold cellsS; rw [hg]; rfl] at C
  rw [hg] at V
  have ho : onB w h p = true := by unfold onB; rw [hg, (hasB_iff _ _ _).2 ⟨p1, p2⟩]; rfl
  rw [show locateS w h p = (p % w, p / w, 0) from by unfold locateS; rw [ho]; rfl] at L
  have P2 := Lib.hid (fun W => placeP_any w h (p % w) (p / w) W)
  rw [place_back ho] at P2
  clear ho
  generalize p % w = a at *
  generalize p / w = b at *
  have hi : inB w h x y = false := decide_eq_false (by omega)
  rw [show placeS w h x y = (0, 2) from by unfold placeS; rw [hg, hi]; rfl] at P
  clear hi hg
  generalize w * h = n at *
  have D : True := trivial
  have hq' : (decide (0 ≤ x) = false) ∨ (decide (0 ≤ x) = true ∧ decide (x < w) = false) ∨ (decide (0 ≤ x) = true ∧ decide (x < w) = true ∧ decide (0 ≤ y) = false) ∨ (decide (0 ≤ x) = true ∧ decide (x < w) = true ∧ decide (0 ≤ y) = true ∧ decide (y < h) = false) := by
    rcases hq with q | ⟨q, r⟩ | ⟨q, r, s⟩ | ⟨q, r, s, u⟩
    · exact .inl (decide_eq_false (by omega))
    · exact .inr (.inl ⟨decide_eq_true q, decide_eq_false (by omega)⟩)
    · exact .inr (.inr (.inl ⟨decide_eq_true q, decide_eq_true r, decide_eq_false (by omega)⟩))
    · exact .inr (.inr (.inr ⟨decide_eq_true q, decide_eq_true r, decide_eq_true s, decide_eq_false (by omega)⟩))
  clear hq
  rcases hq' with d3 | ⟨d3, d4⟩ | ⟨d3, d4, d5⟩ | ⟨d3, d4, d5, d6⟩
  all_goals
    go_enter Try.func8, Try.ntmps8
    go_wp2_with fail
    refine (falive_true _).mono ?_
    rintro e x1 ⟨rfl, hb1⟩
    have B1 := Lib.hid hb1; clear hb1
    go_wp2_with fail
    refine (C.out _).mono ?_
    rintro e x2 ⟨rfl, hb2⟩
    have B2 := Lib.hid (B1.out.trans (hb2.mono B1.out.size)); clear hb2 B1
    go_wp2_with fail
    refine (L.out _).mono ?_
    rintro e x3 ⟨rfl, hb3⟩
    have B3 := Lib.hid (B2.out.trans (hb3.mono B2.out.size)); clear hb3 B2
    go_wp2_with fail
    refine (P.out _).mono ?_
    rintro e x4 ⟨rfl, hb4⟩
    have B4 := Lib.hid (B3.out.trans (hb4.mono B3.out.size)); clear hb4 B3
    go_wp2_with fail
    refine (V.out _).mono ?_
    rintro e x5 ⟨rfl, rfl⟩
    go_wp2_with fail
    refine (P2.out _).mono ?_
    rintro e x6 ⟨rfl, hb6⟩
    have B6 := Lib.hid (B4.out.trans (hb6.mono B4.out.size)); clear hb6 B4
    go_wp2_with fail
    refine (is_true _ _).mono ?_
    rintro e x7 ⟨rfl, rfl⟩
    go_wp2
    go_ret
    exact ⟨rfl, B6.out⟩
set_option maxHeartbeats 3200000 in
theorem coords_ny (w h p x y : Int) (w0 : World) (hg : gridB w h = true) (hp : p < 0 ∨ w * h ≤ p) (x1 : 0 ≤ x) (x2 : x < w) (y1 : 0 ≤ y) (y2 : y < h) : Calls Try.prog 8 #[.int .i64 w, .int .i64 h, .int .i64 p, .int .i64 x, .int .i64 y] w0 fun e w' => e = .returned (.bool true) ∧ Below w0.heap.size w0 w' := by
  have C := Lib.hid (fun W => cells_any w h W)
  have L := Lib.hid (fun W => locateP_any w h p W)
  have P := Lib.hid (fun W => placeP_any w h x y W)
  have V := Lib.hid (fun W => validSides_any w h W)
  rw [show cellsS w h = (w * h, 0) from by unfold cellsS; rw [hg]; rfl] at C
  rw [hg] at V
  have ho : onB w h p = false := by unfold onB; rw [hg, show hasB w h p = false from decide_eq_false (by omega)]; rfl
  rw [show locateS w h p = (0, 0, 2) from by unfold locateS; rw [ho]; rfl] at L
  clear ho
  have hi : inB w h x y = true := (inB_iff _ _ _ _).2 ⟨x1, x2, y1, y2⟩
  rw [show placeS w h x y = (y * w + x, 0) from by unfold placeS; rw [hg, hi]; rfl] at P
  have L2 := Lib.hid (fun W => locateP_any w h (y * w + x) W)
  rw [locate_back hg hi] at L2
  clear hi hg
  generalize y * w + x = q at *
  generalize w * h = n at *
  have D : True := trivial
  have hp' : (decide (0 ≤ p) = false) ∨ (decide (0 ≤ p) = true ∧ decide (p < n) = false) := by
    by_cases q1 : 0 ≤ p
    · exact .inr ⟨decide_eq_true q1, decide_eq_false (by omega)⟩
    · exact .inl (decide_eq_false q1)
  clear hp
  rcases hp' with d1 | ⟨d1, d2⟩
  all_goals
    go_enter Try.func8, Try.ntmps8
    go_wp2_with fail
    refine (falive_true _).mono ?_
    rintro e x1 ⟨rfl, hb1⟩
    have B1 := Lib.hid hb1; clear hb1
    go_wp2_with fail
    refine (C.out _).mono ?_
    rintro e x2 ⟨rfl, hb2⟩
    have B2 := Lib.hid (B1.out.trans (hb2.mono B1.out.size)); clear hb2 B1
    go_wp2_with fail
    refine (L.out _).mono ?_
    rintro e x3 ⟨rfl, hb3⟩
    have B3 := Lib.hid (B2.out.trans (hb3.mono B2.out.size)); clear hb3 B2
    go_wp2_with fail
    refine (P.out _).mono ?_
    rintro e x4 ⟨rfl, hb4⟩
    have B4 := Lib.hid (B3.out.trans (hb4.mono B3.out.size)); clear hb4 B3
    go_wp2_with fail
    refine (V.out _).mono ?_
    rintro e x5 ⟨rfl, rfl⟩
    go_wp2_with fail
    refine (L2.out _).mono ?_
    rintro e x6 ⟨rfl, hb6⟩
    have B6 := Lib.hid (B4.out.trans (hb6.mono B4.out.size)); clear hb6 B4
    go_wp2
    go_ret
    exact ⟨rfl, B6.out⟩
set_option maxHeartbeats 3200000 in
theorem coords_nn (w h p x y : Int) (w0 : World) (hg : gridB w h = true) (hp : p < 0 ∨ w * h ≤ p) (hq : x < 0 ∨ (0 ≤ x ∧ w ≤ x) ∨ (0 ≤ x ∧ x < w ∧ y < 0) ∨ (0 ≤ x ∧ x < w ∧ 0 ≤ y ∧ h ≤ y)) : Calls Try.prog 8 #[.int .i64 w, .int .i64 h, .int .i64 p, .int .i64 x, .int .i64 y] w0 fun e w' => e = .returned (.bool true) ∧ Below w0.heap.size w0 w' := by
  have C := Lib.hid (fun W => cells_any w h W)
  have L := Lib.hid (fun W => locateP_any w h p W)
  have P := Lib.hid (fun W => placeP_any w h x y W)
  have V := Lib.hid (fun W => validSides_any w h W)
  rw [show cellsS w h = (w * h, 0) from by unfold cellsS; rw [hg]; rfl] at C
  rw [hg] at V
  have ho : onB w h p = false := by unfold onB; rw [hg, show hasB w h p = false from decide_eq_false (by omega)]; rfl
  rw [show locateS w h p = (0, 0, 2) from by unfold locateS; rw [ho]; rfl] at L
  clear ho
  have hi : inB w h x y = false := decide_eq_false (by omega)
  rw [show placeS w h x y = (0, 2) from by unfold placeS; rw [hg, hi]; rfl] at P
  clear hi hg
  generalize w * h = n at *
  have D : True := trivial
  have hp' : (decide (0 ≤ p) = false) ∨ (decide (0 ≤ p) = true ∧ decide (p < n) = false) := by
    by_cases q1 : 0 ≤ p
    · exact .inr ⟨decide_eq_true q1, decide_eq_false (by omega)⟩
    · exact .inl (decide_eq_false q1)
  clear hp
  have hq' : (decide (0 ≤ x) = false) ∨ (decide (0 ≤ x) = true ∧ decide (x < w) = false) ∨ (decide (0 ≤ x) = true ∧ decide (x < w) = true ∧ decide (0 ≤ y) = false) ∨ (decide (0 ≤ x) = true ∧ decide (x < w) = true ∧ decide (0 ≤ y) = true ∧ decide (y < h) = false) := by
    rcases hq with q | ⟨q, r⟩ | ⟨q, r, s⟩ | ⟨q, r, s, u⟩
    · exact .inl (decide_eq_false (by omega))
    · exact .inr (.inl ⟨decide_eq_true q, decide_eq_false (by omega)⟩)
    · exact .inr (.inr (.inl ⟨decide_eq_true q, decide_eq_true r, decide_eq_false (by omega)⟩))
    · exact .inr (.inr (.inr ⟨decide_eq_true q, decide_eq_true r, decide_eq_true s, decide_eq_false (by omega)⟩))
  clear hq
  rcases hp' with d1 | ⟨d1, d2⟩
  all_goals rcases hq' with d3 | ⟨d3, d4⟩ | ⟨d3, d4, d5⟩ | ⟨d3, d4, d5, d6⟩
  all_goals
    go_enter Try.func8, Try.ntmps8
    go_wp2_with fail
    refine (falive_true _).mono ?_
    rintro e x1 ⟨rfl, hb1⟩
    have B1 := Lib.hid hb1; clear hb1
    go_wp2_with fail
    refine (C.out _).mono ?_
    rintro e x2 ⟨rfl, hb2⟩
    have B2 := Lib.hid (B1.out.trans (hb2.mono B1.out.size)); clear hb2 B1
    go_wp2_with fail
    refine (L.out _).mono ?_
    rintro e x3 ⟨rfl, hb3⟩
    have B3 := Lib.hid (B2.out.trans (hb3.mono B2.out.size)); clear hb3 B2
    go_wp2_with fail
    refine (P.out _).mono ?_
    rintro e x4 ⟨rfl, hb4⟩
    have B4 := Lib.hid (B3.out.trans (hb4.mono B3.out.size)); clear hb4 B3
    go_wp2_with fail
    refine (V.out _).mono ?_
    rintro e x5 ⟨rfl, rfl⟩
    go_wp2
    go_ret
    exact ⟨rfl, B4.out⟩

/-- The walk: true, whatever came in. -/
theorem floorCoordinates_walk (w h p x y : Int) (w0 : World) (_ : (Lit.int .i64 w).wf = true) (_ : (Lit.int .i64 h).wf = true) (_ : (Lit.int .i64 p).wf = true) (_ : (Lit.int .i64 x).wf = true) (_ : (Lit.int .i64 y).wf = true) : Calls Try.prog 8 #[.int .i64 w, .int .i64 h, .int .i64 p, .int .i64 x, .int .i64 y] w0 fun e w' => e = .returned (.bool true) ∧ Below w0.heap.size w0 w' := by
  cases hg : gridB w h
  · exact coords_bad w h p x y w0 hg
  · by_cases hp : 0 ≤ p ∧ p < w * h
    · by_cases hq : 0 ≤ x ∧ x < w ∧ 0 ≤ y ∧ y < h
      · exact coords_yy w h p x y w0 hg hp.1 hp.2 hq.1 hq.2.1 hq.2.2.1 hq.2.2.2
      · exact coords_yn w h p x y w0 hg hp.1 hp.2 (by omega)
    · by_cases hq : 0 ≤ x ∧ x < w ∧ 0 ≤ y ∧ y < h
      · exact coords_ny w h p x y w0 hg (by omega) hq.1 hq.2.1 hq.2.2.1 hq.2.2.2
      · exact coords_nn w h p x y w0 hg (by omega) (by omega)
end Go.Proofs.Ythehkapaipfoaaa.floorCoordinates
