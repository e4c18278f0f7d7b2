/-
  FLOORGEOMETRY: the walk.
-/
import Derived.Test.YthehkapaipfoaaaFgDist
namespace Go.Proofs.Ythehkapaipfoaaa.floorGeometry
set_option linter.unusedVariables false
set_option linter.unusedSimpArgs false
set_option maxRecDepth 100000
open Go.RowKit

set_option maxHeartbeats 3200000 in
theorem floorGeometry_walk (w h p q x y d : Int) (w0 : World) (_ : (Lit.int .i64 w).wf = true) (_ : (Lit.int .i64 h).wf = true) (_ : (Lit.int .i64 p).wf = true) (_ : (Lit.int .i64 q).wf = true) (_ : (Lit.int .i64 x).wf = true) (_ : (Lit.int .i64 y).wf = true) (_ : (Lit.int .i64 d).wf = true) :
    Calls Try.prog 4 #[.int .i64 w, .int .i64 h, .int .i64 p, .int .i64 q, .int .i64 x, .int .i64 y, .int .i64 d] w0 fun e w' => e = .returned (.bool true) ∧ Below w0.heap.size w0 w' := by
  have C1 := Lib.hid (fun W => cells_any w h W)
  have C2 := Lib.hid (fun W => refCells_any w h W)
  have L1 := Lib.hid (fun W => locateP_any w h p W)
  have L2 := Lib.hid (fun W => refLocate_any w h p W)
  have P1 := Lib.hid (fun W => placeP_any w h x y W)
  have P2 := Lib.hid (fun W => refPlace_any w h x y W)
  have S1 := Lib.hid (fun W => stepP_any w h p d W)
  have S2 := Lib.hid (fun W => refStep_any w h p d W)
  have A1 := Lib.hid (fun W => adjP_any w h p q W)
  have A2 := Lib.hid (fun W => refAdjacent_any w h p q W)
  have D1 := Lib.hid (fun W => distP_any w h p q W)
  have D2 := Lib.hid (fun W => refDist_any w h p q W)
  generalize cellsS w h = c at C1 C2
  generalize locateS w h p = l at L1 L2
  generalize placeS w h x y = pl at P1 P2
  generalize stepS w h p d = s at S1 S2
  generalize adjS w h p q = a at A1 A2
  generalize distS w h p q = ds at D1 D2
  obtain ⟨c1, c2⟩ := c
  obtain ⟨l1, l2, l3⟩ := l
  obtain ⟨p1, p2⟩ := pl
  obtain ⟨s1, s2⟩ := s
  obtain ⟨a1, a2⟩ := a
  obtain ⟨d1, d2⟩ := ds
  go_enter Try.func4, Try.ntmps4
  go_wp2_with fail
  refine (C1.out _).mono ?_
  rintro e x ⟨rfl, hb⟩
  have B := Lib.hid hb
  clear hb
  go_wp2_with fail
  refine (C2.out _).mono ?_
  rintro e x ⟨rfl, rfl⟩
  go_wp2_with fail
  refine (L1.out _).mono ?_
  rintro e x ⟨rfl, hb⟩
  replace B := Lib.hid (B.out.trans (hb.mono B.out.size))
  clear hb
  go_wp2_with fail
  refine (L2.out _).mono ?_
  rintro e x2 ⟨rfl, dd, rfl⟩
  replace B := Lib.hid (below_drewN B.out dd)
  go_wp2_with fail
  refine (P1.out _).mono ?_
  rintro e x ⟨rfl, hb⟩
  replace B := Lib.hid (B.out.trans (hb.mono B.out.size))
  clear hb
  go_wp2_with fail
  refine (P2.out _).mono ?_
  rintro e x ⟨rfl, rfl⟩
  go_wp2_with fail
  refine (S1.out _).mono ?_
  rintro e x ⟨rfl, hb⟩
  replace B := Lib.hid (B.out.trans (hb.mono B.out.size))
  clear hb
  go_wp2_with fail
  refine (S2.out _).mono ?_
  rintro e x ⟨rfl, rfl⟩
  cases a1
  all_goals
    go_wp2_with fail
    refine (A1.out _).mono ?_
    rintro e x ⟨rfl, hb⟩
    replace B := Lib.hid (B.out.trans (hb.mono B.out.size))
    clear hb
    go_wp2_with fail
    refine (A2.out _).mono ?_
    rintro e x ⟨rfl, rfl⟩
    go_wp2_with fail
    refine (D1.out _).mono ?_
    rintro e x ⟨rfl, hb⟩
    replace B := Lib.hid (B.out.trans (hb.mono B.out.size))
    clear hb
    go_wp2_with fail
    refine (D2.out _).mono ?_
    rintro e x ⟨rfl, hb⟩
    replace B := Lib.hid (B.out.trans (hb.mono B.out.size))
    clear hb
    go_wp2
    go_ret
    exact ⟨rfl, B.out⟩
end Go.Proofs.Ythehkapaipfoaaa.floorGeometry
