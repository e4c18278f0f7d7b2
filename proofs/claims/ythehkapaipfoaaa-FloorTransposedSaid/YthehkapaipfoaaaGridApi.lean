/-
  GRIDAPI: contracts of floor's exported functions on places: Cells, Locate, Place, Step, Distance, Adjacent.
-/
import Derived.Test.YthehkapaipfoaaaGridOf
namespace Go.Proofs.Ythehkapaipfoaaa
set_option linter.unusedVariables false
set_option linter.unusedSimpArgs false
set_option maxRecDepth 100000
open Go.RowKit

theorem gridOf_any (a b : Int) (A : Option Addr) (n c : Nat) (ps : List Int) (w : World) (hr : Reads w w.heap.size 1 A n (iv ps)) (hn : n ≤ 1000) :
    Calls Try.prog 64 #[.int .i64 a, .int .i64 b, .slice A n c] w fun e w' => e = .returned (gridE a b (gridB a b && ps.all (hasB a b))) ∧ Below w.heap.size w w' := by
  cases h : gridB a b
  · exact gridOf_bad a b _ w h
  · obtain ⟨h1, h2⟩ := (gridB_iff _ _).1 h
    exact gridOf_ok a b A n c ps w h1 h2 hr hn
theorem iv_lit (w : World) (t : TypeId) (l : List Int) (vs : Array Value) (h : vs = (iv l).toArray) : Reads (w.alloc (.cells vs t)) (w.alloc (.cells vs t)).heap.size 1 (some ⟨w.heap.size, 0, none⟩) l.length (iv l) := by
  subst h
  have := reads_lit w t (iv l)
  rw [iv_length] at this
  exact this.more (by simp)
theorem gridOf0 (a b : Int) (t : Bool) (W : World) (h : gridB a b = t) :
    Calls Try.prog 64 #[.int .i64 a, .int .i64 b, .slice none 0 0] W fun e w' => e = .returned (gridE a b t) ∧ Below W.heap.size W w' := by
  have := gridOf_any a b none 0 0 [] W Reads.none_ (by omega)
  rw [h] at this
  simpa using this
theorem gridOf1 (a b p : Int) (t : Bool) (W : World) (h : onB a b p = t) :
    Calls Try.prog 64 #[.int .i64 a, .int .i64 b, .slice (some ⟨W.heap.size, 0, none⟩) 1 1] (W.alloc (.cells #[.int .i64 p] 3)) fun e w' => e = .returned (gridE a b t) ∧ Below W.heap.size W w' := by
  have := gridOf_any a b (some ⟨W.heap.size, 0, none⟩) 1 1 [p] (W.alloc (.cells #[.int .i64 p] 3)) (iv_lit _ _ [p] _ rfl) (by omega)
  rw [show (gridB a b && [p].all (hasB a b)) = t from by rw [← h]; unfold onB; simp] at this
  refine this.mono ?_
  rintro e w' ⟨rfl, hb⟩
  exact ⟨rfl, ((Below.refl _ _).alloc (Nat.le_refl _) _).trans (hb.mono (by simp))⟩
theorem gridOf2 (a b p q : Int) (t : Bool) (W : World) (h : (onB a b p && onB a b q) = t) :
    Calls Try.prog 64 #[.int .i64 a, .int .i64 b, .slice (some ⟨W.heap.size, 0, none⟩) 2 2] (W.alloc (.cells #[.int .i64 p, .int .i64 q] 3)) fun e w' => e = .returned (gridE a b t) ∧ Below W.heap.size W w' := by
  have := gridOf_any a b (some ⟨W.heap.size, 0, none⟩) 2 2 [p, q] (W.alloc (.cells #[.int .i64 p, .int .i64 q] 3)) (iv_lit _ _ [p, q] _ rfl) (by omega)
  rw [show (gridB a b && [p, q].all (hasB a b)) = t from by rw [← h]; unfold onB; cases gridB a b <;> simp] at this
  refine this.mono ?_
  rintro e w' ⟨rfl, hb⟩
  exact ⟨rfl, ((Below.refl _ _).alloc (Nat.le_refl _) _).trans (hb.mono (by simp))⟩

theorem cells_any (a b : Int) (w : World) : Calls Try.prog 19 #[.int .i64 a, .int .i64 b] w fun e w' => e = .returned (.tuple #[.int .i64 (cellsS a b).1, .int .i64 (cellsS a b).2]) ∧ Below w.heap.size w w' := by
  cases h : gridB a b
  · rw [show cellsS a b = (0, 2) from by unfold cellsS; rw [h]; rfl]
    have G : Hid _ := Lib.hid (fun W => gridOf0 a b false W h)
    simp only [gridE] at G
    go_enter Try.func19, Try.ntmps19
    go_wp2_with fail
    refine (G.out _).mono ?_
    rintro e w1 ⟨rfl, hb1⟩
    go_wp2
    go_ret2
    exact ⟨rfl, hb1.alloc hb1.size _⟩
  · rw [show cellsS a b = (a * b, 0) from by unfold cellsS; rw [h]; rfl]
    have G : Hid _ := Lib.hid (fun W => gridOf0 a b true W h)
    simp only [gridE] at G
    obtain ⟨h1, h2⟩ := (gridB_iff _ _).1 h
    have S := Lib.hid (fun W => size_any a b W h1 h2)
    clear h h1 h2
    go_enter Try.func19, Try.ntmps19
    go_wp2_with fail
    refine (G.out _).mono ?_
    rintro e w1 ⟨rfl, hb1⟩
    go_wp2_with fail
    refine (S.out _).mono ?_
    rintro e w2 ⟨rfl, hb2⟩
    go_wp2
    go_ret2
    exact ⟨rfl, (hb1.alloc hb1.size _).trans (hb2.mono (by have := hb1.size; simp; omega))⟩

theorem locateP_any (a b p : Int) (w : World) : Calls Try.prog 21 #[.int .i64 a, .int .i64 b, .int .i64 p] w fun e w' => e = .returned (.tuple #[.int .i64 (locateS a b p).1, .int .i64 (locateS a b p).2.1, .int .i64 (locateS a b p).2.2]) ∧ Below w.heap.size w w' := by
  cases h : onB a b p
  · rw [show locateS a b p = (0, 0, 2) from by unfold locateS; rw [h]; rfl]
    have G : Hid _ := Lib.hid (fun W => gridOf1 a b p false W h)
    simp only [gridE] at G
    go_enter Try.func21, Try.ntmps21
    go_wp2_with fail
    refine (G.out _).mono ?_
    rintro e w1 ⟨rfl, hb1⟩
    go_wp2
    go_ret3
    exact ⟨rfl, hb1.alloc hb1.size _⟩
  · rw [show locateS a b p = (p % a, p / a, 0) from by unfold locateS; rw [h]; rfl]
    have G : Hid _ := Lib.hid (fun W => gridOf1 a b p true W h)
    simp only [gridE] at G
    obtain ⟨⟨h1, h2⟩, h3⟩ := (onB_iff _ _ _).1 h
    have S := Lib.hid (fun W => locate_any a b p W h1 ⟨h3.1, by have := size_bd h1 h2; omega⟩)
    clear h h1 h2 h3
    go_enter Try.func21, Try.ntmps21
    go_wp2_with fail
    refine (G.out _).mono ?_
    rintro e w1 ⟨rfl, hb1⟩
    go_wp2_with fail
    refine (S.out _).mono ?_
    rintro e w2 ⟨rfl, hb2⟩
    go_wp2
    go_ret3
    exact ⟨rfl, (hb1.alloc hb1.size _).trans (hb2.mono (by have := hb1.size; simp; omega))⟩

theorem placeP_any (a b x y : Int) (w : World) : Calls Try.prog 20 #[.int .i64 a, .int .i64 b, .int .i64 x, .int .i64 y] w fun e w' => e = .returned (.tuple #[.int .i64 (placeS a b x y).1, .int .i64 (placeS a b x y).2]) ∧ Below w.heap.size w w' := by
  cases h : gridB a b
  · rw [show placeS a b x y = (0, 2) from by unfold placeS; rw [h]; rfl]
    have G : Hid _ := Lib.hid (fun W => gridOf0 a b false W h)
    simp only [gridE] at G
    go_enter Try.func20, Try.ntmps20
    go_wp2_with fail
    refine (G.out _).mono ?_
    rintro e w1 ⟨rfl, hb1⟩
    go_wp2
    go_ret2
    exact ⟨rfl, hb1.alloc hb1.size _⟩
  · have G : Hid _ := Lib.hid (fun W => gridOf0 a b true W h)
    simp only [gridE] at G
    obtain ⟨h1, h2⟩ := (gridB_iff _ _).1 h
    have S := Lib.hid (fun W => place_any a b x y W h1 h2)
    cases hin : inB a b x y
    · rw [show placeS a b x y = (0, 2) from by unfold placeS; rw [h, hin]; rfl]
      rw [hin] at S
      clear h h1 h2 hin
      go_enter Try.func20, Try.ntmps20
      go_wp2_with fail
      refine (G.out _).mono ?_
      rintro e w1 ⟨rfl, hb1⟩
      go_wp2_with fail
      refine (S.out _).mono ?_
      rintro e w2 ⟨rfl, hb2⟩
      go_wp2
      go_ret2
      exact ⟨rfl, (hb1.alloc hb1.size _).trans (hb2.mono (by have := hb1.size; simp; omega))⟩
    · rw [show placeS a b x y = (y * a + x, 0) from by unfold placeS; rw [h, hin]; rfl]
      rw [show placeN a b x y = y * a + x from by unfold placeN; rw [hin]; rfl, hin] at S
      clear h h1 h2 hin
      go_enter Try.func20, Try.ntmps20
      go_wp2_with fail
      refine (G.out _).mono ?_
      rintro e w1 ⟨rfl, hb1⟩
      go_wp2_with fail
      refine (S.out _).mono ?_
      rintro e w2 ⟨rfl, hb2⟩
      go_wp2
      go_ret2
      exact ⟨rfl, (hb1.alloc hb1.size _).trans (hb2.mono (by have := hb1.size; simp; omega))⟩

theorem distP_any (a b p q : Int) (w : World) : Calls Try.prog 25 #[.int .i64 a, .int .i64 b, .int .i64 p, .int .i64 q] w fun e w' => e = .returned (.tuple #[.int .i64 (distS a b p q).1, .int .i64 (distS a b p q).2]) ∧ Below w.heap.size w w' := by
  cases h : onB a b p && onB a b q
  · rw [show distS a b p q = (0, 2) from by unfold distS; rw [h]; rfl]
    have G : Hid _ := Lib.hid (fun W => gridOf2 a b p q false W h)
    simp only [gridE] at G
    go_enter Try.func25, Try.ntmps25
    go_wp2_with fail
    refine (G.out _).mono ?_
    rintro e w1 ⟨rfl, hb1⟩
    go_wp2
    go_ret2
    exact ⟨rfl, hb1.alloc hb1.size _⟩
  · rw [show distS a b p q = (distI a p q, 0) from by unfold distS; rw [h]; rfl]
    have G : Hid _ := Lib.hid (fun W => gridOf2 a b p q true W h)
    simp only [gridE] at G
    rw [Bool.and_eq_true] at h
    obtain ⟨⟨h1, h2⟩, h3⟩ := (onB_iff _ _ _).1 h.1
    obtain ⟨_, h4⟩ := (onB_iff _ _ _).1 h.2
    have S := Lib.hid (fun W => gdist_any a b p q W h1 h2 h3 h4)
    clear h h1 h2 h3 h4
    go_enter Try.func25, Try.ntmps25
    go_wp2_with fail
    refine (G.out _).mono ?_
    rintro e w1 ⟨rfl, hb1⟩
    go_wp2_with fail
    refine (S.out _).mono ?_
    rintro e w2 ⟨rfl, hb2⟩
    go_wp2
    go_ret2
    exact ⟨rfl, (hb1.alloc hb1.size _).trans (hb2.mono (by have := hb1.size; simp; omega))⟩

theorem adjP_any (a b p q : Int) (w : World) : Calls Try.prog 24 #[.int .i64 a, .int .i64 b, .int .i64 p, .int .i64 q] w fun e w' => e = .returned (.tuple #[.bool (adjS a b p q).1, .int .i64 (adjS a b p q).2]) ∧ Below w.heap.size w w' := by
  have D := Lib.hid (fun W => distP_any a b p q W)
  cases h : onB a b p && onB a b q
  · rw [show adjS a b p q = (false, 2) from by unfold adjS; rw [h]; rfl]
    rw [show distS a b p q = (0, 2) from by unfold distS; rw [h]; rfl] at D
    clear h
    go_enter Try.func24, Try.ntmps24
    go_wp2_with fail
    refine (D.out _).mono ?_
    rintro e w1 ⟨rfl, hb1⟩
    go_wp2
    go_ret2
    exact ⟨rfl, hb1⟩
  · rw [show adjS a b p q = (decide (distI a p q = 1), 0) from by unfold adjS; rw [h]; rfl]
    rw [show distS a b p q = (distI a p q, 0) from by unfold distS; rw [h]; rfl] at D
    clear h
    go_enter Try.func24, Try.ntmps24
    go_wp2_with fail
    refine (D.out _).mono ?_
    rintro e w1 ⟨rfl, hb1⟩
    go_wp2
    go_ret2
    exact ⟨rfl, hb1⟩

theorem stepP_any (a b p d : Int) (w : World) : Calls Try.prog 23 #[.int .i64 a, .int .i64 b, .int .i64 p, .int .i64 d] w fun e w' => e = .returned (.tuple #[.int .i64 (stepS a b p d).1, .int .i64 (stepS a b p d).2]) ∧ Below w.heap.size w w' := by
  cases h : onB a b p
  · rw [step_arg (.inl h)]
    have G : Hid _ := Lib.hid (fun W => gridOf1 a b p false W h)
    simp only [gridE] at G
    go_enter Try.func23, Try.ntmps23
    go_wp2_with fail
    refine (G.out _).mono ?_
    rintro e w1 ⟨rfl, hb1⟩
    go_wp2
    go_ret2
    exact ⟨rfl, hb1.alloc hb1.size _⟩
  · have G : Hid _ := Lib.hid (fun W => gridOf1 a b p true W h)
    simp only [gridE] at G
    by_cases hd : 0 ≤ d ∧ d < 4
    · obtain ⟨⟨h1, h2⟩, h3⟩ := (onB_iff _ _ _).1 h
      have S := Lib.hid (fun W => gstep_any a b p d W h1 h2 h3 hd)
      have d1 : decide (d < 0) = false := decide_eq_false (by omega)
      have d2 : decide (4 ≤ d) = false := decide_eq_false (by omega)
      cases hin : inStep a b p d
      · rw [step_no h hd hin]
        rw [hin] at S
        clear h h1 h2 h3 hin hd
        go_enter Try.func23, Try.ntmps23
        go_wp2_with fail
        refine (G.out _).mono ?_
        rintro e w1 ⟨rfl, hb1⟩
        go_wp2_with fail
        refine (S.out _).mono ?_
        rintro e w2 ⟨rfl, hb2⟩
        go_wp2
        go_ret2
        exact ⟨rfl, (hb1.alloc hb1.size _).trans (hb2.mono (by have := hb1.size; simp; omega))⟩
      · rw [step_yes h hd hin]
        rw [show placeN a b (toX a p d) (toY a p d) = toP a p d from by unfold placeN; rw [show inB a b (toX a p d) (toY a p d) = true from hin]; rfl, hin] at S
        clear h h1 h2 h3 hin hd
        go_enter Try.func23, Try.ntmps23
        go_wp2_with fail
        refine (G.out _).mono ?_
        rintro e w1 ⟨rfl, hb1⟩
        go_wp2_with fail
        refine (S.out _).mono ?_
        rintro e w2 ⟨rfl, hb2⟩
        go_wp2
        go_ret2
        exact ⟨rfl, (hb1.alloc hb1.size _).trans (hb2.mono (by have := hb1.size; simp; omega))⟩
    · rw [step_arg (.inr hd)]
      clear h
      by_cases d1 : d < 0
      · clear hd
        go_enter Try.func23, Try.ntmps23
        go_wp2_with fail
        refine (G.out _).mono ?_
        rintro e w1 ⟨rfl, hb1⟩
        go_wp2
        go_ret2
        exact ⟨rfl, hb1.alloc hb1.size _⟩
      · have d2 : 4 ≤ d := by omega
        clear hd d1
        go_enter Try.func23, Try.ntmps23
        go_wp2_with fail
        refine (G.out _).mono ?_
        rintro e w1 ⟨rfl, hb1⟩
        go_wp2
        go_ret2
        exact ⟨rfl, hb1.alloc hb1.size _⟩
end Go.Proofs.Ythehkapaipfoaaa
