/-
  FLOOREXAMPLES: the walk.
-/
import Derived.Test.YthehkapaipfoaaaExHelp
namespace Go.Proofs.Ythehkapaipfoaaa.floorExamples
set_option linter.unusedVariables false
set_option linter.unusedSimpArgs false
set_option maxRecDepth 100000
open Go.RowKit

theorem c1 (W : World) : Calls Try.prog 19 #[.int .i64 1, .int .i64 4] W fun e w' => e = .returned (.tuple #[.int .i64 0, .int .i64 2]) ∧ Below W.heap.size W w' := by
  have := cells_any 1 4 W
  rwa [show cellsS 1 4 = (0, 2) from by decide] at this
theorem c2 (W : World) : Calls Try.prog 19 #[.int .i64 8, .int .i64 9] W fun e w' => e = .returned (.tuple #[.int .i64 0, .int .i64 2]) ∧ Below W.heap.size W w' := by
  have := cells_any 8 9 W
  rwa [show cellsS 8 9 = (0, 2) from by decide] at this
theorem c3 (W : World) : Calls Try.prog 20 #[.int .i64 5, .int .i64 4, .int .i64 5, .int .i64 0] W fun e w' => e = .returned (.tuple #[.int .i64 0, .int .i64 2]) ∧ Below W.heap.size W w' := by
  have := placeP_any 5 4 5 0 W
  rwa [show placeS 5 4 5 0 = (0, 2) from by decide] at this
theorem c4 (W : World) : Calls Try.prog 21 #[.int .i64 5, .int .i64 4, .int .i64 20] W fun e w' => e = .returned (.tuple #[.int .i64 0, .int .i64 0, .int .i64 2]) ∧ Below W.heap.size W w' := by
  have := locateP_any 5 4 20 W
  rwa [show locateS 5 4 20 = (0, 0, 2) from by decide] at this
theorem c5 (W : World) : Calls Try.prog 23 #[.int .i64 5, .int .i64 4, .int .i64 0, .int .i64 1] W fun e w' => e = .returned (.tuple #[.int .i64 1, .int .i64 0]) ∧ Below W.heap.size W w' := by
  have := stepP_any 5 4 0 1 W
  rwa [show stepS 5 4 0 1 = (1, 0) from by decide] at this
theorem c6 (W : World) : Calls Try.prog 23 #[.int .i64 5, .int .i64 4, .int .i64 0, .int .i64 0] W fun e w' => e = .returned (.tuple #[.int .i64 0, .int .i64 6]) ∧ Below W.heap.size W w' := by
  have := stepP_any 5 4 0 0 W
  rwa [show stepS 5 4 0 0 = (0, 6) from by decide] at this
theorem c7 (W : World) : Calls Try.prog 23 #[.int .i64 5, .int .i64 4, .int .i64 0, .int .i64 4] W fun e w' => e = .returned (.tuple #[.int .i64 0, .int .i64 2]) ∧ Below W.heap.size W w' := by
  have := stepP_any 5 4 0 4 W
  rwa [show stepS 5 4 0 4 = (0, 2) from by decide] at this
theorem c8 (W : World) : Calls Try.prog 24 #[.int .i64 5, .int .i64 4, .int .i64 13, .int .i64 18] W fun e w' => e = .returned (.tuple #[.bool true, .int .i64 0]) ∧ Below W.heap.size W w' := by
  have := adjP_any 5 4 13 18 W
  rwa [show adjS 5 4 13 18 = (true, 0) from by decide] at this
theorem c9 (W : World) : Calls Try.prog 24 #[.int .i64 5, .int .i64 4, .int .i64 4, .int .i64 5] W fun e w' => e = .returned (.tuple #[.bool false, .int .i64 0]) ∧ Below W.heap.size W w' := by
  have := adjP_any 5 4 4 5 W
  rwa [show adjS 5 4 4 5 = (false, 0) from by decide] at this
theorem c10 (W : World) : Calls Try.prog 25 #[.int .i64 5, .int .i64 4, .int .i64 0, .int .i64 19] W fun e w' => e = .returned (.tuple #[.int .i64 7, .int .i64 0]) ∧ Below W.heap.size W w' := by
  have := distP_any 5 4 0 19 W
  rwa [show distS 5 4 0 19 = (7, 0) from by decide] at this
theorem p2 (A : Option Addr) (c : Nat) (W : World) (hr : Hid (Reads W W.heap.size 1 A 6 (bv sixL))) : Calls Try.prog 28 #[.agg #[.int .i64 3, .int .i64 2, .slice A 6 c], .int .i64 2] W fun e w' =>
    ∃ A' c', e = .returned (.tuple #[.slice A' 0 c', .int .i64 0]) ∧ Below W.heap.size W w' := by
  have h := private_any 3 2 A 6 c sixL 2 W hr.out (by omega)
  rw [show privS 3 2 sixL 2 = ([], 0) from by decide] at h
  refine h.mono ?_
  rintro e w' ⟨v, rfl, hown, hb⟩
  obtain ⟨A', c', rfl, _, _, _⟩ := own_form hown
  exact ⟨A', c', rfl, hb⟩
theorem p3 (A : Option Addr) (c : Nat) (W : World) (hr : Hid (Reads W W.heap.size 1 A 6 (bv sixL))) : Calls Try.prog 28 #[.agg #[.int .i64 3, .int .i64 2, .slice A 6 c], .int .i64 3] W fun e w' =>
    ∃ A' c', e = .returned (.tuple #[.slice A' 0 c', .int .i64 2]) ∧ Below W.heap.size W w' := by
  have h := private_any 3 2 A 6 c sixL 3 W hr.out (by omega)
  rw [show privS 3 2 sixL 3 = ([], 2) from by decide] at h
  refine h.mono ?_
  rintro e w' ⟨v, rfl, hown, hb⟩
  obtain ⟨A', c', rfl, _, _, _⟩ := own_form hown
  exact ⟨A', c', rfl, hb⟩
theorem o6 (A : Option Addr) (c : Nat) (W : World) (hr : Hid (Reads W W.heap.size 1 A 6 (bv sixL))) : Calls Try.prog 29 #[.agg #[.int .i64 3, .int .i64 2, .slice A 6 c], .int .i64 6] W fun e w' =>
    e = .returned (.tuple #[.int .i64 0, .int .i64 2]) ∧ Below W.heap.size W w' := by
  have h := owner_any 3 2 A 6 c sixL 6 W hr.out (by omega)
  rwa [show ownS 3 2 sixL 6 = (0, 2) from by decide] at h
theorem k1 (A : Option Addr) (c : Nat) (W : World) (hr : Hid (Reads W W.heap.size 1 A 6 (bv sixL))) : Calls Try.prog 31 #[.agg #[.int .i64 3, .int .i64 2, .slice A 6 c]] W fun e w' =>
    e = .returned (.int .i64 0) ∧ Below W.heap.size W w' := by
  have h := check_any 3 2 A 6 c sixL W hr.out (by omega)
  rwa [if_pos (by decide)] at h
theorem k2 (A : Option Addr) (c : Nat) (W : World) (hr : Hid (Reads W W.heap.size 1 A 6 (bv (sixL.set 2 4)))) : Calls Try.prog 31 #[.agg #[.int .i64 3, .int .i64 2, .slice A 6 c]] W fun e w' =>
    e = .returned (.int .i64 50) ∧ Below W.heap.size W w' := by
  have h := check_any 3 2 A 6 c (sixL.set 2 4) W hr.out (by omega)
  rwa [if_neg (by decide)] at h
theorem q1 (W : World) : Calls Try.prog 33 #[.string ⟨#[48, 46, 49, 10, 35, 46, 48]⟩] W fun e w' =>
    ∃ A' c', e = .returned (.tuple #[.agg #[.int .i64 0, .int .i64 0, .slice A' 0 c'], .int .i64 11]) ∧ Below W.heap.size W w' := by
  have h := parse_any ⟨#[48, 46, 49, 10, 35, 46, 48]⟩ W (by decide)
  rw [show parseF (⟨#[48, 46, 49, 10, 35, 46, 48]⟩ : ByteArray).data.toList = (0, 0, [], 11) from by decide] at h
  refine h.mono ?_
  rintro e w' ⟨v, rfl, hown, hb⟩
  obtain ⟨A', c', rfl, _, _, _⟩ := own_form hown
  exact ⟨A', c', rfl, hb⟩
theorem q2 (W : World) : Calls Try.prog 33 #[.string ⟨#[48, 46, 49, 10, 35, 46, 10]⟩] W fun e w' =>
    ∃ A' c', e = .returned (.tuple #[.agg #[.int .i64 0, .int .i64 0, .slice A' 0 c'], .int .i64 11]) ∧ Below W.heap.size W w' := by
  have h := parse_any ⟨#[48, 46, 49, 10, 35, 46, 10]⟩ W (by decide)
  rw [show parseF (⟨#[48, 46, 49, 10, 35, 46, 10]⟩ : ByteArray).data.toList = (0, 0, [], 11) from by decide] at h
  refine h.mono ?_
  rintro e w' ⟨v, rfl, hown, hb⟩
  obtain ⟨A', c', rfl, _, _, _⟩ := own_form hown
  exact ⟨A', c', rfl, hb⟩
theorem q3 (W : World) : Calls Try.prog 33 #[.string ⟨#[46, 46, 10]⟩] W fun e w' =>
    ∃ A' c', e = .returned (.tuple #[.agg #[.int .i64 0, .int .i64 0, .slice A' 0 c'], .int .i64 50]) ∧ Below W.heap.size W w' := by
  have h := parse_any ⟨#[46, 46, 10]⟩ W (by decide)
  rw [show parseF (⟨#[46, 46, 10]⟩ : ByteArray).data.toList = (0, 0, [], 50) from by decide] at h
  refine h.mono ?_
  rintro e w' ⟨v, rfl, hown, hb⟩
  obtain ⟨A', c', rfl, _, _, _⟩ := own_form hown
  exact ⟨A', c', rfl, hb⟩
theorem q4 (W : World) : Calls Try.prog 33 #[.string ⟨#[]⟩] W fun e w' =>
    ∃ A' c', e = .returned (.tuple #[.agg #[.int .i64 0, .int .i64 0, .slice A' 0 c'], .int .i64 50]) ∧ Below W.heap.size W w' := by
  have h := parse_any ⟨#[]⟩ W (by decide)
  rw [show parseF (⟨#[]⟩ : ByteArray).data.toList = (0, 0, [], 50) from by decide] at h
  refine h.mono ?_
  rintro e w' ⟨v, rfl, hown, hb⟩
  obtain ⟨A', c', rfl, _, _, _⟩ := own_form hown
  exact ⟨A', c', rfl, hb⟩
theorem s1 (W : World) (A : Option Addr) (c : Nat) (hr : Reads W W.heap.size 1 A 1 (bv [2])) : Calls Try.prog 34 #[.slice A 1 c, .int .u64 18446744073709551615, .int .i64 1] W fun e w' => e = .returned (.tuple #[.int .i64 1, .int .i64 0]) ∧ Below W.heap.size W w' := by
  have h := sliceLeft_any A 1 c 18446744073709551615 [2] 1 W hr (by omega) (by omega)
  rwa [show leftS [2] 18446744073709551615 1 = (1, 0) from by decide +kernel] at h
theorem s2 (W : World) (A : Option Addr) (c : Nat) (hr : Hid (Reads W W.heap.size 1 A 4 (bv fourL))) : Calls Try.prog 35 #[.slice A 4 c, .int .u64 0, .int .i64 2] W fun e w' => e = .returned (.tuple #[.int .i64 0, .int .i64 6]) ∧ Below W.heap.size W w' := by
  have h := sliceWait_any A 4 c 0 fourL 2 W hr.out (by omega) (by omega)
  rwa [show waitS fourL 0 2 = (0, 6) from by decide] at h
theorem s3 (W : World) (A : Option Addr) (c : Nat) (hr : Hid (Reads W W.heap.size 1 A 4 (bv fourL))) : Calls Try.prog 34 #[.slice A 4 c, .int .u64 0, .int .i64 3] W fun e w' => e = .returned (.tuple #[.int .i64 0, .int .i64 2]) ∧ Below W.heap.size W w' := by
  have h := sliceLeft_any A 4 c 0 fourL 3 W hr.out (by omega) (by omega)
  rwa [show leftS fourL 0 3 = (0, 2) from by decide] at h
theorem s4 (W : World) : Calls Try.prog 35 #[.slice none 0 0, .int .u64 0, .int .i64 3] W fun e w' => e = .returned (.tuple #[.int .i64 0, .int .i64 60]) ∧ Below W.heap.size W w' := by
  have h := sliceWait_any none 0 0 0 [] 3 W Reads.none_ (by omega) (by omega)
  rwa [show waitS [] 0 3 = (0, 60) from by decide] at h
theorem z17 (W : World) (A : Option Addr) (c : Nat) (hr : Reads W W.heap.size 1 A 17 (bv (List.replicate 17 0))) : Calls Try.prog 37 #[.slice A 17 c] W fun e w' => e = .returned (.int .i64 60) ∧ W = w' := by
  have h := checkSlices_any A 17 c _ W hr (by omega)
  rwa [if_neg (by decide)] at h
theorem z16 (W : World) (A : Option Addr) (c : Nat) (hr : Reads W W.heap.size 1 A 16 (bv (List.replicate 16 0))) : Calls Try.prog 37 #[.slice A 16 c] W fun e w' => e = .returned (.int .i64 0) ∧ W = w' := by
  have h := checkSlices_any A 16 c _ W hr (by omega)
  rwa [if_pos (by decide)] at h
theorem z4 (W : World) (A : Option Addr) (c : Nat) (hr : Reads W W.heap.size 1 A 1 (bv [4])) : Calls Try.prog 37 #[.slice A 1 c] W fun e w' => e = .returned (.int .i64 60) ∧ W = w' := by
  have h := checkSlices_any A 1 c _ W hr (by omega)
  rwa [if_neg (by decide)] at h

/-- the floor of the examples with one bad cell, in a variable. -/
structure BadW (w X : World) (g1 g2 cg : Nat) : Prop where
  kg : Blk X g2 34 (b3 3 2 (.slice (some ⟨g1, 0, none⟩) 6 cg))
  rg : Reads X X.heap.size 1 (some ⟨g1, 0, none⟩) 6 (bv (sixL.set 2 4))
  bel : Below w.heap.size w X
theorem BadW.next {w X X' : World} {g1 g2 cg : Nat} (h : BadW w X g1 g2 cg) (hb : Below X.heap.size X X') : BadW w X' g1 g2 cg := ⟨h.kg.below hb h.kg.lt, (h.rg.below hb).more hb.size, h.bel.trans (hb.mono h.bel.size)⟩
theorem badW_made {w x : World} {g1 cg base : Nat} (hown : x.ownsRow base 5 1 (.slice (some ⟨g1, 0, none⟩) 6 cg) 6 (bv sixL)) (hg1 : w.heap.size ≤ g1) (hb : Below w.heap.size w x) :
    BadW w ((x.setCell ⟨g1, 2, none⟩ (.int .u8 4)).alloc (.cells #[.int .i64 3, .int .i64 2, .slice (some ⟨g1, 0, none⟩) 6 cg] 34)) g1 x.heap.size cg := by
  have hz : (x.setCell ⟨g1, 2, none⟩ (u8v 4)).heap.size = x.heap.size := by simp [World.setCell]
  have ho := ((hown.stored 2 (u8v 4)).1).alloc (.cells #[.int .i64 3, .int .i64 2, .slice (some ⟨g1, 0, none⟩) 6 cg] 34)
  refine ⟨?_, ?_, ?_⟩
  · have := Blk.new (x.setCell ⟨g1, 2, none⟩ (u8v 4)) 34 (b3 3 2 (.slice (some ⟨g1, 0, none⟩) 6 cg))
    rwa [hz] at this
  · have := Reads.of_own ho
    rwa [bv_set] at this
  · exact (hb.setCell hg1 _).alloc (by rw [show (x.setCell ⟨g1, 2, none⟩ (Value.int .u8 4)).heap.size = x.heap.size from by simp [World.setCell]]; exact hb.size) _

set_option maxHeartbeats 6400000 in
theorem ex_true (w : World) : Calls Try.prog 3 #[] w fun e w' => e = .returned (.bool true) ∧ Below w.heap.size w w' := by
  obtain ⟨i0, hi, hz0, hz1, hz2⟩ := info_parts u8_info'
  have hmk17 := fun W : World => run_make (P := Try.prog) W 32 5 i0 (.int .u8 0) Try.underlying32 hi hz0 .i64 .i64 17 17 (by omega) (by omega) (by rw [hz2]; omega) (by omega)
  have hmk16 := fun W : World => run_make (P := Try.prog) W 32 5 i0 (.int .u8 0) Try.underlying32 hi hz0 .i64 .i64 16 16 (by omega) (by omega) (by rw [hz2]; omega) (by omega)
  rw [hz1] at hmk17 hmk16
  simp only [Int.reduceToNat, Nat.mul_one, Nat.reduceMul, Value.cells] at hmk17 hmk16
  have M17 := Lib.hid hmk17; have M16 := Lib.hid hmk16
  clear hi hz0 hz1 hz2 hmk17 hmk16
  go_enter Try.func3, Try.ntmps3
  go_wp2_with fail
  refine (c1 _).mono ?_
  rintro e x ⟨rfl, hb⟩
  have B := Lib.hid hb
  clear hb
  go_wp2_with fail
  refine (c2 _).mono ?_
  rintro e x ⟨rfl, hb⟩
  replace B := Lib.hid (B.out.trans (hb.mono B.out.size))
  clear hb
  go_wp2_with fail
  refine (c3 _).mono ?_
  rintro e x ⟨rfl, hb⟩
  replace B := Lib.hid (B.out.trans (hb.mono B.out.size))
  clear hb
  go_wp2_with fail
  refine (c4 _).mono ?_
  rintro e x ⟨rfl, hb⟩
  replace B := Lib.hid (B.out.trans (hb.mono B.out.size))
  clear hb
  go_wp2_with fail
  refine (falive_true _).mono ?_
  rintro e x ⟨rfl, hb⟩
  replace B := Lib.hid (B.out.trans (hb.mono B.out.size))
  clear hb
  go_wp2_with fail
  refine (c5 _).mono ?_
  rintro e x ⟨rfl, hb⟩
  replace B := Lib.hid (B.out.trans (hb.mono B.out.size))
  clear hb
  go_wp2_with fail
  refine (c6 _).mono ?_
  rintro e x ⟨rfl, hb⟩
  replace B := Lib.hid (B.out.trans (hb.mono B.out.size))
  clear hb
  go_wp2_with fail
  refine (c7 _).mono ?_
  rintro e x ⟨rfl, hb⟩
  replace B := Lib.hid (B.out.trans (hb.mono B.out.size))
  clear hb
  go_wp2_with fail
  refine (c8 _).mono ?_
  rintro e x ⟨rfl, hb⟩
  replace B := Lib.hid (B.out.trans (hb.mono B.out.size))
  clear hb
  go_wp2_with fail
  refine (c9 _).mono ?_
  rintro e x ⟨rfl, hb⟩
  replace B := Lib.hid (B.out.trans (hb.mono B.out.size))
  clear hb
  go_wp2_with fail
  refine (c10 _).mono ?_
  rintro e x ⟨rfl, hb⟩
  replace B := Lib.hid (B.out.trans (hb.mono B.out.size))
  clear hb
  go_wp2_with fail
  refine (is_true _ _).mono ?_
  rintro e x ⟨rfl, rfl⟩
  go_wp2_with fail
  refine (is_true _ _).mono ?_
  rintro e x ⟨rfl, rfl⟩
  go_wp2_with fail
  refine (six_own _).mono ?_
  rintro e x3 ⟨g1, cg, rfl, ho, hb⟩
  have hg := (ho.out.lt g1 rfl)
  have BM := Lib.hid (badW_made (w := w) ho.out (Nat.le_trans B.out.size hg.1) (B.out.trans (hb.mono B.out.size)))
  have ho2 := ho.out.alloc (.cells #[.int .i64 3, .int .i64 2, .slice (some ⟨g1, 0, none⟩) 6 cg] 34)
  have fz := ho2.frozenAt 2
  have cz : (x3.alloc (.cells #[.int .i64 3, .int .i64 2, .slice (some ⟨g1, 0, none⟩) 6 cg] 34)).cell? ⟨g1, 2, none⟩ = some (.int .u8 2) := by rw [ho2.cellAt 2 (by omega)]; rfl
  have hlt := hg.2
  clear hb ho ho2 B hg
  go_upto_region 17 with fail
  generalize World.alloc _ _ = X at BM ⊢
  generalize x3.heap.size = g2 at BM ⊢
  clear cz fz hlt
  have W := BM
  clear BM
  go_wp2_with fail
  refine (six_any _).mono ?_
  rintro e x ⟨A1, c1, rfl, r1, hb⟩
  replace W := Lib.hid (W.out.next hb)
  clear hb
  go_wp2_with fail
  refine (p2 _ _ _ r1).mono ?_
  rintro e x ⟨A9, c99, rfl, hb⟩
  replace W := Lib.hid (W.out.next hb)
  clear hb r1
  go_wp2_with fail
  refine (six_any _).mono ?_
  rintro e x ⟨A1, c1, rfl, r1, hb⟩
  replace W := Lib.hid (W.out.next hb)
  clear hb
  go_wp2_with fail
  refine (o6 _ _ _ r1).mono ?_
  rintro e x ⟨rfl, hb⟩
  replace W := Lib.hid (W.out.next hb)
  clear hb
  clear r1
  go_wp2_with fail
  refine (six_any _).mono ?_
  rintro e x ⟨A1, c1, rfl, r1, hb⟩
  replace W := Lib.hid (W.out.next hb)
  clear hb
  go_wp2_with fail
  refine (p3 _ _ _ r1).mono ?_
  rintro e x ⟨A2, c2, rfl, hb⟩
  replace W := Lib.hid (W.out.next hb)
  clear hb
  clear r1
  go_wp2_with fail
  have RO := iv_lit x 3 wantL #[.int .i64 0, .int .i64 (-2), .int .i64 1, .int .i64 (-1)] rfl
  replace W := Lib.hid (W.out.next ((Below.refl _ _).alloc (Nat.le_refl _) (.cells #[.int .i64 0, .int .i64 (-2), .int .i64 1, .int .i64 (-1)] 3)))
  refine (owns_yes _ _ _ RO).mono ?_
  rintro e x ⟨rfl, hb⟩
  replace W := Lib.hid (W.out.next hb)
  clear hb RO
  have d0 := W.out.kg.cellv 0 (v := .int .i64 3) rfl
  have d1 := W.out.kg.cellv 1 (v := .int .i64 2) rfl
  have d2 := W.out.kg.cellv 2 (v := .slice (some ⟨g1, 0, none⟩) 6 cg) rfl
  go_wp2_with fail
  refine (k2 _ _ _ (Lib.hid W.out.rg)).mono ?_
  rintro e x ⟨rfl, hb⟩
  replace W := Lib.hid (W.out.next hb)
  clear hb
  clear d0 d1 d2
  go_wp2_with fail
  refine (six_any _).mono ?_
  rintro e x ⟨A1, c1, rfl, r1, hb⟩
  replace W := Lib.hid (W.out.next hb)
  clear hb
  go_wp2_with fail
  refine (k1 _ _ _ r1).mono ?_
  rintro e x ⟨rfl, hb⟩
  replace W := Lib.hid (W.out.next hb)
  clear hb
  clear r1
  go_wp2_with fail
  refine (are_yes A9 none 0 c99 0 [] _ ⟨by simp, fun h => absurd h (by omega)⟩ Reads.none_ (by omega)).mono ?_
  rintro e x ⟨rfl, d, rfl⟩
  replace W := Lib.hid (W.out.next (below_drewN (Below.refl _ _) d))
  go_wp2_with fail
  refine (q1 _).mono ?_
  rintro e x ⟨A2, c2, rfl, hb⟩
  replace W := Lib.hid (W.out.next hb)
  clear hb
  go_wp2_with fail
  refine (q2 _).mono ?_
  rintro e x ⟨A2, c2, rfl, hb⟩
  replace W := Lib.hid (W.out.next hb)
  clear hb
  go_wp2_with fail
  refine (q3 _).mono ?_
  rintro e x ⟨A2, c2, rfl, hb⟩
  replace W := Lib.hid (W.out.next hb)
  clear hb
  go_wp2_with fail
  refine (q4 _).mono ?_
  rintro e x ⟨A2, c2, rfl, hb⟩
  replace W := Lib.hid (W.out.next hb)
  clear hb
  go_wp2_with fail
  have RO := lit_reads x 5 [2] #[.int .u8 2] rfl
  replace W := Lib.hid (W.out.next ((Below.refl _ _).alloc (Nat.le_refl _) (.cells #[.int .u8 2] 5)))
  refine (s1 _ _ _ RO).mono ?_
  rintro e x ⟨rfl, hb⟩
  replace W := Lib.hid (W.out.next hb)
  clear hb RO
  go_wp2_with fail
  refine (four_any _).mono ?_
  rintro e x ⟨A1, c1, rfl, r1, hb⟩
  replace W := Lib.hid (W.out.next hb)
  clear hb
  go_wp2_with fail
  refine (s2 _ _ _ r1).mono ?_
  rintro e x ⟨rfl, hb⟩
  replace W := Lib.hid (W.out.next hb)
  clear hb
  clear r1
  go_wp2_with fail
  refine (four_any _).mono ?_
  rintro e x ⟨A1, c1, rfl, r1, hb⟩
  replace W := Lib.hid (W.out.next hb)
  clear hb
  go_wp2_with fail
  refine (s3 _ _ _ r1).mono ?_
  rintro e x ⟨rfl, hb⟩
  replace W := Lib.hid (W.out.next hb)
  clear hb
  clear r1
  go_wp2_with fail
  refine (s4 _).mono ?_
  rintro e x ⟨rfl, hb⟩
  replace W := Lib.hid (W.out.next hb)
  clear hb
  go_wp2_with fail
  refine (is_true _ _).mono ?_
  rintro e x ⟨rfl, rfl⟩
  have m17 := M17.out
  go_wp2_with fail
  clear m17
  have RO := made_reads x 17
  replace W := Lib.hid (W.out.next ((Below.refl _ _).alloc (Nat.le_refl _) (.cells (madeCells #[.int .u8 0] 17) 5)))
  refine (z17 _ _ _ RO).mono ?_
  rintro e x ⟨rfl, rfl⟩
  clear RO
  generalize World.alloc _ _ = x17 at W ⊢
  go_wp2_with fail
  have RO := lit_reads x17 5 [4] #[.int .u8 4] rfl
  replace W := Lib.hid (W.out.next ((Below.refl _ _).alloc (Nat.le_refl _) (.cells #[.int .u8 4] 5)))
  refine (z4 _ _ _ RO).mono ?_
  rintro e x ⟨rfl, rfl⟩
  clear RO
  generalize World.alloc _ _ = x18 at W ⊢
  have m16 := M16.out
  go_wp2_with fail
  clear m16
  have RO := made_reads x18 16
  replace W := Lib.hid (W.out.next ((Below.refl _ _).alloc (Nat.le_refl _) (.cells (madeCells #[.int .u8 0] 16) 5)))
  refine (z16 _ _ _ RO).mono ?_
  rintro e x ⟨rfl, rfl⟩
  clear RO
  go_wp2
  go_ret
  exact ⟨rfl, W.out.bel⟩

theorem floorExamples_walk (w : World) : Calls Try.prog 3 #[] w fun e w' => e = .returned (.bool true) ∧ Below w.heap.size w w' := ex_true w
end Go.Proofs.Ythehkapaipfoaaa.floorExamples
