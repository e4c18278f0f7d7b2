/-
  FALIVE: the helper 'alive' of the laws of floor: some of the chapter's examples.
-/
import Derived.Test.YthehkapaipfoaaaSix
namespace Go.Proofs.Ythehkapaipfoaaa
set_option linter.unusedVariables false
set_option linter.unusedSimpArgs false
set_option maxRecDepth 100000
open Go.RowKit

theorem al_cells (W : World) : Calls Try.prog 19 #[.int .i64 5, .int .i64 4] W fun e w' => e = .returned (.tuple #[.int .i64 20, .int .i64 0]) ∧ Below W.heap.size W w' := by
  have := cells_any 5 4 W
  rwa [show cellsS 5 4 = (20, 0) from by decide] at this
theorem al_locate (W : World) : Calls Try.prog 21 #[.int .i64 5, .int .i64 4, .int .i64 13] W fun e w' => e = .returned (.tuple #[.int .i64 3, .int .i64 2, .int .i64 0]) ∧ Below W.heap.size W w' := by
  have := locateP_any 5 4 13 W
  rwa [show locateS 5 4 13 = (3, 2, 0) from by decide] at this
theorem al_place (W : World) : Calls Try.prog 20 #[.int .i64 5, .int .i64 4, .int .i64 4, .int .i64 0] W fun e w' => e = .returned (.tuple #[.int .i64 4, .int .i64 0]) ∧ Below W.heap.size W w' := by
  have := placeP_any 5 4 4 0 W
  rwa [show placeS 5 4 4 0 = (4, 0) from by decide] at this
theorem al_step (W : World) : Calls Try.prog 23 #[.int .i64 5, .int .i64 4, .int .i64 0, .int .i64 2] W fun e w' => e = .returned (.tuple #[.int .i64 5, .int .i64 0]) ∧ Below W.heap.size W w' := by
  have := stepP_any 5 4 0 2 W
  rwa [show stepS 5 4 0 2 = (5, 0) from by decide] at this
theorem al_priv (A : Option Addr) (c : Nat) (W : World) (hr : Hid (Reads W W.heap.size 1 A 6 (bv sixL))) : Calls Try.prog 28 #[.agg #[.int .i64 3, .int .i64 2, .slice A 6 c], .int .i64 0] W fun e w' =>
    ∃ A' c', e = .returned (.tuple #[.slice A' 2 c', .int .i64 0]) ∧ Hid (Reads w' w'.heap.size 1 A' 2 (iv [0, 5])) ∧ Below W.heap.size W w' := by
  have h := private_any 3 2 A 6 c sixL 0 W hr.out (by omega)
  rw [show privS 3 2 sixL 0 = ([0, 5], 0) from by decide] at h
  refine h.mono ?_
  rintro e w' ⟨v, rfl, hown, hb⟩
  obtain ⟨A', c', rfl, _, _, _⟩ := own_form hown
  exact ⟨A', c', rfl, Lib.hid (Reads.of_own hown), hb⟩
theorem al_aisl (A : Option Addr) (c : Nat) (W : World) (hr : Hid (Reads W W.heap.size 1 A 6 (bv sixL))) : Calls Try.prog 49 #[.agg #[.int .i64 3, .int .i64 2, .slice A 6 c]] W fun e w' =>
    ∃ A' c', e = .returned (.tuple #[.slice A' 2 c', .int .i64 0]) ∧ Hid (Reads w' w'.heap.size 1 A' 2 (iv [1, 4])) ∧ Below W.heap.size W w' := by
  have h := aisles_any 3 2 A 6 c sixL W hr.out (by omega)
  rw [show aislS 3 2 sixL = ([1, 4], 0) from by decide] at h
  refine h.mono ?_
  rintro e w' ⟨v, rfl, hown, hb⟩
  obtain ⟨A', c', rfl, _, _, _⟩ := own_form hown
  exact ⟨A', c', rfl, Lib.hid (Reads.of_own hown), hb⟩
theorem al_draw (A : Option Addr) (c : Nat) (W : World) (hr : Hid (Reads W W.heap.size 1 A 6 (bv sixL))) : Calls Try.prog 52 #[.agg #[.int .i64 3, .int .i64 2, .slice A 6 c]] W fun e w' =>
    e = .returned (.tuple #[.string ⟨#[48, 46, 49, 10, 35, 46, 48, 10]⟩, .int .i64 0]) ∧ Below W.heap.size W w' := by
  have h := draw_any 3 2 A 6 c sixL W hr.out (by omega)
  rw [show drawS 3 2 sixL = ([48, 46, 49, 10, 35, 46, 48, 10], 0) from by decide] at h
  exact h
theorem al_parse (W : World) : Calls Try.prog 33 #[.string ⟨#[48, 46, 49, 10, 35, 46, 48, 10]⟩] W fun e w' =>
    ∃ A' c', e = .returned (.tuple #[.agg #[.int .i64 3, .int .i64 2, .slice A' 6 c'], .int .i64 0]) ∧ Hid (Reads w' w'.heap.size 1 A' 6 (bv sixL)) ∧ Below W.heap.size W w' := by
  have h := parse_any ⟨#[48, 46, 49, 10, 35, 46, 48, 10]⟩ W (by decide)
  rw [show parseF (⟨#[48, 46, 49, 10, 35, 46, 48, 10]⟩ : ByteArray).data.toList = (3, 2, sixL, 0) from by decide] at h
  refine h.mono ?_
  rintro e w' ⟨v, rfl, hown, hb⟩
  obtain ⟨A', c', rfl, _, _, _⟩ := own_form hown
  exact ⟨A', c', rfl, Lib.hid (Reads.of_own hown), hb⟩
theorem al_owner (A : Option Addr) (c : Nat) (W : World) (hr : Hid (Reads W W.heap.size 1 A 4 (bv fourL))) : Calls Try.prog 55 #[.slice A 4 c, .int .u64 3] W fun e w' => e = .returned (.tuple #[.int .i64 1, .int .i64 0]) ∧ W = w' := by
  have h := sliceOwner_any A 4 c 3 fourL W hr.out (by omega) (by omega)
  rwa [show sOwnS fourL 3 = (1, 0) from by decide] at h
theorem al_left (A : Option Addr) (c : Nat) (W : World) (hr : Hid (Reads W W.heap.size 1 A 4 (bv fourL))) : Calls Try.prog 34 #[.slice A 4 c, .int .u64 4, .int .i64 0] W fun e w' => e = .returned (.tuple #[.int .i64 2, .int .i64 0]) ∧ Below W.heap.size W w' := by
  have h := sliceLeft_any A 4 c 4 fourL 0 W hr.out (by omega) (by omega)
  rwa [show leftS fourL 4 0 = (2, 0) from by decide] at h
theorem al_wait (A : Option Addr) (c : Nat) (W : World) (hr : Hid (Reads W W.heap.size 1 A 4 (bv fourL))) : Calls Try.prog 35 #[.slice A 4 c, .int .u64 4, .int .i64 1] W fun e w' => e = .returned (.tuple #[.int .i64 3, .int .i64 0]) ∧ Below W.heap.size W w' := by
  have h := sliceWait_any A 4 c 4 fourL 1 W hr.out (by omega) (by omega)
  rwa [show waitS fourL 4 1 = (3, 0) from by decide] at h
theorem al_are (A : Option Addr) (c g : Nat) (x y : Int) (W W' : World) (hr : Hid (Reads W W.heap.size 1 A 2 (iv [x, y]))) (hb : Below W.heap.size W W') (hl : Reads W' W'.heap.size 1 (some ⟨g, 0, none⟩) 2 (iv [x, y])) :
    Calls Try.prog 32 #[.slice A 2 c, .int .i64 0, .slice (some ⟨g, 0, none⟩) 2 2] W' fun e w' => e = .returned (.bool true) ∧ Below W.heap.size W w' := by
  refine (are_yes A _ 2 c 2 [x, y] _ ((hr.out.below hb).more hb.size) hl (by omega)).mono ?_
  rintro e w' ⟨rfl, d, rfl⟩
  exact ⟨rfl, below_drewN hb _⟩
theorem al_six (W W' : World) (hb : Below W.heap.size W W') : Calls Try.prog 27 #[] W' fun e w' => ∃ A c, e = .returned (.agg #[.int .i64 3, .int .i64 2, .slice A 6 c]) ∧ Hid (Reads w' w'.heap.size 1 A 6 (bv sixL)) ∧ Below W.heap.size W w' := by
  refine (six_any W').mono ?_
  rintro e w' ⟨A, c, rfl, hr, hb'⟩
  exact ⟨A, c, rfl, hr, hb.trans (hb'.mono hb.size)⟩
theorem al_same (A A' : Option Addr) (c c' : Nat) (W W' : World) (hr : Hid (Reads W W.heap.size 1 A 6 (bv sixL))) (hb : Below W.heap.size W W') (hr' : Hid (Reads W' W'.heap.size 1 A' 6 (bv sixL))) :
    Calls Try.prog 51 #[.agg #[.int .i64 3, .int .i64 2, .slice A 6 c], .agg #[.int .i64 3, .int .i64 2, .slice A' 6 c']] W' fun e w' => e = .returned (.bool true) ∧ Below W.heap.size W w' := by
  refine (same_yes 3 2 A A' 6 c c' sixL W' ((hr.out.below hb).more hb.size) hr'.out).mono ?_
  rintro e w' ⟨rfl, hb'⟩
  exact ⟨rfl, hb.trans (hb'.mono hb.size)⟩

set_option maxHeartbeats 3200000 in
theorem falive_true (w : World) : Calls Try.prog 22 #[] w fun e w' => e = .returned (.bool true) ∧ Below w.heap.size w w' := by
  go_enter Try.func22, Try.ntmps22
  go_wp2_with fail
  refine (al_cells _).mono ?_
  rintro e w1 ⟨rfl, hb1⟩
  have B1 := Lib.hid hb1; clear hb1
  go_wp2_with fail
  refine (al_locate _).mono ?_
  rintro e w2 ⟨rfl, hb2⟩
  have B2 := Lib.hid (B1.out.trans (hb2.mono B1.out.size)); clear hb2 B1
  go_wp2_with fail
  refine (al_place _).mono ?_
  rintro e w3 ⟨rfl, hb3⟩
  have B3 := Lib.hid (B2.out.trans (hb3.mono B2.out.size)); clear hb3 B2
  go_wp2_with fail
  refine (al_step _).mono ?_
  rintro e w4 ⟨rfl, hb4⟩
  have B4 := Lib.hid (B3.out.trans (hb4.mono B3.out.size)); clear hb4 B3
  go_wp2_with fail
  refine (is_true _ _).mono ?_
  rintro e w5 ⟨rfl, rfl⟩
  go_wp2_with fail
  refine (is_true _ _).mono ?_
  rintro e w5 ⟨rfl, rfl⟩
  go_wp2_with fail
  refine (is_true _ _).mono ?_
  rintro e w5 ⟨rfl, rfl⟩
  go_wp2_with fail
  refine (six_any _).mono ?_
  rintro e w6 ⟨A6, c6, rfl, r6, hb6⟩
  have B6 := Lib.hid (B4.out.trans (hb6.mono B4.out.size)); clear hb6 B4
  go_wp2_with fail
  refine (al_priv _ _ _ r6).mono ?_
  rintro e w7 ⟨A7, c7, rfl, r7, hb7⟩
  have B7 := Lib.hid (B6.out.trans (hb7.mono B6.out.size)); clear hb7 B6 r6
  go_wp2_with fail
  refine (six_any _).mono ?_
  rintro e w8 ⟨A8, c8, rfl, r8, hb8⟩
  have R8 := Lib.hid ((r7.out.below hb8).more hb8.size)
  have B8 := Lib.hid (B7.out.trans (hb8.mono B7.out.size)); clear hb8 B7 r7
  go_wp2_with fail
  refine (al_aisl _ _ _ r8).mono ?_
  rintro e w9 ⟨A9, c9, rfl, r9, hb9⟩
  have R9 := Lib.hid ((R8.out.below hb9).more hb9.size)
  have B9 := Lib.hid (B8.out.trans (hb9.mono B8.out.size)); clear hb9 B8 r8 R8
  go_wp2_with fail
  refine (six_any _).mono ?_
  rintro e w10 ⟨A10, c10, rfl, r10, hb10⟩
  have R10 := Lib.hid ((R9.out.below hb10).more hb10.size)
  have S10 := Lib.hid ((r9.out.below hb10).more hb10.size)
  have B10 := Lib.hid (B9.out.trans (hb10.mono B9.out.size)); clear hb10 B9 r9 R9
  go_wp2_with fail
  refine (al_draw _ _ _ r10).mono ?_
  rintro e w11 ⟨rfl, hb11⟩
  have R11 := Lib.hid ((R10.out.below hb11).more hb11.size)
  have S11 := Lib.hid ((S10.out.below hb11).more hb11.size)
  have B11 := Lib.hid (B10.out.trans (hb11.mono B10.out.size)); clear hb11 B10 r10 R10 S10
  go_wp2_with fail
  refine (al_parse _).mono ?_
  rintro e w12 ⟨A12, c12, rfl, r12, hb12⟩
  have hbx : Below w12.heap.size w12 (w12.alloc (.cells #[.int .i64 3, .int .i64 2, .slice A12 6 c12] 34)) := (Below.refl _ _).alloc (Nat.le_refl _) _
  have R12 := Lib.hid ((((R11.out.below hb12).more hb12.size).below hbx).more hbx.size)
  have S12 := Lib.hid ((((S11.out.below hb12).more hb12.size).below hbx).more hbx.size)
  have T12 := Lib.hid ((r12.out.below hbx).more hbx.size)
  have B12 := Lib.hid ((B11.out.trans (hb12.mono B11.out.size)).trans (hbx.mono (Nat.le_trans B11.out.size hb12.size)))
  have K12 := Lib.hid (Blk.new w12 34 (b3 3 2 (.slice A12 6 c12)))
  clear hb12 B11 r12 R11 S11 hbx
  go_upto_region 11 with fail
  have hW : ∀ W, W = w12.alloc (.cells #[.int .i64 3, .int .i64 2, .slice A12 6 c12] 34) → Hid (Blk W w12.heap.size 34 (b3 3 2 (.slice A12 6 c12))) := fun W e => by subst e; exact K12
  generalize hgW : w12.alloc (.cells #[.int .i64 3, .int .i64 2, .slice A12 6 c12] 34) = W at R12 S12 T12 B12 ⊢
  clear K12
  have KW := hW W hgW.symm
  clear hW hgW
  generalize w12.heap.size = g at KW ⊢
  have c0 := KW.out.cellv 0 (v := .int .i64 3) rfl
  have c1 := KW.out.cellv 1 (v := .int .i64 2) rfl
  have c2 := KW.out.cellv 2 (v := .slice A12 6 c12) rfl
  have hd0 : Below W.heap.size W W.drew := bk_drew (Below.refl _ _)
  have K4 : Hid (∀ w' : World, Below W.heap.size W w' → Below W.heap.size W w' ∧ w'.cell? ⟨g, 0, none⟩ = some (.int .i64 3) ∧ w'.cell? ⟨g, 1, none⟩ = some (.int .i64 2) ∧ w'.cell? ⟨g, 2, none⟩ = some (.slice A12 6 c12)) :=
    Lib.hid (fun w' hb => ⟨hb, (hb.cell (p := ⟨g, 0, none⟩) (by exact KW.out.lt)).trans c0, (hb.cell (p := ⟨g, 1, none⟩) (by exact KW.out.lt)).trans c1, (hb.cell (p := ⟨g, 2, none⟩) (by exact KW.out.lt)).trans c2⟩)
  have AR1 := Lib.hid (fun g W' (hb : Below W.heap.size W W') hl => al_are A7 c7 g 0 5 W W' R12 hb hl)
  have AR2 := Lib.hid (fun g W' (hb : Below W.heap.size W W') hl => al_are A9 c9 g 1 4 W W' S12 hb hl)
  have SX := Lib.hid (fun W' (hb : Below W.heap.size W W') => al_six W W' hb)
  have SM := Lib.hid (fun A c W' (hb : Below W.heap.size W W') hr => al_same A12 A c12 c W W' T12 hb hr)
  go_cut [110] (fun s wx => s = .bool false ∧ Hid (Below W.heap.size W wx))
  case first =>
    go_region_held3 (fun w' => Below W.heap.size W w' ∧ w'.cell? ⟨g, 0, none⟩ = some (.int .i64 3) ∧ w'.cell? ⟨g, 1, none⟩ = some (.int .i64 2) ∧ w'.cell? ⟨g, 2, none⟩ = some (.slice A12 6 c12))
      ((refine K4.out _ ?_; repeat (first | (with_reducible assumption) | (with_reducible exact Below.refl _ _) | (with_reducible refine bk_drew ?_) | (with_reducible refine bk_alloc ?_ _))))
      (first
        | (go_at_call_of 32 (Value.slice A7 2 c7)
           (refine (AR1.out _ _ ?_ ?_).mono ?_
            · (repeat (first | (with_reducible assumption) | (with_reducible exact Below.refl _ _) | (with_reducible refine bk_drew ?_) | (with_reducible refine bk_alloc ?_ _)))
            · exact iv_lit _ _ [0, 5] _ rfl
            rintro e v1 ⟨rfl, hv1⟩))
        | (go_at_call_of 32 (Value.slice A9 2 c9)
           (refine (AR2.out _ _ ?_ ?_).mono ?_
            · (repeat (first | (with_reducible assumption) | (with_reducible exact Below.refl _ _) | (with_reducible refine bk_drew ?_) | (with_reducible refine bk_alloc ?_ _)))
            · exact iv_lit _ _ [1, 4] _ rfl
            rintro e v2 ⟨rfl, hv2⟩))
        | (go_at_call 27
           (refine (SX.out _ ?_).mono ?_
            · (repeat (first | (with_reducible assumption) | (with_reducible exact Below.refl _ _) | (with_reducible refine bk_drew ?_) | (with_reducible refine bk_alloc ?_ _)))
            rintro e v3 ⟨A3, c3, rfl, hr3, hv3⟩))
        | (go_at_call 51
           (refine (SM.out _ _ _ ?_ ?_).mono ?_
            · assumption
            · assumption
            rintro e v4 ⟨rfl, hv4⟩)))
    all_goals (go_wp2_with fail; go_split_ands; go_meet; exact ⟨rfl, Lib.hid (by assumption)⟩)
  case rest =>
    obtain ⟨rfl, hbx⟩ := hcut
    have B13 := Lib.hid (B12.out.trans (hbx.out.mono B12.out.size))
    clear c0 c1 c2 hd0 K4 AR1 AR2 SX SM B12 hbx KW R12 S12 T12
    go_wp2_with fail
    refine (four_any _).mono ?_
    rintro e w14 ⟨A14, c14, rfl, r14, hb14⟩
    have B14 := Lib.hid (B13.out.trans (hb14.mono B13.out.size)); clear hb14 B13
    go_wp2_with fail
    refine (al_owner _ _ _ r14).mono ?_
    rintro e w15 ⟨rfl, rfl⟩
    clear r14
    go_wp2_with fail
    refine (four_any _).mono ?_
    rintro e w16 ⟨A16, c16, rfl, r16, hb16⟩
    have B16 := Lib.hid (B14.out.trans (hb16.mono B14.out.size)); clear hb16 B14
    go_wp2_with fail
    refine (al_left _ _ _ r16).mono ?_
    rintro e w17 ⟨rfl, hb17⟩
    have B17 := Lib.hid (B16.out.trans (hb17.mono B16.out.size)); clear hb17 B16 r16
    go_wp2_with fail
    refine (four_any _).mono ?_
    rintro e w18 ⟨A18, c18, rfl, r18, hb18⟩
    have B18 := Lib.hid (B17.out.trans (hb18.mono B17.out.size)); clear hb18 B17
    go_wp2_with fail
    refine (al_wait _ _ _ r18).mono ?_
    rintro e w19 ⟨rfl, hb19⟩
    have B19 := Lib.hid (B18.out.trans (hb19.mono B18.out.size)); clear hb19 B18 r18
    go_wp2_with fail
    refine (is_true _ _).mono ?_
    rintro e w20 ⟨rfl, rfl⟩
    go_wp2_with fail
    refine (is_true _ _).mono ?_
    rintro e w20 ⟨rfl, rfl⟩
    go_wp2_with fail
    refine (is_true _ _).mono ?_
    rintro e w20 ⟨rfl, rfl⟩
    go_wp2
    go_ret
    exact ⟨rfl, B19.out⟩
end Go.Proofs.Ythehkapaipfoaaa
