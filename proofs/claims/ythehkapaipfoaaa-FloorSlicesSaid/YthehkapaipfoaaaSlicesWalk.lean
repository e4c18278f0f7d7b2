/-
  FLOORSLICES: the walk.
-/
import Derived.Test.YthehkapaipfoaaaSlRef2
namespace Go.Proofs.Ythehkapaipfoaaa.floorSlices
set_option linter.unusedVariables false
set_option linter.unusedSimpArgs false
set_option maxRecDepth 100000
open Go.RowKit

set_option maxHeartbeats 3200000 in
theorem slices_ok (A : Option Addr) (n c : Nat) (l : List UInt8) (tick : Nat) (t : Int) (w : World) (hr : Reads w w.heap.size 1 A n (bv l)) (hn : n ≤ 140737488351232) (ht : tick < 18446744073709551616) :
    Calls Try.prog 7 #[.slice A n c, .int .u64 (tick : Int), .int .i64 t] w fun e w' => e = .returned (.bool true) ∧ Below w.heap.size w w' := by
  obtain ⟨i0, hi, hz0, hz1, hz2⟩ := info_parts u8_info'
  have hown0 := own_new0 (B := w.heap.size) w 5 (Nat.le_refl _)
  go_enter Try.func7, Try.ntmps7
  go_wp2_with (at_builtin; refine wpList_append_any _ rfl _ _ 32 rfl w.heap.size 5 i0 (.int .u8 0) 1 1 Try.underlying32 hi hz0 hz1 hz2 rfl (by decide) _ _ _ rfl hown0 w.heap.size _ _ _ _ rfl (hr.alloc (Nat.le_refl _) _) (bv_oneCell _) (by unfold maxLen; omega) (by omega) (by simp) ?_; intro v1 w1 hown1 hg1 _)
  have hb1 : Below w.heap.size w w1 := ((Below.refl _ _).alloc (Nat.le_refl _) _).grown hg1 (by simp) (fun g h => (hown0.lt g h).1)
  rw [show (0 + n = n) from by omega, List.nil_append] at hown1
  obtain ⟨A1, c1, rfl, hc1, hc1m, _⟩ := own_form hown1
  have hr1 := Reads.of_own hown1
  have B := Lib.hid hb1
  have R := Lib.hid (fun W (hb : Below w.heap.size w W) => (hr.below hb).more hb.size)
  have O1 := Lib.hid (fun W (hb : Below w1.heap.size w1 W) => sliceOwner_any A1 n c1 tick l W ((hr1.below hb).more hb.size) hn ht)
  have O2 := Lib.hid (fun W (hb : Below w.heap.size w W) => refOwned_any A n c tick l W (R.out W hb) hn ht)
  have K1 := Lib.hid (fun W (hb : Below w1.heap.size w1 W) => checkSlices_any A1 n c1 l W ((hr1.below hb).more hb.size) hn)
  have K2 := Lib.hid (fun W (hb : Below w.heap.size w W) => refCheckSlices_any A n c l W (R.out W hb) hn)
  have L1 := Lib.hid (fun W (hb : Below w1.heap.size w1 W) => sliceLeft_any A1 n c1 tick l t W ((hr1.below hb).more hb.size) hn ht)
  have L2 := Lib.hid (fun W (hb : Below w.heap.size w W) => refSliceLeft_any A n c tick l t W (R.out W hb) hn ht)
  have D1 := Lib.hid (fun W (hb : Below w1.heap.size w1 W) => sliceWait_any A1 n c1 tick l t W ((hr1.below hb).more hb.size) hn ht)
  have D2 := Lib.hid (fun W (hb : Below w.heap.size w W) => refSliceWait_any A n c tick l t W (R.out W hb) hn ht)
  have Q1 := Lib.hid (fun W (hb : Below w1.heap.size w1 W) => run_str (P := Try.prog) 32 5 9 Try.underlying32 Try.underlying5 Try.underlying9 (c := c1) (hr1.below hb))
  have Q2 := Lib.hid (fun W (hb : Below w.heap.size w W) => run_str (P := Try.prog) 32 5 9 Try.underlying32 Try.underlying5 Try.underlying9 (c := c) (R.out W hb))
  generalize sOwnS l tick = o at O1 O2
  generalize leftS l tick t = r at L1 L2
  generalize waitS l tick t = s at D1 D2
  generalize (if slicesB l = true then (0 : Int) else 60) = q at K1 K2
  obtain ⟨o1, o2⟩ := o
  obtain ⟨r1, r2⟩ := r
  obtain ⟨s1, s2⟩ := s
  have C := Lib.hid (Below.refl w1.heap.size w1)
  clear hr hr1 hown0 hown1 hg1 hb1 hi hz0 hz1 hz2 hc1 hc1m
  refine (O1.out _ C.out).mono ?_
  rintro e x ⟨rfl, rfl⟩
  go_wp2_with fail
  refine (O2.out _ B.out).mono ?_
  rintro e x ⟨rfl, rfl⟩
  go_wp2_with fail
  refine (K1.out _ C.out).mono ?_
  rintro e x ⟨rfl, rfl⟩
  go_wp2_with fail
  refine (K2.out _ B.out).mono ?_
  rintro e x ⟨rfl, rfl⟩
  go_wp2_with fail
  refine (L1.out _ C.out).mono ?_
  rintro e x2 ⟨rfl, hb⟩
  replace B := Lib.hid (B.out.trans (hb.mono B.out.size))
  replace C := Lib.hid hb
  clear hb
  go_wp2_with fail
  refine (L2.out _ B.out).mono ?_
  rintro e x ⟨rfl, rfl⟩
  go_wp2_with fail
  refine (D1.out _ C.out).mono ?_
  rintro e x3 ⟨rfl, hb⟩
  replace B := Lib.hid (B.out.trans (hb.mono B.out.size))
  replace C := Lib.hid (C.out.trans (hb.mono C.out.size))
  clear hb
  go_wp2_with fail
  refine (D2.out _ B.out).mono ?_
  rintro e x ⟨rfl, rfl⟩
  have q1 := Q1.out _ C.out
  have q2 := Q2.out _ B.out
  clear Q1 Q2
  go_wp2
  go_ret
  exact ⟨rfl, B.out⟩

/-- The walk: true, whatever came in. -/
theorem floorSlices_walk (A : Option Addr) (n c : Nat) (l : List UInt8) (tick t : Int) (w : World) (hr : Reads w w.heap.size 1 A n (bv l)) (hnc : n ≤ c) (hc : c ≤ 140737488351232) (ht : (Lit.int .u64 tick).wf = true) (_ : (Lit.int .i64 t).wf = true) :
    Calls Try.prog 7 #[.slice A n c, .int .u64 tick, .int .i64 t] w fun e w' => e = .returned (.bool true) ∧ Below w.heap.size w w' := by
  obtain ⟨k, rfl, hk⟩ := u64_wf' ht
  exact slices_ok A n c l k t w hr (by omega) hk
end Go.Proofs.Ythehkapaipfoaaa.floorSlices
