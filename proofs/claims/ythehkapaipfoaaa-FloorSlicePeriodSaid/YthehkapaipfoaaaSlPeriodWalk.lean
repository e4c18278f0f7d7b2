/-
  FLOORSLICEPERIOD: the walk.
-/
import Derived.Test.YthehkapaipfoaaaSlRef
namespace Go.Proofs.Ythehkapaipfoaaa.floorSlicePeriod
set_option linter.unusedVariables false
set_option linter.unusedSimpArgs false
set_option maxRecDepth 100000
open Go.RowKit

theorem sOwn_mod {l : List UInt8} {t1 t2 : Nat} (h : t1 % l.length = t2 % l.length) : sOwnS l t1 = sOwnS l t2 := by unfold sOwnS; rw [h]
theorem left_mod {l : List UInt8} {t1 t2 : Nat} (t : Int) (h : t1 % l.length = t2 % l.length) : leftS l t1 t = leftS l t2 t := by unfold leftS leftN; rw [h]
theorem wait_mod {l : List UInt8} {t1 t2 : Nat} (t : Int) (h : t1 % l.length = t2 % l.length) : waitS l t1 t = waitS l t2 t := by unfold waitS waitN; rw [h]

set_option maxHeartbeats 1600000 in
theorem period_bad (A : Option Addr) (len c : Nat) (l : List UInt8) (tick : Nat) (t m : Int) (w0 : World) (hr : Reads w0 w0.heap.size 1 A len (bv l)) (hn : len ≤ 140737488351232) (hv : slicesB l = false) :
    Calls Try.prog 16 #[.slice A len c, .int .u64 (tick : Int), .int .i64 t, .int .u8 m] w0 fun e w' => e = .returned (.bool true) ∧ Below w0.heap.size w0 w' := by
  have V := Lib.hid (fun W (hb : Below w0.heap.size w0 W) => validSlices_any A len c l W ((hr.below hb).more hb.size) hn)
  rw [hv] at V
  clear hv hr
  go_enter Try.func16, Try.ntmps16
  go_wp2_with fail
  refine (falive_true _).mono ?_
  rintro e x ⟨rfl, hb⟩
  have B := Lib.hid hb
  clear hb
  go_wp2_with fail
  refine (V.out _ B.out).mono ?_
  rintro e x ⟨rfl, rfl⟩
  go_wp2
  go_ret
  exact ⟨rfl, B.out⟩

set_option maxHeartbeats 1600000 in
theorem period_late (A : Option Addr) (len c : Nat) (l : List UInt8) (tick : Nat) (t m : Int) (w0 : World) (hr : Reads w0 w0.heap.size 1 A len (bv l)) (hn : len ≤ 140737488351232) (hv : slicesB l = true) (ht : 9223372036854775808 < tick) :
    Calls Try.prog 16 #[.slice A len c, .int .u64 (tick : Int), .int .i64 t, .int .u8 m] w0 fun e w' => e = .returned (.bool true) ∧ Below w0.heap.size w0 w' := by
  have V := Lib.hid (fun W (hb : Below w0.heap.size w0 W) => validSlices_any A len c l W ((hr.below hb).more hb.size) hn)
  rw [hv] at V
  have d1 : decide ((9223372036854775808 : Int) < (tick : Int)) = true := decide_eq_true (by omega)
  clear hv hr
  go_enter Try.func16, Try.ntmps16
  go_wp2_with fail
  refine (falive_true _).mono ?_
  rintro e x ⟨rfl, hb⟩
  have B := Lib.hid hb
  clear hb
  go_wp2_with fail
  refine (V.out _ B.out).mono ?_
  rintro e x ⟨rfl, rfl⟩
  go_wp2
  go_ret
  exact ⟨rfl, B.out⟩

set_option maxHeartbeats 3200000 in
theorem period_ok (A : Option Addr) (len c : Nat) (l : List UInt8) (tick : Nat) (t : Int) (m : Nat) (w0 : World) (hr : Reads w0 w0.heap.size 1 A len (bv l)) (hn : len ≤ 140737488351232) (hv : slicesB l = true) (ht : tick ≤ 9223372036854775808) (hm : m ≤ 255) :
    Calls Try.prog 16 #[.slice A len c, .int .u64 (tick : Int), .int .i64 t, .int .u8 (m : Int)] w0 fun e w' => e = .returned (.bool true) ∧ Below w0.heap.size w0 w' := by
  have hlen : l.length = len := by have := hr.1; simpa using this
  obtain ⟨g1, g2⟩ := slicesB_len hv
  rw [hlen] at g1 g2
  obtain ⟨k, hk⟩ : ∃ k : Nat, k = m * len := ⟨_, rfl⟩
  have hk2 : k ≤ 255 * 16 := by subst hk; exact Nat.mul_le_mul hm g2
  have hlm : (tick + k) % l.length = tick % l.length := by rw [hlen, hk, Nat.add_mul_mod_self_right]
  have hcast : ((tick + k : Nat) : Int) = (tick : Int) + (m : Int) * (len : Int) := by rw [hk]; push_cast; rfl
  have V := Lib.hid (fun W (hb : Below w0.heap.size w0 W) => validSlices_any A len c l W ((hr.below hb).more hb.size) hn)
  have O1 := Lib.hid (fun W (hb : Below w0.heap.size w0 W) => sliceOwner_any A len c tick l W ((hr.below hb).more hb.size) hn (by omega))
  have O2 := Lib.hid (fun W (hb : Below w0.heap.size w0 W) => sliceOwner_any A len c (tick + k) l W ((hr.below hb).more hb.size) hn (by omega))
  have L1 := Lib.hid (fun W (hb : Below w0.heap.size w0 W) => sliceLeft_any A len c tick l t W ((hr.below hb).more hb.size) hn (by omega))
  have L2 := Lib.hid (fun W (hb : Below w0.heap.size w0 W) => sliceLeft_any A len c (tick + k) l t W ((hr.below hb).more hb.size) hn (by omega))
  have W1 := Lib.hid (fun W (hb : Below w0.heap.size w0 W) => sliceWait_any A len c tick l t W ((hr.below hb).more hb.size) hn (by omega))
  have W2 := Lib.hid (fun W (hb : Below w0.heap.size w0 W) => sliceWait_any A len c (tick + k) l t W ((hr.below hb).more hb.size) hn (by omega))
  rw [hv] at V
  rw [sOwn_mod hlm, hcast] at O2
  rw [left_mod t hlm, hcast] at L2
  rw [wait_mod t hlm, hcast] at W2
  obtain ⟨o1, ho⟩ : ∃ o1, sOwnS l tick = (o1, 0) := ⟨_, by unfold sOwnS; rw [hv]; rfl⟩
  rw [ho] at O1 O2
  generalize leftS l tick t = R at L1 L2
  generalize waitS l tick t = S at W1 W2
  obtain ⟨r1, r2⟩ := R
  obtain ⟨s1, s2⟩ := S
  have m0 : (0 : Int) ≤ (m : Int) * (len : Int) := by omega
  have m1 : (m : Int) * (len : Int) ≤ 4080 := by omega
  have d1 : decide ((9223372036854775808 : Int) < (tick : Int)) = false := decide_eq_false (by omega)
  have hm0 : (0 : Int) ≤ (m : Int) := by omega
  have hm1 : (m : Int) ≤ 255 := by omega
  clear hv hr hlen hk hlm hcast ho hm
  go_enter Try.func16, Try.ntmps16
  go_wp2_with fail
  refine (falive_true _).mono ?_
  rintro e x ⟨rfl, hb⟩
  have B := Lib.hid hb
  clear hb
  go_wp2_with fail
  refine (V.out _ B.out).mono ?_
  rintro e x ⟨rfl, rfl⟩
  go_wp2_with fail
  refine (O1.out _ B.out).mono ?_
  rintro e x ⟨rfl, rfl⟩
  go_wp2_with fail
  refine (O2.out _ B.out).mono ?_
  rintro e x ⟨rfl, rfl⟩
  go_wp2_with fail
  refine (is_true _ _).mono ?_
  rintro e x ⟨rfl, rfl⟩
  go_wp2_with fail
  refine (L1.out _ B.out).mono ?_
  rintro e x ⟨rfl, hb⟩
  replace B := Lib.hid (B.out.trans (hb.mono B.out.size))
  clear hb
  go_wp2_with fail
  refine (L2.out _ B.out).mono ?_
  rintro e x ⟨rfl, hb⟩
  replace B := Lib.hid (B.out.trans (hb.mono B.out.size))
  clear hb
  go_wp2_with fail
  refine (W1.out _ B.out).mono ?_
  rintro e x ⟨rfl, hb⟩
  replace B := Lib.hid (B.out.trans (hb.mono B.out.size))
  clear hb
  go_wp2_with fail
  refine (W2.out _ B.out).mono ?_
  rintro e x ⟨rfl, hb⟩
  replace B := Lib.hid (B.out.trans (hb.mono B.out.size))
  clear hb
  go_wp2
  go_ret
  exact ⟨rfl, B.out⟩

/-- The walk: true, whatever came in. -/
theorem floorSlicePeriod_walk (A : Option Addr) (n c : Nat) (l : List UInt8) (tick t m : Int) (w : World) (hr : Reads w w.heap.size 1 A n (bv l)) (hnc : n ≤ c) (hc : c ≤ 140737488351232) (ht : (Lit.int .u64 tick).wf = true) (_ : (Lit.int .i64 t).wf = true) (hm : (Lit.int .u8 m).wf = true) :
    Calls Try.prog 16 #[.slice A n c, .int .u64 tick, .int .i64 t, .int .u8 m] w fun e w' => e = .returned (.bool true) ∧ Below w.heap.size w w' := by
  obtain ⟨k, rfl, hk⟩ := u64_wf' ht
  obtain ⟨m0, m1⟩ := u8_wf' hm
  obtain ⟨j, rfl⟩ := Int.eq_ofNat_of_zero_le m0
  cases hv : slicesB l
  · exact period_bad A n c l k t _ w hr (by omega) hv
  · by_cases hk2 : k ≤ 9223372036854775808
    · exact period_ok A n c l k t j w hr (by omega) hv hk2 (by omega)
    · exact period_late A n c l k t _ w hr (by omega) hv (by omega)
end Go.Proofs.Ythehkapaipfoaaa.floorSlicePeriod
