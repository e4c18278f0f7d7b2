/-
  FLOORSLICERUNS: the walk.
-/
import Derived.Test.YthehkapaipfoaaaSlRef
import Derived.Test.YthehkapaipfoaaaSlMath
namespace Go.Proofs.Ythehkapaipfoaaa.floorSliceRuns
set_option linter.unusedVariables false
set_option linter.unusedSimpArgs false
set_option maxRecDepth 100000
open Go.RowKit

set_option maxHeartbeats 1600000 in
theorem runs_inv (A : Option Addr) (len c : Nat) (l : List UInt8) (tick : Nat) (t : Int) (w0 : World) (hr : Reads w0 w0.heap.size 1 A len (bv l)) (hn : len ≤ 140737488351232) (hv : slicesB l = false) :
    Calls Try.prog 17 #[.slice A len c, .int .u64 (tick : Int), .int .i64 t] w0 fun e w' => e = .returned (.bool true) ∧ Below w0.heap.size w0 w' := by
  have V := Lib.hid (fun W (hb : Below w0.heap.size w0 W) => validSlices_any A len c l W ((hr.below hb).more hb.size) hn)
  rw [hv] at V
  clear hv hr
  go_enter Try.func17, Try.ntmps17
  go_wp2_with fail
  refine (falive_true _).mono ?_
  rintro e x ⟨rfl, hb⟩
  have B := Lib.hid hb
  clear hb
  go_wp2_with fail
  refine (V.out _ B.out).mono ?_
  rintro e x ⟨rfl, rfl⟩
  go_wp2
  go_ret
  exact ⟨rfl, B.out⟩

set_option maxHeartbeats 1600000 in
theorem runs_neg (A : Option Addr) (len c : Nat) (l : List UInt8) (tick : Nat) (t : Int) (w0 : World) (hr : Reads w0 w0.heap.size 1 A len (bv l)) (hn : len ≤ 140737488351232) (hv : slicesB l = true) (ht : t < 0) :
    Calls Try.prog 17 #[.slice A len c, .int .u64 (tick : Int), .int .i64 t] w0 fun e w' => e = .returned (.bool true) ∧ Below w0.heap.size w0 w' := by
  have V := Lib.hid (fun W (hb : Below w0.heap.size w0 W) => validSlices_any A len c l W ((hr.below hb).more hb.size) hn)
  rw [hv] at V
  have d1 : decide (t < 0) = true := decide_eq_true ht
  clear hv hr
  go_enter Try.func17, Try.ntmps17
  go_wp2_with fail
  refine (falive_true _).mono ?_
  rintro e x ⟨rfl, hb⟩
  have B := Lib.hid hb
  clear hb
  go_wp2_with fail
  refine (V.out _ B.out).mono ?_
  rintro e x ⟨rfl, rfl⟩
  go_wp2
  go_ret
  exact ⟨rfl, B.out⟩

set_option maxHeartbeats 1600000 in
theorem runs_big (A : Option Addr) (len c : Nat) (l : List UInt8) (tick : Nat) (t : Int) (w0 : World) (hr : Reads w0 w0.heap.size 1 A len (bv l)) (hn : len ≤ 140737488351232) (hv : slicesB l = true) (ht : 3 ≤ t) :
    Calls Try.prog 17 #[.slice A len c, .int .u64 (tick : Int), .int .i64 t] w0 fun e w' => e = .returned (.bool true) ∧ Below w0.heap.size w0 w' := by
  have V := Lib.hid (fun W (hb : Below w0.heap.size w0 W) => validSlices_any A len c l W ((hr.below hb).more hb.size) hn)
  rw [hv] at V
  have d1 : decide (t < 0) = false := decide_eq_false (by omega)
  have d2 : decide (3 ≤ t) = true := decide_eq_true ht
  clear hv hr
  go_enter Try.func17, Try.ntmps17
  go_wp2_with fail
  refine (falive_true _).mono ?_
  rintro e x ⟨rfl, hb⟩
  have B := Lib.hid hb
  clear hb
  go_wp2_with fail
  refine (V.out _ B.out).mono ?_
  rintro e x ⟨rfl, rfl⟩
  go_wp2
  go_ret
  exact ⟨rfl, B.out⟩

set_option maxHeartbeats 1600000 in
theorem runs_late (A : Option Addr) (len c : Nat) (l : List UInt8) (tick : Nat) (t : Int) (w0 : World) (hr : Reads w0 w0.heap.size 1 A len (bv l)) (hn : len ≤ 140737488351232) (hv : slicesB l = true) (t0 : 0 ≤ t) (t3 : t < 3) (ht : 9223372036854775808 < tick) :
    Calls Try.prog 17 #[.slice A len c, .int .u64 (tick : Int), .int .i64 t] w0 fun e w' => e = .returned (.bool true) ∧ Below w0.heap.size w0 w' := by
  have V := Lib.hid (fun W (hb : Below w0.heap.size w0 W) => validSlices_any A len c l W ((hr.below hb).more hb.size) hn)
  rw [hv] at V
  have d1 : decide (t < 0) = false := decide_eq_false (by omega)
  have d2 : decide (3 ≤ t) = false := decide_eq_false (by omega)
  have d3 : decide ((9223372036854775808 : Int) < (tick : Int)) = true := decide_eq_true (by omega)
  clear hv hr
  go_enter Try.func17, Try.ntmps17
  go_wp2_with fail
  refine (falive_true _).mono ?_
  rintro e x ⟨rfl, hb⟩
  have B := Lib.hid hb
  clear hb
  go_wp2_with fail
  refine (V.out _ B.out).mono ?_
  rintro e x ⟨rfl, rfl⟩
  go_wp2
  go_ret
  exact ⟨rfl, B.out⟩

set_option maxHeartbeats 3200000 in
theorem runs_ok (A : Option Addr) (len c : Nat) (l : List UInt8) (tick : Nat) (t : Int) (w0 : World) (hr : Reads w0 w0.heap.size 1 A len (bv l)) (hn : len ≤ 140737488351232) (hv : slicesB l = true) (t0 : 0 ≤ t) (t3 : t < 3) (ht : tick ≤ 9223372036854775808) (f m : Int) (hW : waitS l tick t = (m, f)) (hm : 0 ≤ m ∧ m < len)
    (N : Int) (hN : N = (leftN l tick t : Nat)) (zf : Bool) (hf1 : (f != 0) = zf) (hf2 : (f == 0) = !zf) (hz : zf = true → f = 6 ∧ m = 0 ∧ N = 0)
    (hyes : ∀ k : Nat, k < len → ten (atS l tick k) = t → zf = false ∧ m ≤ (k : Int)) (hno : ∀ k : Nat, k < len → ten (atS l tick k) ≠ t → zf = false → (k : Int) ≠ m) :
    Calls Try.prog 17 #[.slice A len c, .int .u64 (tick : Int), .int .i64 t] w0 fun e w' => e = .returned (.bool true) ∧ Below w0.heap.size w0 w' := by
  have hlen : l.length = len := by have := hr.1; simpa using this
  obtain ⟨g1, g2⟩ := slicesB_len hv
  rw [hlen] at g1 g2
  have V := Lib.hid (fun W (hb : Below w0.heap.size w0 W) => validSlices_any A len c l W ((hr.below hb).more hb.size) hn)
  have O := Lib.hid (fun (k : Nat) (hk : k < len) W (hb : Below w0.heap.size w0 W) => sliceOwner_any A len c (tick + k) l W ((hr.below hb).more hb.size) hn (by omega))
  have L1 := Lib.hid (fun W (hb : Below w0.heap.size w0 W) => sliceLeft_any A len c tick l t W ((hr.below hb).more hb.size) hn (by omega))
  have W1 := Lib.hid (fun W (hb : Below w0.heap.size w0 W) => sliceWait_any A len c tick l t W ((hr.below hb).more hb.size) hn (by omega))
  have hNl : N ≤ (len : Int) := by rw [hN, ← hlen]; exact Int.ofNat_le.2 left_le
  have hN0 : 0 ≤ N := by rw [hN]; omega
  have HLT : Hid (∀ k : Nat, (k : Int) < N → ten (atS l tick k) = t) := Lib.hid (fun k hk => left_lt (by omega))
  have HAT : Hid (∀ k : Nat, k < len → (k : Int) = N → ten (atS l tick k) ≠ t) := Lib.hid (fun k hk he => by
    obtain rfl : k = leftN l tick t := by omega
    exact left_at (by omega))
  have HOW : Hid (∀ k : Nat, sOwnS l (tick + k) = (ten (atS l tick k), 0)) := Lib.hid (fun k => own_at hv)
  have HYES := Lib.hid hyes; have HNO := Lib.hid hno; have HZ := Lib.hid hz
  rw [hv] at V
  rw [left_ok hv ⟨t0, t3⟩, ← hN] at L1
  rw [hW] at W1
  have d1 : decide (t < 0) = false := decide_eq_false (by omega)
  have d2 : decide (3 ≤ t) = false := decide_eq_false (by omega)
  have d3 : decide ((9223372036854775808 : Int) < (tick : Int)) = false := decide_eq_false (by omega)
  have d4 : decide (N < 0) = false := decide_eq_false (by omega)
  have d5 : decide ((len : Int) < N) = false := decide_eq_false (by omega)
  have d6 : decide (m < 0) = false := decide_eq_false (by omega)
  have d7 : decide ((len : Int) ≤ m) = false := decide_eq_false (by omega)
  obtain ⟨m0, m1⟩ := hm
  clear hv hr hlen hN hW hyes hno hz
  cases zf
  · have d8 : (0 : Int) = 0 := rfl
    clear HZ
    go_enter Try.func17, Try.ntmps17
    go_wp2_with fail
    refine (falive_true _).mono ?_
    rintro e x ⟨rfl, hb⟩
    have B := Lib.hid hb
    clear hb
    go_wp2_with fail
    refine (V.out _ B.out).mono ?_
    rintro e x ⟨rfl, rfl⟩
    go_wp2_with fail
    refine (L1.out _ B.out).mono ?_
    rintro e x ⟨rfl, hb⟩
    replace B := Lib.hid (B.out.trans (hb.mono B.out.size))
    clear hb
    go_wp2_with fail
    refine (W1.out _ B.out).mono ?_
    rintro e x ⟨rfl, hb⟩
    replace B := Lib.hid (B.out.trans (hb.mono B.out.size))
    clear hb
    go_wp2
    clear L1 W1 V d3 d4 d5 d6 d7 d1 d2
    go_loop [12] (fun i => ∃ k : Nat, k ≤ len ∧ i = .int .i64 (k : Int)) (fun i => len - (intOf i).toNat)
    case atStart => exact ⟨0, Nat.zero_le _, rfl⟩
    case round =>
      obtain ⟨k, hk, rfl⟩ := hrel
      by_cases hlt : k < len
      · have O1 := Lib.hid (O.out k hlt)
        rw [HOW.out k, show ((tick + k : Nat) : Int) = (tick : Int) + (k : Int) from by push_cast; rfl] at O1
        have hy := HYES.out k hlt; have hn' := HNO.out k hlt; have h1 := HLT.out k; have h2 := HAT.out k hlt
        generalize ten (atS l tick k) = a at O1 hy hn' h1 h2
        by_cases ha : a = t
        · have hk2 := (hy ha).2
          have hk3 : (k : Int) ≠ N := fun e => h2 e ha
          subst ha
          clear hy hn' h1 h2
          have c3 : decide ((k : Int) < m) = false := decide_eq_false (by omega)
          by_cases hkN : (k : Int) < N
          · have c1 : decide ((k : Int) ≤ N) = true := decide_eq_true (by omega)
            have c2 : decide ((k : Int) < N) = true := decide_eq_true (by omega)
            go_wp2_with fail
            refine (O1.out _ B.out).mono ?_
            rintro e x ⟨rfl, rfl⟩
            go_wp2
            go_round
            case rel => exact ⟨k + 1, by omega, by go_num⟩
            case measure => simp [intOf]; omega
          · have c1 : decide ((k : Int) ≤ N) = false := decide_eq_false (by omega)
            go_wp2_with fail
            refine (O1.out _ B.out).mono ?_
            rintro e x ⟨rfl, rfl⟩
            go_wp2
            go_round
            case rel => exact ⟨k + 1, by omega, by go_num⟩
            case measure => simp [intOf]; omega
        · have hk2 : (k : Int) ≠ m := hn' ha (by simp)
          have hk3 : N ≤ (k : Int) := by
            rcases Int.lt_or_le (k : Int) N with h | h
            · exact absurd (h1 h) ha
            · exact h
          clear hy hn' h1 h2
          have c3 : ((k : Int) == m) = false := by simpa using hk2
          have c4 : (a == t) = false := by simpa using ha
          have c5 : (a != t) = true := by simpa using ha
          have c2 : decide ((k : Int) < N) = false := decide_eq_false (by omega)
          clear ha hk2
          by_cases hkN : (k : Int) ≤ N
          · have c1 : decide ((k : Int) ≤ N) = true := decide_eq_true (by omega)
            go_wp2_with fail
            refine (O1.out _ B.out).mono ?_
            rintro e x ⟨rfl, rfl⟩
            go_wp2
            go_round
            case rel => exact ⟨k + 1, by omega, by go_num⟩
            case measure => simp [intOf]; omega
          · have c1 : decide ((k : Int) ≤ N) = false := decide_eq_false (by omega)
            go_wp2_with fail
            refine (O1.out _ B.out).mono ?_
            rintro e x ⟨rfl, rfl⟩
            go_wp2
            go_round
            case rel => exact ⟨k + 1, by omega, by go_num⟩
            case measure => simp [intOf]; omega
      · obtain rfl : k = len := by omega
        go_wp2
        go_ret
        exact ⟨rfl, B.out⟩
  · obtain ⟨z1, z2, z3⟩ := HZ.out rfl
    have y1 : (f != 6) = false := by subst z1; rfl
    have y2 : (m != 0) = false := by subst z2; rfl
    have y3 : (N != 0) = false := by rw [z3]; rfl
    have HZ3 := Lib.hid z3
    clear z1 z2 z3
    replace hf2 : (f == 0) = false := hf2
    clear HZ
    go_enter Try.func17, Try.ntmps17
    go_wp2_with fail
    refine (falive_true _).mono ?_
    rintro e x ⟨rfl, hb⟩
    have B := Lib.hid hb
    clear hb
    go_wp2_with fail
    refine (V.out _ B.out).mono ?_
    rintro e x ⟨rfl, rfl⟩
    go_wp2_with fail
    refine (L1.out _ B.out).mono ?_
    rintro e x ⟨rfl, hb⟩
    replace B := Lib.hid (B.out.trans (hb.mono B.out.size))
    clear hb
    go_wp2_with fail
    refine (W1.out _ B.out).mono ?_
    rintro e x ⟨rfl, hb⟩
    replace B := Lib.hid (B.out.trans (hb.mono B.out.size))
    clear hb
    go_wp2
    clear L1 W1 V d3 d4 d5 d6 d7 d1 d2
    go_loop [12] (fun i => ∃ k : Nat, k ≤ len ∧ i = .int .i64 (k : Int)) (fun i => len - (intOf i).toNat)
    case atStart => exact ⟨0, Nat.zero_le _, rfl⟩
    case round =>
      obtain ⟨k, hk, rfl⟩ := hrel
      by_cases hlt : k < len
      · have O1 := Lib.hid (O.out k hlt)
        rw [HOW.out k, show ((tick + k : Nat) : Int) = (tick : Int) + (k : Int) from by push_cast; rfl] at O1
        have hy := HYES.out k hlt; have hn' := HNO.out k hlt; have h1 := HLT.out k; have h2 := HAT.out k hlt
        generalize ten (atS l tick k) = a at O1 hy hn' h1 h2
        by_cases ha : a = t
        · exact absurd (hy ha).1 (by simp)
        · clear hy hn' h1 h2
          have c4 : (a == t) = false := by simpa using ha
          have c5 : (a != t) = true := by simpa using ha
          have c2 : decide ((k : Int) < N) = false := decide_eq_false (by have := HZ3.out; omega)
          clear ha
          by_cases hkN : (k : Int) ≤ N
          · have c1 : decide ((k : Int) ≤ N) = true := decide_eq_true (by omega)
            go_wp2_with fail
            refine (O1.out _ B.out).mono ?_
            rintro e x ⟨rfl, rfl⟩
            go_wp2
            go_round
            case rel => exact ⟨k + 1, by omega, by go_num⟩
            case measure => simp [intOf]; omega
          · have c1 : decide ((k : Int) ≤ N) = false := decide_eq_false (by omega)
            go_wp2_with fail
            refine (O1.out _ B.out).mono ?_
            rintro e x ⟨rfl, rfl⟩
            go_wp2
            go_round
            case rel => exact ⟨k + 1, by omega, by go_num⟩
            case measure => simp [intOf]; omega
      · obtain rfl : k = len := by omega
        go_wp2
        go_ret
        exact ⟨rfl, B.out⟩

/-- The walk: true, whatever came in. -/
theorem floorSliceRuns_walk (A : Option Addr) (n c : Nat) (l : List UInt8) (tick t : Int) (w : World) (hr : Reads w w.heap.size 1 A n (bv l)) (hnc : n ≤ c) (hc : c ≤ 140737488351232) (ht : (Lit.int .u64 tick).wf = true) (_ : (Lit.int .i64 t).wf = true) :
    Calls Try.prog 17 #[.slice A n c, .int .u64 tick, .int .i64 t] w fun e w' => e = .returned (.bool true) ∧ Below w.heap.size w w' := by
  obtain ⟨k, rfl, hk⟩ := u64_wf' ht
  have hlen : l.length = n := by have := hr.1; simpa using this
  cases hv : slicesB l
  · exact runs_inv A n c l k t w hr (by omega) hv
  · rcases Int.lt_or_le t 0 with h0 | h0
    · exact runs_neg A n c l k t w hr (by omega) hv h0
    rcases Int.lt_or_le t 3 with h3 | h3
    · by_cases hk2 : k ≤ 9223372036854775808
      · obtain ⟨g1, g2⟩ := slicesB_len hv
        by_cases hM : waitN l k t = l.length
        · have hno : ∀ j : Nat, j < n → ten (atS l k j) ≠ t := fun j hj => wait_lt (by omega)
          have hN : leftN l k t = 0 := by
            rcases Nat.eq_zero_or_pos (leftN l k t) with h | h
            · exact h
            · exact absurd (left_lt h) (hno 0 (by omega))
          exact runs_ok A n c l k t w hr (by omega) hv h0 h3 hk2 6 0 (wait_none hv ⟨h0, h3⟩ hM) ⟨by omega, by omega⟩ _ rfl true rfl rfl (fun _ => ⟨rfl, rfl, by rw [hN]; rfl⟩)
            (fun j hj he => absurd he (hno j hj)) (fun _ _ _ h => by cases h)
        · have hM2 : waitN l k t < l.length := Nat.lt_of_le_of_ne wait_le hM
          refine runs_ok A n c l k t w hr (by omega) hv h0 h3 hk2 0 _ (wait_some hv ⟨h0, h3⟩ hM) ⟨by omega, by omega⟩ _ rfl false rfl rfl (fun h => by cases h)
            (fun j hj he => ⟨rfl, ?_⟩) (fun j hj hne _ he => ?_)
          · rcases Nat.lt_or_ge j (waitN l k t) with h | h
            · exact absurd he (wait_lt h)
            · omega
          · obtain rfl : j = waitN l k t := by omega
            exact hne (wait_at hM2)
      · exact runs_late A n c l k t w hr (by omega) hv h0 h3 (by omega)
    · exact runs_big A n c l k t w hr (by omega) hv h3
end Go.Proofs.Ythehkapaipfoaaa.floorSliceRuns
