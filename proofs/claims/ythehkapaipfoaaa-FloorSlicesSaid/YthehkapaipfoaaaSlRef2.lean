/-
  SLREF2: the reference's functions on slice tables: entry, Owned, asked, SliceLeft, SliceWait, CheckSlices.
-/
import Derived.Test.YthehkapaipfoaaaSlRef
import Derived.Test.YthehkapaipfoaaaSlMath
namespace Go.Proofs.Ythehkapaipfoaaa
set_option linter.unusedVariables false
set_option linter.unusedSimpArgs false
set_option maxRecDepth 100000
open Go.RowKit

theorem refEntry_any (A : Option Addr) (n c tick k : Nat) (w : World) (hn : 1 ≤ n) (hn2 : n ≤ 16) (ht : tick < 18446744073709551616) (hk : k ≤ 16) :
    Calls Try.prog 90 #[.slice A n c, .int .u64 (tick : Int), .int .i64 (k : Int)] w fun e w' => e = .returned (.int .i64 (((tick + k) % n : Nat) : Int)) ∧ w = w' := by
  have hz : ((n : Int) == 0) = false := by simp; omega
  have h1 : (0 : Int) ≤ (tick : Int) % (n : Int) := by omega
  have h2 : (tick : Int) % (n : Int) < 16 := by have := Int.emod_lt_of_pos (tick : Int) (show (0 : Int) < (n : Int) by omega); omega
  have hm : ((tick : Int) % (n : Int) + (k : Int)) % (n : Int) = (((tick + k) % n : Nat) : Int) := by
    rw [Int.natCast_emod, Int.natCast_add, Int.emod_add_emod]
  have HM := Lib.hid hm
  have k0 : (0 : Int) ≤ (k : Int) := by omega
  have k1 : (k : Int) ≤ 16 := by omega
  clear hm
  go_enter Try.func90, Try.ntmps90
  go_wp2
  go_ret
  exact ⟨ret_int HM.out, rfl⟩

theorem refSliceOwner_any (A : Option Addr) (n c tick : Nat) (l : List UInt8) (w : World) (hr : Reads w w.heap.size 1 A n (bv l)) (hn : 1 ≤ n) (hn2 : n ≤ 16) (ht : tick < 18446744073709551616) :
    Calls Try.prog 88 #[.slice A n c, .int .u64 (tick : Int)] w fun e w' => e = .returned (.int .i64 (ten (l.getD (tick % l.length) 0))) ∧ w = w' := by
  have hlen : l.length = n := by have := hr.1; simpa using this
  have I := Lib.hid (fun W => refEntry_any A n c tick 0 W hn hn2 ht (by omega))
  have hj : tick % n < n := Nat.mod_lt _ (by omega)
  rw [Nat.add_zero] at I
  obtain ⟨ad, x, rfl, had, hx, hcx⟩ := cells_at hr hj
  rw [show l.getD (tick % l.length) 0 = x from by rw [hlen]; simp [hx]]
  have hxl := x.toNat_lt
  unfold ten
  generalize x.toNat = m at *
  generalize tick % n = j at *
  clear hr hlen hx had
  go_enter Try.func88, Try.ntmps88
  go_wp2_with fail
  refine (I.out _).mono ?_
  rintro e w2 ⟨rfl, rfl⟩
  go_wp2
  go_ret
  exact ⟨rfl, rfl⟩

theorem refOwned_any (A : Option Addr) (n c tick : Nat) (l : List UInt8) (w : World) (hr : Reads w w.heap.size 1 A n (bv l)) (hn : n ≤ 140737488351232) (ht : tick < 18446744073709551616) :
    Calls Try.prog 56 #[.slice A n c, .int .u64 (tick : Int)] w fun e w' => e = .returned (.tuple #[.int .i64 (sOwnS l tick).1, .int .i64 (sOwnS l tick).2]) ∧ w = w' := by
  have V := Lib.hid (validSlices_any A n c l w hr hn)
  cases h : slicesB l
  · rw [show sOwnS l tick = (0, 60) from by unfold sOwnS; rw [h]; rfl]
    rw [h] at V
    clear h hr
    go_enter Try.func56, Try.ntmps56
    go_wp2_with fail
    refine (V.out).mono ?_
    rintro e x ⟨rfl, rfl⟩
    go_wp2
    go_ret2
    exact ⟨rfl, rfl⟩
  · have hlen : l.length = n := by have := hr.1; simpa using this
    obtain ⟨g1, g2⟩ := slicesB_len h
    have S := Lib.hid (refSliceOwner_any A n c tick l w hr (by omega) (by omega) ht)
    rw [show sOwnS l tick = (ten (l.getD (tick % l.length) 0), 0) from by unfold sOwnS; rw [h]; rfl]
    rw [h] at V
    generalize ten (l.getD (tick % l.length) 0) = z at *
    clear h hr
    go_enter Try.func56, Try.ntmps56
    go_wp2_with fail
    refine (V.out).mono ?_
    rintro e x ⟨rfl, rfl⟩
    go_wp2_with fail
    refine (S.out).mono ?_
    rintro e x ⟨rfl, rfl⟩
    go_wp2
    go_ret2
    exact ⟨rfl, rfl⟩

theorem refCheckSlices_any (A : Option Addr) (n c : Nat) (l : List UInt8) (w : World) (hr : Reads w w.heap.size 1 A n (bv l)) (hn : n ≤ 140737488351232) :
    Calls Try.prog 57 #[.slice A n c] w fun e w' => e = .returned (.int .i64 (if slicesB l then 0 else 60)) ∧ w = w' := by
  have V := Lib.hid (validSlices_any A n c l w hr hn)
  cases h : slicesB l
  all_goals
    rw [h] at V
    clear h hr
    go_enter Try.func57, Try.ntmps57
    go_wp2_with fail
    refine (V.out).mono ?_
    rintro e x ⟨rfl, rfl⟩
    go_wp2
    go_ret
    exact ⟨rfl, rfl⟩

theorem refAsked_any (A : Option Addr) (n c : Nat) (l : List UInt8) (t : Int) (w : World) (hr : Reads w w.heap.size 1 A n (bv l)) (hn : n ≤ 140737488351232) :
    Calls Try.prog 89 #[.slice A n c, .int .i64 t] w fun e w' => e = .returned (.int .i64 (askedS l t)) ∧ w = w' := by
  have V := Lib.hid (validSlices_any A n c l w hr hn)
  cases h : slicesB l
  · rw [show askedS l t = 60 from by unfold askedS; rw [h]; rfl]
    rw [h] at V
    clear h hr
    go_enter Try.func89, Try.ntmps89
    go_wp2_with fail
    refine (V.out).mono ?_
    rintro e x ⟨rfl, rfl⟩
    go_wp2
    go_ret
    exact ⟨rfl, rfl⟩
  · rw [h] at V
    rcases Int.lt_or_le t 0 with h0 | h0
    · rw [show askedS l t = 2 from by unfold askedS; rw [h, if_pos rfl, if_neg (by omega)]]
      have d : decide (t < 0) = true := decide_eq_true h0
      clear h hr
      go_enter Try.func89, Try.ntmps89
      go_wp2_with fail
      refine (V.out).mono ?_
      rintro e x ⟨rfl, rfl⟩
      go_wp2
      go_ret
      exact ⟨rfl, rfl⟩
    · have d : decide (t < 0) = false := decide_eq_false (by omega)
      rcases Int.lt_or_le t 3 with h3 | h3
      · rw [show askedS l t = 0 from by unfold askedS; rw [h, if_pos rfl, if_pos ⟨h0, h3⟩]]
        have d2 : decide (3 ≤ t) = false := decide_eq_false (by omega)
        clear h hr
        go_enter Try.func89, Try.ntmps89
        go_wp2_with fail
        refine (V.out).mono ?_
        rintro e x ⟨rfl, rfl⟩
        go_wp2
        go_ret
        exact ⟨rfl, rfl⟩
      · rw [show askedS l t = 2 from by unfold askedS; rw [h, if_pos rfl, if_neg (by omega)]]
        have d2 : decide (3 ≤ t) = true := decide_eq_true (by omega)
        clear h hr
        go_enter Try.func89, Try.ntmps89
        go_wp2_with fail
        refine (V.out).mono ?_
        rintro e x ⟨rfl, rfl⟩
        go_wp2
        go_ret
        exact ⟨rfl, rfl⟩

theorem cell_then {l : List UInt8} {A : Option Addr} {n tick k : Nat} {w : World} (hr : Reads w w.heap.size 1 A n (bv l)) (hn : 1 ≤ n) :
    ∃ ad, A = some ad ∧ w.cell? (ad.add ((tick + k) % n)) = some (.int .u8 ((atS l tick k).toNat : Int)) := by
  have hlen : l.length = n := by have := hr.1; simpa using this
  obtain ⟨ad, x, rfl, had, hx, hcx⟩ := cells_at hr (show (tick + k) % n < n from Nat.mod_lt _ (by omega))
  refine ⟨ad, rfl, ?_⟩
  rw [show atS l tick k = x from by unfold atS; rw [hlen]; simp [hx]]
  exact hcx

set_option maxHeartbeats 1600000 in
theorem refSliceLeft_any (A : Option Addr) (n c tick : Nat) (l : List UInt8) (t : Int) (w : World) (hr : Reads w w.heap.size 1 A n (bv l)) (hn : n ≤ 140737488351232) (ht : tick < 18446744073709551616) :
    Calls Try.prog 58 #[.slice A n c, .int .u64 (tick : Int), .int .i64 t] w fun e w' => e = .returned (.tuple #[.int .i64 (leftS l tick t).1, .int .i64 (leftS l tick t).2]) ∧ w = w' := by
  have K := Lib.hid (refAsked_any A n c l t w hr hn)
  by_cases ha : askedS l t = 0
  · obtain ⟨hv, t0, t3⟩ := asked_ok ha
    have hlen : l.length = n := by have := hr.1; simpa using this
    obtain ⟨g1, g2⟩ := slicesB_len hv
    rw [hlen] at g1 g2
    rw [ha] at K
    have I := Lib.hid (fun (k : Nat) (hk : k ≤ 16) W => refEntry_any A n c tick k W g1 g2 ht hk)
    rw [left_ok hv ⟨t0, t3⟩]
    have hLE : leftN l tick t ≤ n := by rw [← hlen]; exact left_le
    have HLT : Hid (∀ k : Nat, k < leftN l tick t → ten (atS l tick k) = t) := Lib.hid (fun k hk => left_lt hk)
    have HAT : Hid (leftN l tick t < n → ten (atS l tick (leftN l tick t)) ≠ t) := Lib.hid (fun h => left_at (by omega))
    generalize leftN l tick t = N at *
    obtain ⟨ad0, rfl, _⟩ := cell_then (tick := tick) (k := 0) hr g1
    have HR := Lib.hid hr
    clear hr ha hv hlen
    go_enter Try.func58, Try.ntmps58
    go_wp2_with fail
    refine (K.out).mono ?_
    rintro e x ⟨rfl, rfl⟩
    go_wp2
    go_loop [9] (fun i => ∃ k : Nat, k ≤ N ∧ i = .int .i64 (k : Int)) (fun i => n - (intOf i).toNat)
    case atStart => exact ⟨0, Nat.zero_le _, rfl⟩
    case round =>
      obtain ⟨k, hk, rfl⟩ := hrel
      have k0 : (0 : Int) ≤ (k : Int) := by omega
      have k1 : (k : Int) ≤ 16 := by omega
      by_cases hlt : k < n
      · obtain ⟨ad, hA, hcx⟩ := cell_then (tick := tick) (k := k) HR.out g1
        injection hA with hA
        subst hA
        have I1 := Lib.hid (fun W => I.out k (by omega) W)
        have hj0 : (tick + k) % n < n := Nat.mod_lt _ (by omega)
        generalize (tick + k) % n = j at I1 hcx hj0
        have h1 := HLT.out k
        have h2 := HAT.out
        have j0 : (0 : Int) ≤ (j : Int) := by omega
        have j1 : (j : Int) < (n : Int) := by omega
        have d1 : decide ((k : Int) < (n : Int)) = true := decide_eq_true (by omega)
        by_cases hkN : k < N
        · skip
          have hm := h1 hkN
          unfold ten at hm
          obtain ⟨m, hmm⟩ : ∃ m : Int, m = ((atS l tick k).toNat : Int) := ⟨_, rfl⟩
          rw [← hmm] at hcx hm
          have m0 : 0 ≤ m := by omega
          have m1 : m ≤ 255 := by have := (atS l tick k).toNat_lt; omega
          have e1 : (m == t + 1) = true := by rw [beq_iff_eq]; omega
          clear hmm hm h1 h2
          go_wp2_with fail
          refine (I1.out _).mono ?_
          rintro e w2 ⟨rfl, rfl⟩
          go_wp2
          go_round
          case rel => exact ⟨k + 1, by omega, by go_num⟩
          case measure => simp [intOf]; omega
        · obtain rfl : k = N := by omega
          have hm := h2 hlt
          unfold ten at hm
          obtain ⟨m, hmm⟩ : ∃ m : Int, m = ((atS l tick k).toNat : Int) := ⟨_, rfl⟩
          rw [← hmm] at hcx hm
          have m0 : 0 ≤ m := by omega
          have m1 : m ≤ 255 := by have := (atS l tick k).toNat_lt; omega
          have e1 : (m == t + 1) = false := by rw [beq_eq_false_iff_ne]; omega
          clear hmm hm h1 h2
          go_wp2_with fail
          refine (I1.out _).mono ?_
          rintro e w2 ⟨rfl, rfl⟩
          go_wp2
          go_ret2
          exact ⟨rfl, rfl⟩
      · obtain rfl : k = n := by omega
        obtain rfl : k = N := by omega
        go_wp2
        go_ret2
        exact ⟨rfl, rfl⟩
  · rw [show leftS l tick t = (0, askedS l t) from by unfold leftS; rw [if_neg ha]]
    have hb := asked_bad ha
    generalize askedS l t = q at *
    clear hr ha
    go_enter Try.func58, Try.ntmps58
    go_wp2_with fail
    refine (K.out).mono ?_
    rintro e x ⟨rfl, rfl⟩
    go_wp2
    go_ret2
    exact ⟨rfl, rfl⟩

set_option maxHeartbeats 1600000 in
theorem refSliceWait_any (A : Option Addr) (n c tick : Nat) (l : List UInt8) (t : Int) (w : World) (hr : Reads w w.heap.size 1 A n (bv l)) (hn : n ≤ 140737488351232) (ht : tick < 18446744073709551616) :
    Calls Try.prog 59 #[.slice A n c, .int .u64 (tick : Int), .int .i64 t] w fun e w' => e = .returned (.tuple #[.int .i64 (waitS l tick t).1, .int .i64 (waitS l tick t).2]) ∧ w = w' := by
  have K := Lib.hid (refAsked_any A n c l t w hr hn)
  by_cases ha : askedS l t = 0
  · obtain ⟨hv, t0, t3⟩ := asked_ok ha
    have hlen : l.length = n := by have := hr.1; simpa using this
    obtain ⟨g1, g2⟩ := slicesB_len hv
    rw [hlen] at g1 g2
    rw [ha] at K
    have I := Lib.hid (fun (k : Nat) (hk : k ≤ 16) W => refEntry_any A n c tick k W g1 g2 ht hk)
    have hLE : waitN l tick t ≤ n := by rw [← hlen]; exact wait_le
    have HLT : Hid (∀ k : Nat, k < waitN l tick t → ten (atS l tick k) ≠ t) := Lib.hid (fun k hk => wait_lt hk)
    have HAT : Hid (waitN l tick t < n → ten (atS l tick (waitN l tick t)) = t) := Lib.hid (fun h => wait_at (by omega))
    have HRES : Hid (waitS l tick t = if waitN l tick t = n then (0, 6) else (((waitN l tick t : Nat) : Int), 0)) := Lib.hid (by unfold waitS; rw [if_pos ha, hlen])
    generalize waitN l tick t = N at *
    generalize waitS l tick t = R at *
    obtain ⟨ad0, rfl, _⟩ := cell_then (tick := tick) (k := 0) hr g1
    have HR := Lib.hid hr
    clear hr ha hv hlen
    go_enter Try.func59, Try.ntmps59
    go_wp2_with fail
    refine (K.out).mono ?_
    rintro e x ⟨rfl, rfl⟩
    go_wp2
    go_loop [9] (fun i => ∃ k : Nat, k ≤ N ∧ i = .int .i64 (k : Int)) (fun i => n - (intOf i).toNat)
    case atStart => exact ⟨0, Nat.zero_le _, rfl⟩
    case round =>
      obtain ⟨k, hk, rfl⟩ := hrel
      have k0 : (0 : Int) ≤ (k : Int) := by omega
      have k1 : (k : Int) ≤ 16 := by omega
      by_cases hlt : k < n
      · obtain ⟨ad, hA, hcx⟩ := cell_then (tick := tick) (k := k) HR.out g1
        injection hA with hA
        subst hA
        have I1 := Lib.hid (fun W => I.out k (by omega) W)
        have hj0 : (tick + k) % n < n := Nat.mod_lt _ (by omega)
        generalize (tick + k) % n = j at I1 hcx hj0
        have h1 := HLT.out k
        have h2 := HAT.out
        have j0 : (0 : Int) ≤ (j : Int) := by omega
        have j1 : (j : Int) < (n : Int) := by omega
        have d1 : decide ((k : Int) < (n : Int)) = true := decide_eq_true (by omega)
        by_cases hkN : k < N
        · skip
          have hm := h1 hkN
          unfold ten at hm
          obtain ⟨m, hmm⟩ : ∃ m : Int, m = ((atS l tick k).toNat : Int) := ⟨_, rfl⟩
          rw [← hmm] at hcx hm
          have m0 : 0 ≤ m := by omega
          have m1 : m ≤ 255 := by have := (atS l tick k).toNat_lt; omega
          have e1 : (m == t + 1) = false := by rw [beq_eq_false_iff_ne]; omega
          clear hmm hm h1 h2
          go_wp2_with fail
          refine (I1.out _).mono ?_
          rintro e w2 ⟨rfl, rfl⟩
          go_wp2
          go_round
          case rel => exact ⟨k + 1, by omega, by go_num⟩
          case measure => simp [intOf]; omega
        · obtain rfl : k = N := by omega
          have hm := h2 hlt
          unfold ten at hm
          obtain ⟨m, hmm⟩ : ∃ m : Int, m = ((atS l tick k).toNat : Int) := ⟨_, rfl⟩
          rw [← hmm] at hcx hm
          have m0 : 0 ≤ m := by omega
          have m1 : m ≤ 255 := by have := (atS l tick k).toNat_lt; omega
          have e1 : (m == t + 1) = true := by rw [beq_iff_eq]; omega
          clear hmm hm h1 h2
          have hres := HRES.out
          rw [if_neg (by omega)] at hres
          subst hres
          go_wp2_with fail
          refine (I1.out _).mono ?_
          rintro e w2 ⟨rfl, rfl⟩
          go_wp2
          go_ret2
          exact ⟨rfl, rfl⟩
      · obtain rfl : k = n := by omega
        obtain rfl : k = N := by omega
        have hres := HRES.out
        rw [if_pos rfl] at hres
        subst hres
        go_wp2
        go_ret2
        exact ⟨rfl, rfl⟩
  · rw [show waitS l tick t = (0, askedS l t) from by unfold waitS; rw [if_neg ha]]
    have hb := asked_bad ha
    generalize askedS l t = q at *
    clear hr ha
    go_enter Try.func59, Try.ntmps59
    go_wp2_with fail
    refine (K.out).mono ?_
    rintro e x ⟨rfl, rfl⟩
    go_wp2
    go_ret2
    exact ⟨rfl, rfl⟩
end Go.Proofs.Ythehkapaipfoaaa
