/-
  SLICES2: contracts of floor's exported functions on slice tables.
-/
import Derived.Test.YtcbghchciplfcaaSlices
namespace Go.Proofs.Ytcbghchciplfcaa
set_option linter.unusedVariables false
set_option linter.unusedSimpArgs false
set_option maxRecDepth 100000
open Go.RowKit

theorem slicesB_len {l : List UInt8} (h : slicesB l = true) : 1 ≤ l.length ∧ l.length ≤ 16 := by
  unfold slicesB at h
  simp only [Bool.and_eq_true, decide_eq_true_eq] at h
  exact h.1
/-- the error of a table and a tenant. -/
def askedS (l : List UInt8) (t : Int) : Int := if slicesB l then (if 0 ≤ t ∧ t < 3 then 0 else 2) else 60
theorem checkOf_any (A : Option Addr) (n c : Nat) (l : List UInt8) (t : Int) (w : World) (hr : Reads w w.heap.size 1 A n (bv l)) (hn : n ≤ 140737488351232) :
    Calls Try.prog 136 #[.slice A n c, .int .i64 t] w fun e w' => e = .returned (.int .i64 (askedS l t)) ∧ w = w' := by
  have K := Lib.hid (checkSlices_any A n c l w hr hn)
  have T := Lib.hid (fun W => isTenant_any t W)
  cases h : slicesB l
  · rw [show askedS l t = 60 from by unfold askedS; rw [h]; rfl]
    rw [h] at K
    simp only [Bool.false_eq_true, if_false] at K
    clear h hr
    go_enter Try.func136, Try.ntmps136
    go_wp2_with fail
    refine K.out.mono ?_
    rintro e w1 ⟨rfl, rfl⟩
    go_wp2
    go_ret
    exact ⟨rfl, rfl⟩
  · rw [h] at K
    simp only [if_true] at K
    by_cases hp : 0 ≤ t ∧ t < 3
    · rw [show askedS l t = 0 from by unfold askedS; rw [h, if_pos hp]; rfl]
      rw [decide_eq_true hp] at T
      clear h hr hp
      go_enter Try.func136, Try.ntmps136
      go_wp2_with fail
      refine K.out.mono ?_
      rintro e w1 ⟨rfl, rfl⟩
      go_wp2_with fail
      refine (T.out _).mono ?_
      rintro e w2 ⟨rfl, rfl⟩
      go_wp2
      go_ret
      exact ⟨rfl, rfl⟩
    · rw [show askedS l t = 2 from by unfold askedS; rw [h, if_neg hp]; rfl]
      rw [decide_eq_false hp] at T
      clear h hr hp
      go_enter Try.func136, Try.ntmps136
      go_wp2_with fail
      refine K.out.mono ?_
      rintro e w1 ⟨rfl, rfl⟩
      go_wp2_with fail
      refine (T.out _).mono ?_
      rintro e w2 ⟨rfl, rfl⟩
      go_wp2
      go_ret
      exact ⟨rfl, rfl⟩

/-- What SliceOwner comes to. -/
def sOwnS (l : List UInt8) (tick : Nat) : Int × Int := if slicesB l then (ten (l.getD (tick % l.length) 0), 0) else (0, 60)
theorem sliceOwner_any (A : Option Addr) (n c tick : Nat) (l : List UInt8) (w : World) (hr : Reads w w.heap.size 1 A n (bv l)) (hn : n ≤ 140737488351232) (ht : tick < 18446744073709551616) :
    Calls Try.prog 53 #[.slice A n c, .int .u64 (tick : Int)] w fun e w' => e = .returned (.tuple #[.int .i64 (sOwnS l tick).1, .int .i64 (sOwnS l tick).2]) ∧ w = w' := by
  have K := Lib.hid (checkSlices_any A n c l w hr hn)
  cases h : slicesB l
  · rw [show sOwnS l tick = (0, 60) from by unfold sOwnS; rw [h]; rfl]
    rw [h] at K
    simp only [Bool.false_eq_true, if_false] at K
    clear h hr
    go_enter Try.func53, Try.ntmps53
    go_wp2_with fail
    refine K.out.mono ?_
    rintro e w1 ⟨rfl, rfl⟩
    go_wp2
    go_ret2
    exact ⟨rfl, rfl⟩
  · rw [h] at K
    simp only [if_true] at K
    have hlen : l.length = n := by have := hr.1; simpa using this
    obtain ⟨g1, g2⟩ := slicesB_len h
    rw [hlen] at g1 g2
    have I := Lib.hid (fun W => indexOf_any A n c tick W g1 g2 ht)
    have hj : tick % n < n := Nat.mod_lt _ (by omega)
    obtain ⟨ad, x, rfl, had, hx, hcx⟩ := cells_at hr hj
    rw [show sOwnS l tick = (ten x, 0) from by unfold sOwnS; rw [h, hlen]; simp [hx]]
    have T := Lib.hid (fun W => tenantOf_any x W)
    generalize tick % n = j at *
    clear h hr hlen hx had
    go_enter Try.func53, Try.ntmps53
    go_wp2_with fail
    refine K.out.mono ?_
    rintro e w1 ⟨rfl, rfl⟩
    go_wp2_with fail
    refine (I.out _).mono ?_
    rintro e w2 ⟨rfl, rfl⟩
    go_wp2_with fail
    refine (T.out _).mono ?_
    rintro e w3 ⟨rfl, rfl⟩
    go_wp2
    go_ret2
    exact ⟨rfl, rfl⟩

def leftN (l : List UInt8) (tick : Nat) (t : Int) : Nat := (rotS l (tick % l.length)).findIdx (fun x => ten x != t)
def waitN (l : List UInt8) (tick : Nat) (t : Int) : Nat := (rotS l (tick % l.length)).findIdx (fun x => ten x == t)
/-- What SliceLeft and SliceWait come to. -/
def leftS (l : List UInt8) (tick : Nat) (t : Int) : Int × Int := if askedS l t = 0 then (((leftN l tick t : Nat) : Int), 0) else (0, askedS l t)
def waitS (l : List UInt8) (tick : Nat) (t : Int) : Int × Int := if askedS l t = 0 then (if waitN l tick t = l.length then (0, 6) else (((waitN l tick t : Nat) : Int), 0)) else (0, askedS l t)
theorem asked_ok {l : List UInt8} {t : Int} (h : askedS l t = 0) : slicesB l = true ∧ 0 ≤ t ∧ t < 3 := by
  unfold askedS at h
  cases hs : slicesB l
  · rw [hs] at h; simp at h
  · rw [hs] at h
    by_cases hp : 0 ≤ t ∧ t < 3
    · exact ⟨rfl, hp.1, hp.2⟩
    · rw [if_neg hp] at h; simp at h
theorem asked_bad {l : List UInt8} {t : Int} (h : askedS l t ≠ 0) : (askedS l t != 0) = true := by simpa using h

set_option maxHeartbeats 800000 in
theorem sliceWait_any (A : Option Addr) (n c tick : Nat) (l : List UInt8) (t : Int) (w : World) (hr : Reads w w.heap.size 1 A n (bv l)) (hn : n ≤ 140737488351232) (ht : tick < 18446744073709551616) :
    Calls Try.prog 129 #[.slice A n c, .int .u64 (tick : Int), .int .i64 t] w fun e w' => e = .returned (.tuple #[.int .i64 (waitS l tick t).1, .int .i64 (waitS l tick t).2]) ∧ Below w.heap.size w w' := by
  have hB : Below w.heap.size w (w.alloc (.cells #[.int .i64 t] 3)) := (Below.refl _ _).alloc (Nat.le_refl _) _
  have hr' := (hr.below hB).more hB.size
  have K := Lib.hid (checkOf_any A n c l t _ hr' hn)
  have HB := Lib.hid hB
  by_cases hz : askedS l t = 0
  · have hlen : l.length = n := by have := hr.1; simpa using this
    obtain ⟨hs, h0, h3⟩ := asked_ok hz
    obtain ⟨g1, g2⟩ := slicesB_len hs
    rw [hlen] at g1 g2
    rw [hz] at K
    have C := Lib.hid (count_wait A n c tick l t w.heap.size _ hr' g1 g2 ht (by simp))
    rw [show (rotS l (tick % n)).findIdx (fun x => ten x == t) = waitN l tick t from by unfold waitN; rw [hlen]] at C
    by_cases hwn : waitN l tick t = n
    · rw [show waitS l tick t = (0, 6) from by unfold waitS; rw [if_pos hz, if_pos (by rw [hlen]; exact hwn)]]
      rw [hwn] at C
      clear hz hs hlen hr hr' hB hwn
      go_enter Try.func129, Try.ntmps129
      go_wp2_with fail
      refine K.out.mono ?_
      rintro e w1 ⟨rfl, rfl⟩
      go_wp2_with fail
      refine C.out.mono ?_
      rintro e w2 ⟨rfl, d, rfl⟩
      go_wp2
      go_ret2
      exact ⟨rfl, below_drewN HB.out _⟩
    · rw [show waitS l tick t = (((waitN l tick t : Nat) : Int), 0) from by unfold waitS; rw [if_pos hz, if_neg (by rw [hlen]; exact hwn)]]
      have hne : (((waitN l tick t : Nat) : Int) == (n : Int)) = false := by simp; omega
      have hne2 : ((waitN l tick t) == n) = false := by simp; omega
      generalize waitN l tick t = R at *
      clear hz hs hlen hr hr' hB hwn
      go_enter Try.func129, Try.ntmps129
      go_wp2_with fail
      refine K.out.mono ?_
      rintro e w1 ⟨rfl, rfl⟩
      go_wp2_with fail
      refine C.out.mono ?_
      rintro e w2 ⟨rfl, d, rfl⟩
      go_wp2
      go_ret2
      exact ⟨rfl, below_drewN HB.out _⟩
  · rw [show waitS l tick t = (0, askedS l t) from if_neg hz]
    have hb := asked_bad hz
    generalize askedS l t = E at *
    clear hr hr' hB hz
    go_enter Try.func129, Try.ntmps129
    go_wp2_with fail
    refine K.out.mono ?_
    rintro e w1 ⟨rfl, rfl⟩
    go_wp2
    go_ret2
    exact ⟨rfl, HB.out⟩
end Go.Proofs.Ytcbghchciplfcaa
