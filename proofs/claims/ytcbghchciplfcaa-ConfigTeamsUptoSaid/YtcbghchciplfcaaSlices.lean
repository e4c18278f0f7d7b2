/-
  SLICES: contracts of floor's functions on slice tables.
-/
import Derived.Test.YtcbghchciplfcaaOwned
namespace Go.Proofs.Ytcbghchciplfcaa
set_option linter.unusedVariables false
set_option linter.unusedSimpArgs false
set_option maxRecDepth 100000
open Go.RowKit

def tenB (x : UInt8) : Bool := decide (x.toNat ≤ 3)
def slicesB (l : List UInt8) : Bool := decide (1 ≤ l.length ∧ l.length ≤ 16) && l.all tenB
def ten (x : UInt8) : Int := (x.toNat : Int) - 1
/-- the entries from the i-th on, each coming after the one before. -/
def rotS (l : List UInt8) (i : Nat) : List UInt8 := (List.range l.length).map fun n => l.getD ((i + n) % l.length) 0
theorem rotS_length (l : List UInt8) (i : Nat) : (rotS l i).length = l.length := by simp [rotS]
theorem rotS_at {l : List UInt8} {i k : Nat} {x : UInt8} (hk : k < l.length) (hx : l[(i + k) % l.length]? = some x) : (rotS l i)[k]? = some x := by
  simp [rotS, hk, hx]

set_option maxHeartbeats 800000 in
theorem checkSlices_any (A : Option Addr) (n c : Nat) (l : List UInt8) (w : World) (hr : Reads w w.heap.size 1 A n (bv l)) (hn : n ≤ 140737488351232) :
    Calls Try.prog 70 #[.slice A n c] w fun e w' => e = .returned (.int .i64 (if slicesB l then 0 else 60)) ∧ w = w' := by
  have hlen : l.length = n := by have := hr.1; simpa using this
  by_cases h1 : n < 1
  · have hz : slicesB l = false := by unfold slicesB; rw [hlen, decide_eq_false (by omega)]; rfl
    obtain rfl : n = 0 := by omega
    rw [hz]
    clear hz hlen h1 hr
    go_enter Try.func70, Try.ntmps70
    go_wp2
    go_ret
    exact ⟨rfl, rfl⟩
  · by_cases h2 : 16 < n
    · have hz : slicesB l = false := by unfold slicesB; rw [hlen, decide_eq_false (by omega)]; rfl
      have d1 : decide (n < 1) = false := decide_eq_false h1
      have d2 : decide (n = 0) = false := decide_eq_false (by omega)
      have d3 : (n == 0) = false := by simp; omega
      rw [hz]
      clear hz hlen hr
      go_enter Try.func70, Try.ntmps70
      go_wp2
      go_ret
      exact ⟨rfl, rfl⟩
    · have hz : slicesB l = l.all tenB := by unfold slicesB; rw [hlen, decide_eq_true (by omega)]; rfl
      have d1 : decide (n < 1) = false := decide_eq_false h1
      have d2 : decide (16 < n) = false := decide_eq_false h2
      have h3 : 1 ≤ n := by omega
      have h4 : n ≤ 16 := by omega
      rw [hz]
      have HR := Lib.hid hr; have HL := Lib.hid hlen
      clear hz hlen hr h1 h2
      obtain ⟨R, hR⟩ : ∃ R : Value, R = .int .i64 (if l.all tenB = true then 0 else 60) := ⟨_, rfl⟩
      rw [← hR]
      have HRR := Lib.hid hR
      clear hR
      go_enter Try.func70, Try.ntmps70
      go_wp2
      go_loop [15] (fun i => ∃ k : Nat, k ≤ n ∧ i = .int .i64 (k : Int) ∧ Hid ((l.take k).all tenB = true))
        (fun i => n - (intOf i).toNat)
      case atStart => exact ⟨0, Nat.zero_le _, rfl, Lib.hid rfl⟩
      case round =>
        obtain ⟨k, hk, rfl, hall⟩ := hrel
        by_cases hlt : k < n
        · obtain ⟨ad, x, rfl, had, hx, hcx⟩ := cells_at HR.out hlt
          have HX := Lib.hid hx
          clear hx had
          by_cases hh : x.toNat ≤ 3
          · have e1 : decide ((3 : Int) < (x.toNat : Int)) = false := decide_eq_false (by omega)
            have e2 : decide (3 < x.toNat) = false := decide_eq_false (by omega)
            go_wp2
            go_round
            case rel => exact ⟨k + 1, by omega, by go_num, Lib.hid (allc_take hall.out HX.out (decide_eq_true hh))⟩
            case measure => simp [intOf]; omega
          · have e1 : (3 : Int) < (x.toNat : Int) := by omega
            have e2 : 3 < x.toNat := by omega
            go_wp2
            go_ret
            have hz : l.all tenB = false := allc_not HX.out (decide_eq_false hh)
            exact ⟨by rw [HRR.out, hz]; rfl, rfl⟩
        · obtain rfl : k = n := by omega
          have hz : l.all tenB = true := by
            have := hall.out
            rwa [List.take_of_length_le (by rw [HL.out]; exact Nat.le_refl _)] at this
          have HZ := Lib.hid hz
          clear hz
          go_wp2
          go_ret
          exact ⟨by rw [HRR.out, HZ.out]; rfl, rfl⟩

theorem tenantOf_any (x : UInt8) (w : World) : Calls Try.prog 99 #[.int .u8 (x.toNat : Int)] w fun e w' => e = .returned (.int .i64 (ten x)) ∧ w = w' := by
  have hx := x.toNat_lt
  unfold ten
  generalize x.toNat = m at *
  go_enter Try.func99, Try.ntmps99
  go_wp2
  go_ret
  exact ⟨rfl, rfl⟩
theorem tenantOf_same (x : UInt8) (w : World) : Calls Try.prog 99 #[.int .u8 (x.toNat : Int)] w fun e w' => e = .returned (.int .i64 (ten x)) ∧ w' = w :=
  (tenantOf_any x w).mono fun _ _ h => ⟨h.1, h.2.symm⟩
theorem indexOf_any (A : Option Addr) (n c tick : Nat) (w : World) (hn : 1 ≤ n) (hn2 : n ≤ 16) (ht : tick < 18446744073709551616) : Calls Try.prog 100 #[.slice A n c, .int .u64 (tick : Int)] w fun e w' => e = .returned (.int .i64 ((tick % n : Nat) : Int)) ∧ w = w' := by
  have hz : ((n : Int) == 0) = false := by simp; omega
  have hm : tick % n < n := Nat.mod_lt _ (by omega)
  have hm' : (tick : Int) % (n : Int) = ((tick % n : Nat) : Int) := by omega
  have h1 : (0 : Int) ≤ (tick : Int) % (n : Int) := by omega
  have h2 : (tick : Int) % (n : Int) < 16 := by omega
  have HM := Lib.hid hm'
  clear hm' hm
  go_enter Try.func100, Try.ntmps100
  go_wp2
  go_ret
  exact ⟨ret_int HM.out, rfl⟩
theorem wait_fn (x : UInt8) (t : Int) (g : Nat) (w : World) (hc : w.cell? ⟨g, 0, none⟩ = some (.int .i64 t)) :
    Calls Try.prog 138 #[.int .u8 (x.toNat : Int), .pointer (some ⟨g, 0, none⟩)] w fun e w' => e = .returned (.bool (ten x == t)) ∧ ∃ k, w' = w.drewN k := by
  have T := Lib.hid (fun W => tenantOf_same x W)
  go_enter Try.func138, Try.ntmps138
  go_wp2
  go_quiet ((go_at_call 99; exact Calls.quiet_of_same (T.out _)))
  go_wp2
  go_ret
  exact ⟨rfl, _, rfl⟩

set_option maxHeartbeats 1600000 in
theorem count_wait (A : Option Addr) (n c tick : Nat) (l : List UInt8) (t : Int) (g : Nat) (w : World) (hr : Reads w w.heap.size 1 A n (bv l)) (hn : 1 ≤ n) (hn2 : n ≤ 16) (ht : tick < 18446744073709551616) (hc : w.cell? ⟨g, 0, none⟩ = some (.int .i64 t)) :
    Calls Try.prog 137 #[.slice A n c, .int .u64 (tick : Int), .func (.func 138) #[] #[.pointer (some ⟨g, 0, none⟩)]] w fun e w' => e = .returned (.int .i64 (((rotS l (tick % n)).findIdx (fun x => ten x == t) : Nat) : Int)) ∧ ∃ k, w' = w.drewN k := by
  have hlen : l.length = n := by have := hr.1; simpa using this
  have I := Lib.hid (fun W => indexOf_any A n c tick W hn hn2 ht)
  have F := Lib.hid (fun (x : UInt8) (b : Bool) (h : (ten x == t) = b) (W : World) hW => h ▸ wait_fn x t g W hW)
  have hi : tick % n < n := Nat.mod_lt _ (by omega)
  have hz : ((n : Int) == 0) = false := by simp; omega
  generalize tick % n = i0 at *
  have hrl : (rotS l i0).length = n := by rw [rotS_length, hlen]
  have HR := Lib.hid hr; have HL := Lib.hid hlen; have HC := Lib.hid hc; have HRL := Lib.hid hrl
  obtain ⟨R, hR⟩ : ∃ R : Nat, R = (rotS l i0).findIdx (fun x => ten x == t) := ⟨_, rfl⟩
  rw [← hR]
  have HRR := Lib.hid hR
  clear hR hr hlen hc hrl
  go_enter Try.func137, Try.ntmps137
  go_wp2_with fail
  refine (I.out _).mono ?_
  rintro e w1 ⟨rfl, rfl⟩
  go_wp2
  go_loopw [14] (fun i wr => ∃ k d : Nat, k ≤ n ∧ i = .int .i64 (k : Int) ∧ Hid (∀ j x, j < k → (rotS l i0)[j]? = some x → (ten x == t) = false) ∧ wr = w.drewN d)
    (fun i _ => n - (intOf i).toNat)
  case atStart => exact ⟨0, 0, Nat.zero_le _, rfl, Lib.hid (fun j x hj => absurd hj (by omega)), rfl⟩
  case round =>
    obtain ⟨k, d, hk, rfl, hall, rfl⟩ := hrel
    by_cases hlt : k < n
    · obtain ⟨j, hj⟩ : ∃ j : Nat, j = (i0 + k) % n := ⟨_, rfl⟩
      have hjn : j < n := by rw [hj]; exact Nat.mod_lt _ (by omega)
      obtain ⟨ad, x, rfl, had, hx, hcx⟩ := cells_at (HR.out.drewN d) hjn
      have he : (rotS l i0)[k]? = some x := rotS_at (by rw [HL.out]; exact hlt) (by rw [HL.out, ← hj]; exact hx)
      have hj' : ((i0 : Int) + (k : Int)) % (n : Int) = (j : Int) := by rw [hj, Int.natCast_emod, Int.natCast_add]
      have HE := Lib.hid he
      have hw : (w.drewN d).cell? ⟨g, 0, none⟩ = some (.int .i64 t) := HC.out
      have HW := Lib.hid hw
      clear hj hx had he hw
      cases hb : (ten x == t)
      · have HB := Lib.hid hb
        clear hb
        go_wp2_with fail
        refine (F.out x false HB.out _ HW.out).mono ?_
        rintro e w2 ⟨rfl, d', rfl⟩
        clear hcx hj'
        go_wp2
        go_roundw
        case rel => exact ⟨k + 1, _, by omega, by go_num, Lib.hid (fun m y hm hy => by
            rcases Nat.lt_or_ge m k with h | h
            · exact hall.out m y h hy
            · obtain rfl : m = k := by omega
              rw [HE.out] at hy
              injection hy with hy
              subst hy
              exact HB.out), rfl⟩
        case measure => simp [intOf]; omega
      · have HB := Lib.hid hb
        clear hb
        go_wp2_with fail
        refine (F.out x true HB.out _ HW.out).mono ?_
        rintro e w2 ⟨rfl, d', rfl⟩
        clear hcx hj'
        go_wp2
        go_ret
        refine ⟨ret_int ?_, _, rfl⟩
        have hkl : k < (rotS l i0).length := by rw [HRL.out]; exact hlt
        have : R = k := by
          rw [HRR.out]
          refine (List.findIdx_eq hkl).2 ⟨?_, fun j hj => ?_⟩
          · have := HE.out
            rw [List.getElem?_eq_getElem hkl] at this
            injection this with this
            rw [this]
            exact HB.out
          · exact hall.out j _ hj (List.getElem?_eq_getElem (by omega))
        omega
    · obtain rfl : k = n := by omega
      go_wp2
      go_ret
      refine ⟨ret_int ?_, _, rfl⟩
      have : R = k := by
        rw [HRR.out, ← HRL.out]
        refine List.findIdx_eq_length.2 fun x hx => ?_
        obtain ⟨j, hj, rfl⟩ := List.getElem_of_mem hx
        exact hall.out j _ (by rw [← HRL.out]; exact hj) (List.getElem?_eq_getElem hj)
      omega
end Go.Proofs.Ytcbghchciplfcaa
