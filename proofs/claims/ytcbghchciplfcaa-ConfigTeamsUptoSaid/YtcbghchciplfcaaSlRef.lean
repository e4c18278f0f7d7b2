/-
  SLREF: the reference's functions on slice tables.
-/
import Derived.Test.YtcbghchciplfcaaFAlive
namespace Go.Proofs.Ytcbghchciplfcaa
set_option linter.unusedVariables false
set_option linter.unusedSimpArgs false
set_option maxRecDepth 100000
open Go.RowKit

theorem u8_wf' {z : Int} (h : (Lit.int .u8 z).wf = true) : 0 ≤ z ∧ z ≤ 255 := by
  have h1 : IntKind.u8.min = 0 := rfl
  have h2 : IntKind.u8.max = 255 := rfl
  simp only [Lit.wf, Bool.and_eq_true, decide_eq_true_eq] at h
  omega
theorem u64_wf' {z : Int} (h : (Lit.int .u64 z).wf = true) : ∃ n : Nat, z = (n : Int) ∧ n < 18446744073709551616 := by
  have h1 : IntKind.u64.min = 0 := rfl
  have h2 : IntKind.u64.max = 18446744073709551615 := rfl
  simp only [Lit.wf, Bool.and_eq_true, decide_eq_true_eq] at h
  exact ⟨z.toNat, by omega, by omega⟩

set_option maxHeartbeats 800000 in
theorem validSlices_any (A : Option Addr) (n c : Nat) (l : List UInt8) (w : World) (hr : Reads w w.heap.size 1 A n (bv l)) (hn : n ≤ 140737488351232) :
    Calls Try.prog 83 #[.slice A n c] w fun e w' => e = .returned (.bool (slicesB l)) ∧ w = w' := by
  have hlen : l.length = n := by have := hr.1; simpa using this
  by_cases h1 : n < 1
  · have hz : slicesB l = false := by unfold slicesB; rw [hlen, decide_eq_false (by omega)]; rfl
    obtain rfl : n = 0 := by omega
    rw [hz]
    clear hz hlen h1 hr
    go_enter Try.func83, Try.ntmps83
    go_wp2
    go_ret
    exact ⟨rfl, rfl⟩
  · by_cases h2 : 16 < n
    · have hz : slicesB l = false := by unfold slicesB; rw [hlen, decide_eq_false (by omega)]; rfl
      have d1 : decide (n < 1) = false := decide_eq_false h1
      have d2 : decide (n = 0) = false := decide_eq_false (by omega)
      have d3 : (n == 0) = false := by simp; omega
      rw [hz]
      clear hz hlen hr
      go_enter Try.func83, Try.ntmps83
      go_wp2
      go_ret
      exact ⟨rfl, rfl⟩
    · have hz : slicesB l = l.all tenB := by unfold slicesB; rw [hlen, decide_eq_true (by omega)]; rfl
      have d1 : decide (n < 1) = false := decide_eq_false h1
      have d2 : decide (16 < n) = false := decide_eq_false h2
      have h3 : 1 ≤ n := by omega
      have h4 : n ≤ 16 := by omega
      rw [hz]
      have HR := Lib.hid hr; have HL := Lib.hid hlen
      clear hz hlen hr h1 h2
      obtain ⟨R, hR⟩ : ∃ R : Value, R = .bool (l.all tenB) := ⟨_, rfl⟩
      rw [← hR]
      have HRR := Lib.hid hR
      clear hR
      go_enter Try.func83, Try.ntmps83
      go_wp2
      go_loop [3] (fun i => ∃ k : Nat, k ≤ n ∧ i = .int .i64 (k : Int) ∧ Hid ((l.take k).all tenB = true))
        (fun i => n - (intOf i).toNat)
      case atStart => exact ⟨0, Nat.zero_le _, rfl, Lib.hid rfl⟩
      case round =>
        obtain ⟨k, hk, rfl, hall⟩ := hrel
        by_cases hlt : k < n
        · obtain ⟨ad, x, rfl, had, hx, hcx⟩ := cells_at HR.out hlt
          have HX := Lib.hid hx
          clear hx had
          by_cases hh : x.toNat ≤ 3
          · have e1 : decide ((3 : Int) < (x.toNat : Int)) = false := decide_eq_false (by omega)
            have e2 : decide (3 < x.toNat) = false := decide_eq_false (by omega)
            go_wp2
            go_round
            case rel => exact ⟨k + 1, by omega, by go_num, Lib.hid (allc_take hall.out HX.out (decide_eq_true hh))⟩
            case measure => simp [intOf]; omega
          · have e1 : (3 : Int) < (x.toNat : Int) := by omega
            have e2 : 3 < x.toNat := by omega
            go_wp2
            go_ret
            have hz : l.all tenB = false := allc_not HX.out (decide_eq_false hh)
            exact ⟨by rw [HRR.out, hz]; rfl, rfl⟩
        · obtain rfl : k = n := by omega
          have hz : l.all tenB = true := by
            have := hall.out
            rwa [List.take_of_length_le (by rw [HL.out]; exact Nat.le_refl _)] at this
          have HZ := Lib.hid hz
          clear hz
          go_wp2
          go_ret
          exact ⟨by rw [HRR.out, HZ.out]; rfl, rfl⟩
end Go.Proofs.Ytcbghchciplfcaa
