/-
  CFGEQ: equality of lists of integers and of bytes.
-/
import Derived.Test.YtcbghchciplfcaaCfgMem
import Derived.Test.YtcbghchciplfcaaLawHelp
namespace Go.Proofs.Ytcbghchciplfcaa
set_option linter.unusedVariables false
set_option linter.unusedSimpArgs false
set_option maxRecDepth 100000
open Go.RowKit

set_option maxHeartbeats 1600000 in
theorem sameInts_any (A A' : Option Addr) (n n' c c' : Nat) (l l' : List Int) (w : World) (hr : Reads w w.heap.size 1 A n (iv l)) (hr' : Reads w w.heap.size 1 A' n' (iv l')) (hn : n ≤ 140737488351232) :
    Calls Try.prog 34 #[.slice A n c, .slice A' n' c'] w fun e w' => e = .returned (.bool (decide (l = l'))) ∧ ∃ k, w' = w.drewN k := by
  have hl := hr.len
  have hl' := hr'.len
  by_cases hq : n = n'
  · subst hq
    have e1 : ((n : Int) != (n : Int)) = false := by simp
    have HR := Lib.hid hr; have HR' := Lib.hid hr'; have HL := Lib.hid hl; have HL' := Lib.hid hl'
    obtain ⟨R, hR⟩ : ∃ R, R = decide (l = l') := ⟨_, rfl⟩
    rw [← hR]
    have HRR := Lib.hid hR
    clear hr hr' hl hl' hR
    go_enter Try.func34, Try.ntmps34
    go_wp2
    go_loopw [5] (fun i wr => ∃ k d : Nat, k ≤ n ∧ i = .int .i64 (k : Int) ∧ wr = w.drewN d ∧ Hid (l.take k = l'.take k))
      (fun i _ => n - (intOf i).toNat)
    case atStart => exact ⟨0, 0, Nat.zero_le _, rfl, rfl, Lib.hid rfl⟩
    case round =>
      obtain ⟨k, d, hk, rfl, rfl, hall⟩ := hrel
      by_cases hlt : k < n
      · obtain ⟨ad, x, rfl, had, hx, hcx⟩ := ints_at HR.out hlt
        obtain ⟨ad', x', rfl, had', hx', hcx'⟩ := ints_at HR'.out hlt
        have HX := Lib.hid hx; have HX' := Lib.hid hx'
        clear hx hx' had had'
        have k0 : (0 : Int) ≤ (k : Int) := by omega
        have k1 : (k : Int) < (n : Int) := by omega
        by_cases he : x = x'
        · subst he
          have t1 : (x != x) = false := by simp
          go_wp2
          go_quiet (fail)
          go_wp2
          go_roundw
          case rel => exact ⟨k + 1, _, by omega, by go_num, rfl, Lib.hid (by rw [List.take_add_one, List.take_add_one, hall.out, HX.out, HX'.out])⟩
          case measure => simp [intOf]; omega
        · have t1 : (x != x') = true := by simpa using he
          have HE := Lib.hid he
          clear he
          go_wp2
          go_quiet (fail)
          go_wp2
          go_ret
          exact ⟨by rw [HRR.out, decide_eq_false (fun h => by have h1 := HX.out; rw [h, HX'.out] at h1; exact HE.out (by injection h1 with h1; exact h1.symm))]; rfl, _, World.drewN_drewN _ _ _⟩
      · obtain rfl : k = n := by omega
        go_wp2
        go_ret
        exact ⟨by rw [HRR.out, decide_eq_true (by have := hall.out; rwa [List.take_of_length_le (by rw [HL.out]; exact Nat.le_refl _), List.take_of_length_le (by rw [HL'.out]; exact Nat.le_refl _)] at this)]; rfl, _, rfl⟩
  · have e1 : ((n : Int) != (n' : Int)) = true := by simp; omega
    rw [decide_eq_false (fun h => hq (by rw [← hl, ← hl', h]))]
    clear hq hr hr' hl hl'
    go_enter Try.func34, Try.ntmps34
    go_wp2
    go_ret
    exact ⟨rfl, 0, rfl⟩
set_option maxHeartbeats 1600000 in
theorem eqInts_any (A A' : Option Addr) (n n' c c' : Nat) (l l' : List Int) (w : World) (hr : Reads w w.heap.size 1 A n (iv l)) (hr' : Reads w w.heap.size 1 A' n' (iv l')) (hn : n ≤ 140737488351232) :
    Calls Try.prog 125 #[.slice A n c, .slice A' n' c'] w fun e w' => e = .returned (.bool (decide (l = l'))) ∧ ∃ k, w' = w.drewN k := by
  have hl := hr.len
  have hl' := hr'.len
  by_cases hq : n = n'
  · subst hq
    have e1 : ((n : Int) != (n : Int)) = false := by simp
    have HR := Lib.hid hr; have HR' := Lib.hid hr'; have HL := Lib.hid hl; have HL' := Lib.hid hl'
    obtain ⟨R, hR⟩ : ∃ R, R = decide (l = l') := ⟨_, rfl⟩
    rw [← hR]
    have HRR := Lib.hid hR
    clear hr hr' hl hl' hR
    go_enter Try.func125, Try.ntmps125
    go_wp2
    go_loopw [13] (fun i wr => ∃ k d : Nat, k ≤ n ∧ i = .int .i64 (k : Int) ∧ wr = w.drewN d ∧ Hid (l.take k = l'.take k))
      (fun i _ => n - (intOf i).toNat)
    case atStart => exact ⟨0, 0, Nat.zero_le _, rfl, rfl, Lib.hid rfl⟩
    case round =>
      obtain ⟨k, d, hk, rfl, rfl, hall⟩ := hrel
      by_cases hlt : k < n
      · obtain ⟨ad, x, rfl, had, hx, hcx⟩ := ints_at HR.out hlt
        obtain ⟨ad', x', rfl, had', hx', hcx'⟩ := ints_at HR'.out hlt
        have HX := Lib.hid hx; have HX' := Lib.hid hx'
        clear hx hx' had had'
        have k0 : (0 : Int) ≤ (k : Int) := by omega
        have k1 : (k : Int) < (n : Int) := by omega
        by_cases he : x = x'
        · subst he
          have t1 : (x != x) = false := by simp
          go_wp2
          go_quiet (fail)
          go_wp2
          go_roundw
          case rel => exact ⟨k + 1, _, by omega, by go_num, rfl, Lib.hid (by rw [List.take_add_one, List.take_add_one, hall.out, HX.out, HX'.out])⟩
          case measure => simp [intOf]; omega
        · have t1 : (x != x') = true := by simpa using he
          have HE := Lib.hid he
          clear he
          go_wp2
          go_quiet (fail)
          go_wp2
          go_ret
          exact ⟨by rw [HRR.out, decide_eq_false (fun h => by have h1 := HX.out; rw [h, HX'.out] at h1; exact HE.out (by injection h1 with h1; exact h1.symm))]; rfl, _, World.drewN_drewN _ _ _⟩
      · obtain rfl : k = n := by omega
        go_wp2
        go_ret
        exact ⟨by rw [HRR.out, decide_eq_true (by have := hall.out; rwa [List.take_of_length_le (by rw [HL.out]; exact Nat.le_refl _), List.take_of_length_le (by rw [HL'.out]; exact Nat.le_refl _)] at this)]; rfl, _, rfl⟩
  · have e1 : ((n : Int) != (n' : Int)) = true := by simp; omega
    rw [decide_eq_false (fun h => hq (by rw [← hl, ← hl', h]))]
    clear hq hr hr' hl hl'
    go_enter Try.func125, Try.ntmps125
    go_wp2
    go_ret
    exact ⟨rfl, 0, rfl⟩
set_option maxHeartbeats 1600000 in
theorem eqBytes_any (A A' : Option Addr) (n n' c c' : Nat) (l l' : List UInt8) (w : World) (hr : Reads w w.heap.size 1 A n (bv l)) (hr' : Reads w w.heap.size 1 A' n' (bv l')) (hn : n ≤ 140737488351232) :
    Calls Try.prog 87 #[.slice A n c, .slice A' n' c'] w fun e w' => e = .returned (.bool (decide (l = l'))) ∧ ∃ k, w' = w.drewN k := by
  have hl := hr.blen
  have hl' := hr'.blen
  by_cases hq : n = n'
  · subst hq
    have e1 : ((n : Int) != (n : Int)) = false := by simp
    have HR := Lib.hid hr; have HR' := Lib.hid hr'; have HL := Lib.hid hl; have HL' := Lib.hid hl'
    obtain ⟨R, hR⟩ : ∃ R, R = decide (l = l') := ⟨_, rfl⟩
    rw [← hR]
    have HRR := Lib.hid hR
    clear hr hr' hl hl' hR
    go_enter Try.func87, Try.ntmps87
    go_wp2
    go_loopw [13] (fun i wr => ∃ k d : Nat, k ≤ n ∧ i = .int .i64 (k : Int) ∧ wr = w.drewN d ∧ Hid (l.take k = l'.take k))
      (fun i _ => n - (intOf i).toNat)
    case atStart => exact ⟨0, 0, Nat.zero_le _, rfl, rfl, Lib.hid rfl⟩
    case round =>
      obtain ⟨k, d, hk, rfl, rfl, hall⟩ := hrel
      by_cases hlt : k < n
      · obtain ⟨ad, x, rfl, had, hx, hcx⟩ := cells_at HR.out hlt
        obtain ⟨ad', x', rfl, had', hx', hcx'⟩ := cells_at HR'.out hlt
        have HX := Lib.hid hx; have HX' := Lib.hid hx'
        clear hx hx' had had'
        have k0 : (0 : Int) ≤ (k : Int) := by omega
        have k1 : (k : Int) < (n : Int) := by omega
        by_cases he : x = x'
        · subst he
          have t1 : ((x.toNat : Int) != (x.toNat : Int)) = false := by simp
          go_wp2
          go_quiet (fail)
          go_wp2
          go_roundw
          case rel => exact ⟨k + 1, _, by omega, by go_num, rfl, Lib.hid (by rw [List.take_add_one, List.take_add_one, hall.out, HX.out, HX'.out])⟩
          case measure => simp [intOf]; omega
        · have t1 : ((x.toNat : Int) != (x'.toNat : Int)) = true := by simp only [bne_iff_ne, ne_eq]; intro h; exact he (UInt8.toNat_inj.1 (by omega))
          have HE := Lib.hid he
          clear he
          go_wp2
          go_quiet (fail)
          go_wp2
          go_ret
          exact ⟨by rw [HRR.out, decide_eq_false (fun h => by have h1 := HX.out; rw [h, HX'.out] at h1; exact HE.out (by injection h1 with h1; exact h1.symm))]; rfl, _, World.drewN_drewN _ _ _⟩
      · obtain rfl : k = n := by omega
        go_wp2
        go_ret
        exact ⟨by rw [HRR.out, decide_eq_true (by have := hall.out; rwa [List.take_of_length_le (by rw [HL.out]; exact Nat.le_refl _), List.take_of_length_le (by rw [HL'.out]; exact Nat.le_refl _)] at this)]; rfl, _, rfl⟩
  · have e1 : ((n : Int) != (n' : Int)) = true := by simp; omega
    rw [decide_eq_false (fun h => hq (by rw [← hl, ← hl', h]))]
    clear hq hr hr' hl hl'
    go_enter Try.func87, Try.ntmps87
    go_wp2
    go_ret
    exact ⟨rfl, 0, rfl⟩
theorem sameInts_b (A A' : Option Addr) (n n' c c' : Nat) (l l' : List Int) (w : World) (hr : Reads w w.heap.size 1 A n (iv l)) (hr' : Reads w w.heap.size 1 A' n' (iv l')) (hn : n ≤ 140737488351232) :
    Calls Try.prog 34 #[.slice A n c, .slice A' n' c'] w fun e w' => e = .returned (.bool (decide (l = l'))) ∧ Below w.heap.size w w' :=
  (sameInts_any A A' n n' c c' l l' w hr hr' hn).mono fun _ _ ⟨h, d, e⟩ => ⟨h, e ▸ below_drewN (Below.refl _ _) d⟩
theorem eqInts_b (A A' : Option Addr) (n n' c c' : Nat) (l l' : List Int) (w : World) (hr : Reads w w.heap.size 1 A n (iv l)) (hr' : Reads w w.heap.size 1 A' n' (iv l')) (hn : n ≤ 140737488351232) :
    Calls Try.prog 125 #[.slice A n c, .slice A' n' c'] w fun e w' => e = .returned (.bool (decide (l = l'))) ∧ Below w.heap.size w w' :=
  (eqInts_any A A' n n' c c' l l' w hr hr' hn).mono fun _ _ ⟨h, d, e⟩ => ⟨h, e ▸ below_drewN (Below.refl _ _) d⟩
theorem eqBytes_b (A A' : Option Addr) (n n' c c' : Nat) (l l' : List UInt8) (w : World) (hr : Reads w w.heap.size 1 A n (bv l)) (hr' : Reads w w.heap.size 1 A' n' (bv l')) (hn : n ≤ 140737488351232) :
    Calls Try.prog 87 #[.slice A n c, .slice A' n' c'] w fun e w' => e = .returned (.bool (decide (l = l'))) ∧ Below w.heap.size w w' :=
  (eqBytes_any A A' n n' c c' l l' w hr hr' hn).mono fun _ _ ⟨h, d, e⟩ => ⟨h, e ▸ below_drewN (Below.refl _ _) d⟩
end Go.Proofs.Ytcbghchciplfcaa
