/-
  ROT: the contracts of rotate and of the closures of schedule.
-/
import Derived.Test.YtpoppfmlphkakaaDoorSchedMath
import Derived.Test.YtpoppfmlphkakaaDoorRows
import Derived.WalkKit
import Derived.WalkLawsBesides
import Derived.BigQuiet
namespace Go.Proofs.YtpoppfmlphkakaaDoor
set_option linter.unusedVariables false
set_option linter.unusedSimpArgs false
set_option maxRecDepth 100000
open Go.RowKit

theorem rotateLeft_any (x n : Nat) (w : World) (hx : x < 4294967296) (hn : n ≤ 31) (h1 : 1 ≤ n) :
    Calls Tryd.prog 60 #[.int .u32 (x : Int), .int .i64 (-(n : Int))] w fun e w' => e = .returned (.int .u32 (rotr x n : Int)) ∧ w = w' := by
  obtain ⟨m, hm⟩ : ∃ m, m = 32 - n := ⟨_, rfl⟩
  have hs : bits .and .u64 (IntKind.u64.wrap (-(n : Int))) 31 = (m : Int) := by
    rw [IntKind.wrap_u64, show (-(n : Int)) % 18446744073709551616 = ((18446744073709551616 - n : Nat) : Int) from by omega]
    have h := u64_and_nat (18446744073709551616 - n) 31 (by omega) (by omega)
    rw [nat_mask5] at h
    rw [show (31 : Int) = ((31 : Nat) : Int) from rfl, h]
    omega
  have hm1 : 1 ≤ m := by omega
  have hm2 : m ≤ 31 := by omega
  have hf := rot_bits hm hx (by omega)
  have HF := Lib.hid hf; clear hf
  have HM := Lib.hid hm; clear hm
  go_enter Tryd.func60, Tryd.ntmps60
  go_wp2_with fail
  go_ret
  exact ⟨ret_int HF.out, rfl⟩
theorem rotate_any (x n : Nat) (w : World) (hx : x < 4294967296) (hn : n ≤ 31) (h1 : 1 ≤ n) :
    Calls Tryd.prog 48 #[.int .u32 (x : Int), .int .i64 (n : Int)] w fun e w' => e = .returned (.int .u32 (rotr x n : Int)) ∧ w = w' := by
  go_enter Tryd.func48, Tryd.ntmps48
  go_wp2_with fail
  refine (rotateLeft_any x n w hx hn h1).mono ?_
  rintro e w1 ⟨rfl, rfl⟩
  go_wp2
  go_ret
  exact ⟨rfl, rfl⟩

theorem early_any (x : Nat) (w : World) (hx : x < 4294967296) :
    Calls Tryd.prog 61 #[.int .u32 (x : Int)] w fun e w' => e = .returned (.int .u32 (sig0 x : Int)) ∧ w = w' := by
  have h7 := rotr_lt (n := 7) hx (by omega)
  have h18 := rotr_lt (n := 18) hx (by omega)
  have hq : (x : Int) / 8 = ((x / 8 : Nat) : Int) := by simp
  have hf : bits .xor .u32 (bits .xor .u32 (rotr x 7 : Int) (rotr x 18 : Int)) ((x : Int) / 8) = (sig0 x : Int) := by
    rw [hq, xor_u32 h7 h18, xor_u32 (xor_lt h7 h18) (by omega)]
    rfl
  have HF := Lib.hid hf; clear hf hq
  have c7 := rotate_any x 7 w hx (by omega) (by omega)
  have c18 := rotate_any x 18 w hx (by omega) (by omega)
  have C7 := Lib.hid c7; clear c7
  have C18 := Lib.hid c18; clear c18
  go_enter Tryd.func61, Tryd.ntmps61
  go_wp2_with fail
  refine C7.out.mono ?_
  rintro e w1 ⟨rfl, rfl⟩
  go_wp2_with fail
  refine C18.out.mono ?_
  rintro e w1 ⟨rfl, rfl⟩
  go_wp2
  go_ret
  exact ⟨ret_int HF.out, rfl⟩
theorem late_any (x : Nat) (w : World) (hx : x < 4294967296) :
    Calls Tryd.prog 62 #[.int .u32 (x : Int)] w fun e w' => e = .returned (.int .u32 (sig1 x : Int)) ∧ w = w' := by
  have h17 := rotr_lt (n := 17) hx (by omega)
  have h19 := rotr_lt (n := 19) hx (by omega)
  have hq : (x : Int) / 1024 = ((x / 1024 : Nat) : Int) := by simp
  have hf : bits .xor .u32 (bits .xor .u32 (rotr x 17 : Int) (rotr x 19 : Int)) ((x : Int) / 1024) = (sig1 x : Int) := by
    rw [hq, xor_u32 h17 h19, xor_u32 (xor_lt h17 h19) (by omega)]
    rfl
  have HF := Lib.hid hf; clear hf hq
  have c7 := rotate_any x 17 w hx (by omega) (by omega)
  have c18 := rotate_any x 19 w hx (by omega) (by omega)
  have C7 := Lib.hid c7; clear c7
  have C18 := Lib.hid c18; clear c18
  go_enter Tryd.func62, Tryd.ntmps62
  go_wp2_with fail
  refine C7.out.mono ?_
  rintro e w1 ⟨rfl, rfl⟩
  go_wp2_with fail
  refine C18.out.mono ?_
  rintro e w1 ⟨rfl, rfl⟩
  go_wp2
  go_ret
  exact ⟨ret_int HF.out, rfl⟩
end Go.Proofs.YtpoppfmlphkakaaDoor
