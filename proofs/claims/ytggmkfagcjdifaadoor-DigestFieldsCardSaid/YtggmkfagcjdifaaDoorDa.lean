/- Facts of the program over abstract values. No condition. -/
import Derived.Test.YtggmkfagcjdifaaDoorDgQa2
import Derived.Test.YtggmkfagcjdifaaDoorAiZf
import Derived.Test.YtggmkfagcjdifaaDoorShA
set_option maxRecDepth 8000
namespace Go.Proofs.YtggmkfagcjdifaaDoor
set_option linter.unusedSimpArgs false
set_option linter.unusedVariables false
set_option linter.unnecessarySimpa false
set_option linter.unusedSectionVars false
open Go.Proofs.Tryd
open Go.Proofs.YtggmkfagcjdifaaDoor.Ai
set_option maxHeartbeats 4000000
set_option linter.unusedVariables false
open Go.Proofs.YtggmkfagcjdifaaDoor.Sh hiding mixed

abbrev u32 (n : Nat) : AV := .int .u32 (n : Int)
theorem rotl_p (x n : Nat) (hx : x < 4294967296) (h1 : 1 ≤ n) (hn : n ≤ 31) : PCall prog 60 [u32 x, .int .i64 (-(n : Int))] (u32 (Sh.rotr x n)) := by
  obtain ⟨m, hm⟩ : ∃ m, m = 32 - n := ⟨_, rfl⟩
  have f1 : Go.bits .and .u64 (IntKind.u64.wrap (-(n : Int))) 31 = (m : Int) := by
    rw [IntKind.wrap_u64, show (-(n : Int)) % 18446744073709551616 = ((18446744073709551616 - n : Nat) : Int) from by omega]
    have h := u64_and_nat (18446744073709551616 - n) 31 (by omega) (by omega)
    rw [nat_mask5] at h
    rw [show (31 : Int) = ((31 : Nat) : Int) from rfl, h]
    omega
  have f2 : IntKind.u64.wrap (32 - (m : Int)) = (n : Int) := by rw [IntKind.wrap_u64]; omega
  have f3 : Go.bits .or .u32 (IntKind.u32.wrap ((x : Int) * 2 ^ min m IntKind.u32.bits)) ((x : Int).fdiv (2 ^ min n IntKind.u32.bits)) = (Sh.rotr x n : Int) := by
    rw [IntKind.wrap_u32, show min m IntKind.u32.bits = m from Nat.min_eq_left (by show m ≤ 32; omega), show min n IntKind.u32.bits = 32 - m from by rw [Nat.min_eq_left (by show n ≤ 32; omega)]; omega,
      Int.fdiv_eq_ediv_of_nonneg _ (by exact_mod_cast Nat.zero_le _)]
    exact rot_bits hm hx (by omega)
  clear hm
  obtain ⟨c, hb, hl⟩ := l60
  refine pcall_of mixed e60 hb rfl hl r60 (by rw [n60]; simp) ?_
  clear hb hl c
  (try simp only [push_cast, Nat.reduceAdd, Nat.reduceBEq, f1, f2, f3])
  repeat' ((((((refine ret_frz rfl ?_ ?_ ?_ ?_; rotate_left 1; (((simp only [push_cast] <;> fail "n"))); (((simp only [push_cast] <;> fail "n"))); (((simp only [push_cast] <;> fail "n")))))) <;> (try simp only [push_cast, Nat.reduceBEq, *]))))
theorem rotate_p (x n : Nat) (hx : x < 4294967296) (h1 : 1 ≤ n) (hn : n ≤ 31) : PCall prog 48 [u32 x, .int .i64 (n : Int)] (u32 (Sh.rotr x n)) := by
  have f1 : IntKind.i64.wrap (0 - (n : Int)) = -(n : Int) := (IntWalk.i64_in (0 - (n : Int)) (by omega)).trans (by omega)
  obtain ⟨c, hb, hl⟩ := l48
  refine pcall_of mixed e48 hb rfl hl r48 (by rw [n48]; simp) ?_
  clear hb hl c
  (try simp only [push_cast, Nat.reduceAdd, Nat.reduceBEq, f1])
  repeat' ((((first | (apply sc_p; (case h => (exact rotl_p x n hx h1 hn)); (case hc => ((simp only [push_cast] <;> fail "n")))) | (refine ret_frz rfl ?_ ?_ ?_ ?_; rotate_left 1; (((simp only [push_cast] <;> fail "n"))); (((simp only [push_cast] <;> fail "n"))); (((simp only [push_cast] <;> fail "n"))))) <;> (try simp only [push_cast, Nat.reduceAdd, Nat.reduceBEq, *]))))
theorem early_p (x : Nat) (hx : x < 4294967296) : PCall prog 61 [u32 x] (u32 (sig0 x)) := by
  have h7 := rotr_lt (n := 7) hx (by omega)
  have h18 := rotr_lt (n := 18) hx (by omega)
  have f1 : Go.bits .xor .u32 (Go.bits .xor .u32 (Sh.rotr x 7 : Int) (Sh.rotr x 18 : Int)) ((x : Int).fdiv (2 ^ min 3 IntKind.u32.bits)) = (sig0 x : Int) := by
    rw [show (x : Int).fdiv (2 ^ min 3 IntKind.u32.bits) = ((x / 8 : Nat) : Int) from by rw [Int.fdiv_eq_ediv_of_nonneg _ (by decide)]; rfl, xor_u32 h7 h18, xor_u32 (xor_lt h7 h18) (by omega)]
    rfl
  have c7 := rotate_p x 7 hx (by omega) (by omega)
  have c18 := rotate_p x 18 hx (by omega) (by omega)
  obtain ⟨c, hb, hl⟩ := l61
  refine pcall_of mixed e61 hb rfl hl r61 (by rw [n61]; simp) ?_
  clear hb hl c
  (try simp only [push_cast, Nat.reduceAdd, Nat.reduceBEq])
  repeat' ((((first | (apply sc_p; (case h => first | exact c7 | exact c18); (case hc => ((simp only [push_cast] <;> fail "n")))) | (refine ret_frz rfl ?_ ?_ ?_ ?_; rotate_left 1; (((simp only [push_cast] <;> fail "n"))); (((simp only [push_cast] <;> fail "n"))); (((simp only [push_cast] <;> fail "n"))))) <;> (try simp only [push_cast, Nat.reduceAdd, Nat.reduceBEq, Int.reduceLE, Int.reduceToNat, *]))))
theorem late_p (x : Nat) (hx : x < 4294967296) : PCall prog 62 [u32 x] (u32 (sig1 x)) := by
  have h7 := rotr_lt (n := 17) hx (by omega)
  have h18 := rotr_lt (n := 19) hx (by omega)
  have f1 : Go.bits .xor .u32 (Go.bits .xor .u32 (Sh.rotr x 17 : Int) (Sh.rotr x 19 : Int)) ((x : Int).fdiv (2 ^ min 10 IntKind.u32.bits)) = (sig1 x : Int) := by
    rw [show (x : Int).fdiv (2 ^ min 10 IntKind.u32.bits) = ((x / 1024 : Nat) : Int) from by rw [Int.fdiv_eq_ediv_of_nonneg _ (by decide)]; rfl, xor_u32 h7 h18, xor_u32 (xor_lt h7 h18) (by omega)]
    rfl
  have c7 := rotate_p x 17 hx (by omega) (by omega)
  have c18 := rotate_p x 19 hx (by omega) (by omega)
  obtain ⟨c, hb, hl⟩ := l62
  refine pcall_of mixed e62 hb rfl hl r62 (by rw [n62]; simp) ?_
  clear hb hl c
  (try simp only [push_cast, Nat.reduceAdd, Nat.reduceBEq])
  repeat' ((((first | (apply sc_p; (case h => first | exact c7 | exact c18); (case hc => ((simp only [push_cast] <;> fail "n")))) | (refine ret_frz rfl ?_ ?_ ?_ ?_; rotate_left 1; (((simp only [push_cast] <;> fail "n"))); (((simp only [push_cast] <;> fail "n"))); (((simp only [push_cast] <;> fail "n"))))) <;> (try simp only [push_cast, Nat.reduceAdd, Nat.reduceBEq, Int.reduceLE, Int.reduceToNat, *]))))
end Go.Proofs.YtggmkfagcjdifaaDoor
