/- Facts of the program over abstract values. No condition. -/
import Derived.Test.YtggmkfagcjdifaaDoorFn
set_option maxRecDepth 8000
namespace Go.Proofs.YtggmkfagcjdifaaDoor
set_option linter.unusedSimpArgs false
set_option linter.unusedVariables false
set_option linter.unnecessarySimpa false
set_option linter.unusedSectionVars false
open Go.Proofs.Tryd
open Go.Proofs.YtggmkfagcjdifaaDoor.Ai
set_option maxHeartbeats 4000000
set_option linter.unusedVariables false
open Go.Proofs.YtggmkfagcjdifaaDoor.Sh hiding mixed

abbrev fc (f : Nat × UInt8) : List AV := [.int .u64 (f.1 : Int), u8c f.2]
@[irreducible] def fS (f : Nat × UInt8) : Nat := f.2.toNat % 8 + 1
@[irreducible] def fN (f : Nat × UInt8) : Nat := if f.2.toNat % 8 + 1 < 8 then f.1 % 256 ^ (f.2.toNat % 8 + 1) else f.1
theorem fS_eq (f : Nat × UInt8) : fS f = f.2.toNat % 8 + 1 := by unfold fS; rfl
theorem fS_b (f : Nat × UInt8) : 1 ≤ fS f ∧ fS f ≤ 8 := by rw [fS_eq]; omega
theorem fN_lt (f : Nat × UInt8) (h : f.1 < 18446744073709551616) : fN f < 18446744073709551616 := by
  unfold fN; split
  · exact Nat.lt_of_le_of_lt (Nat.mod_le _ _) h
  · exact h
theorem fN_fit (f : Nat × UInt8) (h : f.1 < 18446744073709551616) : fN f < 256 ^ fS f := by
  rw [fS_eq]; unfold fN; split
  · exact Nat.mod_lt _ (Nat.pow_pos (by omega))
  · rw [show f.2.toNat % 8 + 1 = 8 from by omega]; exact h
theorem shl1 (s : Nat) (h : s < 8) : IntKind.u64.wrap (1 * 2 ^ min (8 * s) IntKind.u64.bits) = ((256 ^ s : Nat) : Int) := by
  match s, h with
  | 0, _ => rfl
  | 1, _ => rfl
  | 2, _ => rfl
  | 3, _ => rfl
  | 4, _ => rfl
  | 5, _ => rfl
  | 6, _ => rfl
  | 7, _ => rfl
theorem cut_p (f : Nat × UInt8) (hf : f.1 < 18446744073709551616) : PCall prog 39 [.agg (fc f)] (.tup [.int .i64 (fS f : Int), .int .u64 (fN f : Int)]) := by
  have he : fN f = if fS f < 8 then f.1 % 256 ^ fS f else f.1 := by rw [fS_eq]; unfold fN; rfl
  have hb := fS_b f
  have hse := fS_eq f
  obtain ⟨r, hr0, hri⟩ : ∃ r : Nat, r = f.2.toNat % 8 ∧ ((f.2.toNat : Int)).tmod 8 = (r : Int) := ⟨_, rfl, by rw [Int.tmod_eq_emod_of_nonneg (by omega)]; omega⟩
  rw [← hr0] at hse
  have w1 : IntKind.i64.wrap (r : Int) = (r : Int) := i64_nat (by omega)
  have w2 : IntKind.i64.wrap ((r : Int) + 1) = (fS f : Int) := by rw [i64_id] <;> omega
  have w3 : IntKind.i64.wrap (8 * (fS f : Int)) = 8 * (fS f : Int) := i64_id (by omega) (by omega)
  have w4 : (8 * (fS f : Int)).toNat = 8 * fS f := by omega
  rcases Nat.lt_or_ge (fS f) 8 with h8 | h8
  · rw [if_pos h8] at he
    have hd : decide ((fS f : Int) < 8) = true := by simp; omega
    have s1 := shl1 (fS f) h8
    have hpos : 0 < 256 ^ fS f := Nat.pow_pos (by omega)
    have s2 : (f.1 : Int).tmod ((256 ^ fS f : Nat) : Int) = (fN f : Int) := by rw [Int.tmod_eq_emod_of_nonneg (by omega), he]; simp
    have s3 : ¬ (((256 ^ fS f : Nat) : Int) = 0) := by omega
    clear he hse hr0 hb hpos
    generalize 256 ^ fS f = P at *
    generalize fS f = S at *
    generalize fN f = N at *
    obtain ⟨n, z⟩ := f
    simp only at *
    obtain ⟨c, hb, hl⟩ := l39
    refine pcall_of mixed e39 hb rfl hl r39 (by rw [n39]; simp) ?_
    clear hb hl c
    (try simp only [push_cast, Nat.zero_lt_succ, Nat.reduceAdd, Nat.reduceBEq, Nat.reduceLeDiff, Int.reduceEq, hri, w1, w2, w3, w4, hd, s1, s2, s3])
    repeat' (first | ((((refine ret_frz rfl ?_ ?_ ?_ ?_; rotate_left 1; (((simp only [push_cast, Nat.reduceBEq] <;> fail "n"))); (((simp only [push_cast, Nat.reduceBEq] <;> fail "n"))); (((simp only [push_cast] <;> fail "n")))))) <;> (try simp only [push_cast, Nat.reduceBEq, *])) | refine And.intro ?_ ?_ | omega)
  · rw [if_neg (by omega)] at he
    have hd : decide ((fS f : Int) < 8) = false := by simp; omega
    clear hse hr0 hb
    generalize fS f = S at *
    generalize fN f = N at *
    subst he
    obtain ⟨n, z⟩ := f
    simp only at *
    obtain ⟨c, hb, hl⟩ := l39
    refine pcall_of mixed e39 hb rfl hl r39 (by rw [n39]; simp) ?_
    clear hb hl c
    (try simp only [push_cast, Nat.zero_lt_succ, Nat.reduceAdd, Nat.reduceBEq, Nat.reduceLeDiff, Int.reduceEq, hri, w1, w2, hd])
    repeat' ((((((refine ret_frz rfl ?_ ?_ ?_ ?_; rotate_left 1; (((simp only [push_cast, Nat.reduceBEq] <;> fail "n"))); (((simp only [push_cast, Nat.reduceBEq] <;> fail "n"))); (((simp only [push_cast] <;> fail "n")))))) <;> (try simp only [push_cast, Nat.reduceBEq, *]))))
end Go.Proofs.YtggmkfagcjdifaaDoor
