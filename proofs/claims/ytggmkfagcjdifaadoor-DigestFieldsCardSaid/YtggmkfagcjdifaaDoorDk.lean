/- Facts of the program over abstract values. No condition. -/
import Derived.Test.YtggmkfagcjdifaaDoorDj
set_option maxRecDepth 8000
namespace Go.Proofs.YtggmkfagcjdifaaDoor
set_option linter.unusedSimpArgs false
set_option linter.unusedVariables false
set_option linter.unnecessarySimpa false
set_option linter.unusedSectionVars false
open Go.Proofs.Tryd
open Go.Proofs.YtggmkfagcjdifaaDoor.Ai
set_option maxHeartbeats 4000000
set_option linter.unusedVariables false
open Go.Proofs.YtggmkfagcjdifaaDoor.Sh hiding mixed
attribute [local push_cast] stc_cl stc_one

def tagS (key b : List UInt8) : AV := bif decide ((key.length : Int) < 1) || decide ((key.length : Int) > 64) then .tup [.agg z32, .int .i64 2] else bif decide ((b.length : Int) > 8128) then .tup [.agg z32, .int .i64 4] else .tup [.agg ((tagB key b).map u8c), .int .i64 0]
theorem tag_p (key b : List UInt8) (hk : key.length < 2 ^ 48) (hl : b.length < 2 ^ 48) : PCall prog 22 [bsV key, bsV b] (tagS key b) := by
  have hdr : List.drop 32 (rep 32 (.int .u8 0)) = [] := List.drop_of_length_le (by rw [rep_len]; omega)
  have htz : List.take 32 (rep 32 (AV.int .u8 0)) = rep 32 (AV.int .u8 0) := List.take_of_length_le (by rw [rep_len]; omega)
  simp only [tagS]
  by_cases h1 : (key.length : Int) < 1
  · have hd : decide ((key.length : Int) < 1) = true := by simpa using h1
    simp only [hd, Bool.true_or, cond_true]
    obtain ⟨c, hb, hl⟩ := l22
    refine pcall_of mixed e22 hb rfl hl r22 (by rw [n22]; simp) ?_
    clear hb hl c
    (try simp only [push_cast, Nat.zero_lt_succ, Nat.reduceAdd, Nat.reduceBEq, reduceCtorEq, hd, hdr])
    repeat' (first | ((((refine ret_frz rfl ?_ ?_ ?_ ?_; rotate_left 1; (((simp only [push_cast, Nat.reduceBEq] <;> fail "n"))); (((simp only [push_cast, Nat.reduceBEq, htz] <;> fail "n"))); (((simp [push_cast] <;> fail "n")))))) <;> (try simp only [push_cast, Nat.reduceBEq, reduceCtorEq, *])) | ((((refine cv_ptE rfl rfl rfl ?_ ?_ ?_; (simp <;> fail "n"); (((simp only [push_cast] <;> fail "n"))); rotate_left 1))) <;> (try simp only [push_cast, htz])) | (refine all2_cl ?_; (((simp [push_cast] <;> fail "n")))))
  by_cases h2 : (key.length : Int) > 64
  · have hd : decide ((key.length : Int) < 1) = false := by simpa using h1
    have hd2 : decide ((key.length : Int) > 64) = true := by simpa using h2
    simp only [hd, hd2, Bool.false_or, cond_true]
    obtain ⟨c, hb, hl⟩ := l22
    refine pcall_of mixed e22 hb rfl hl r22 (by rw [n22]; simp) ?_
    clear hb hl c
    (try simp only [push_cast, Nat.zero_lt_succ, Nat.reduceAdd, Nat.reduceBEq, reduceCtorEq, hd, hd2, hdr])
    repeat' (first | ((((refine ret_frz rfl ?_ ?_ ?_ ?_; rotate_left 1; (((simp only [push_cast, Nat.reduceBEq] <;> fail "n"))); (((simp only [push_cast, Nat.reduceBEq, htz] <;> fail "n"))); (((simp [push_cast] <;> fail "n")))))) <;> (try simp only [push_cast, Nat.reduceBEq, reduceCtorEq, *])) | ((((refine cv_ptE rfl rfl rfl ?_ ?_ ?_; (simp <;> fail "n"); (((simp only [push_cast] <;> fail "n"))); rotate_left 1))) <;> (try simp only [push_cast, htz])) | (refine all2_cl ?_; (((simp [push_cast] <;> fail "n")))))
  have hd : decide ((key.length : Int) < 1) = false := by simpa using h1
  have hd2 : decide ((key.length : Int) > 64) = false := by simpa using h2
  simp only [hd, hd2, Bool.or_self, cond_false]
  have c1 := keyed_p key 54 b (by omega) hl
  simp only [keyS] at c1
  by_cases h3 : (b.length : Int) > 8128
  · have hd3 : decide ((b.length : Int) > 8128) = true := by simpa using h3
    simp only [hd3, cond_true] at c1 ⊢
    obtain ⟨c, hb, hl⟩ := l22
    refine pcall_of mixed e22 hb rfl hl r22 (by rw [n22]; simp) ?_
    clear hb hl c
    (try simp only [push_cast, Nat.reduceAdd, Nat.reduceBEq, reduceCtorEq, hd, hd2])
    repeat' (first | ((first | (apply sc_p; (case h => (exact c1)); (case hc => ((simp only [push_cast] <;> fail "n")))) | (refine ret_frz rfl ?_ ?_ ?_ ?_; rotate_left 1; (((simp only [push_cast, Nat.reduceBEq] <;> fail "n"))); (((simp only [push_cast, Nat.reduceBEq, htz] <;> fail "n"))); (((simp [push_cast] <;> fail "n"))))) <;> (try simp only [push_cast, Nat.zero_lt_succ, Nat.reduceAdd, Nat.reduceBEq, reduceCtorEq, Int.reduceEq, *])) | ((((refine cv_ptE rfl rfl rfl ?_ ?_ ?_; (simp <;> fail "n"); (((simp only [push_cast] <;> fail "n"))); rotate_left 1))) <;> (try simp only [push_cast, htz])) | (refine all2_cl ?_; (((simp [push_cast] <;> fail "n")))))
  have hd3 : decide ((b.length : Int) > 8128) = false := by simpa using h3
  simp only [hd3, cond_false, tagB] at c1 ⊢
  have hl2 := keyedB_length ((key64 key).map (· ^^^ 54)) b
  generalize keyedB ((key64 key).map (· ^^^ 54)) b = inn at *
  have c2 := keyed_p key 92 inn (by omega) (by omega)
  have hd4 : decide ((inn.length : Int) > 8128) = false := by rw [hl2]; rfl
  simp only [keyS, hd4, cond_false] at c2
  have hl3 := keyedB_length ((key64 key).map (· ^^^ 92)) inn
  generalize keyedB ((key64 key).map (· ^^^ 92)) inn = out at *
  have ht1 : List.take 32 (inn.map u8c) = inn.map u8c := List.take_of_length_le (by simp; omega)
  have ht2 : List.take 32 (out.map u8c) = out.map u8c := List.take_of_length_le (by simp; omega)
  have hf : List.map (fun c => [c]) (inn.map u8c) = inn.map b1 := (flat1 _).symm
  obtain ⟨c, hb, hl⟩ := l22
  refine pcall_of mixed e22 hb rfl hl r22 (by rw [n22]; simp) ?_
  clear hb hl c
  (try simp only [push_cast, Nat.reduceAdd, Nat.reduceBEq, reduceCtorEq, hd, hd2])
  repeat' (first | ((first | (apply sc_p; (case h => (exact c1)); (case hc => ((simp only [push_cast] <;> fail "n")))) | (apply sc_pz; (case h => exact c2); (case hx => ((try simp only [all2_cons, all2_nil, frzArg, push_cast]); repeat' (first | (refine cv_slY rfl rfl rfl ?_ ?_ ?_; (((simp only [push_cast, hl2] <;> fail "n"))); (((simp only [push_cast, hf] <;> fail "n"))); (((simp only [push_cast] <;> fail "n")))) | refine And.intro ?_ ?_ | rfl))); (case hv => ((simp only [push_cast] <;> fail "n")))) | (refine ret_frz rfl ?_ ?_ ?_ ?_; rotate_left 1; (((simp only [push_cast, Nat.reduceBEq, hl3] <;> fail "n"))); (((simp only [push_cast, Nat.reduceBEq, ht2] <;> fail "n"))); (((simp only [push_cast] <;> fail "n"))))) <;> (try simp only [push_cast, Nat.reduceSub, Int.reduceAdd, Nat.zero_lt_succ, Nat.reduceAdd, Nat.reduceBEq, Int.reduceLE, Int.reduceToNat, *])) | ((((refine cv_ptE rfl rfl rfl ?_ ?_ ?_; (simp <;> fail "n"); (((simp only [push_cast, hl3] <;> fail "n"))); rotate_left 1))) <;> (try simp only [push_cast, ht2, hl3])) | (refine all2_cl ?_; (((simp only [push_cast] <;> fail "n")))))
end Go.Proofs.YtggmkfagcjdifaaDoor
