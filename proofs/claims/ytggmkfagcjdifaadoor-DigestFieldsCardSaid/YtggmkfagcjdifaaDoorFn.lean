/- Facts of the program over abstract values. No condition. -/
import Derived.Test.YtggmkfagcjdifaaDoorDg
import Derived.Test.YtggmkfagcjdifaaDoorFb
set_option maxRecDepth 8000
namespace Go.Proofs.YtggmkfagcjdifaaDoor
set_option linter.unusedSimpArgs false
set_option linter.unusedVariables false
set_option linter.unnecessarySimpa false
set_option linter.unusedSectionVars false
open Go.Proofs.Tryd
open Go.Proofs.YtggmkfagcjdifaaDoor.Ai
set_option maxHeartbeats 4000000
set_option linter.unusedVariables false
open Go.Proofs.YtggmkfagcjdifaaDoor.Sh hiding mixed

theorem val_be (n k : Nat) : val (be n k) = n % 256 ^ k := by
  induction k generalizing n with
  | zero => simp [be, val, Nat.mod_one]
  | succ k ih =>
    rw [be_succ, val_snoc, ih, ofNat_toNat, Nat.pow_succ, Nat.mul_comm (256 ^ k) 256, Nat.mod_mul]
    omega
theorem shr_zero {n s : Nat} (hs : s ≤ 8) (h : n < 256 ^ s) : (n : Int).fdiv (2 ^ min (8 * s) IntKind.u64.bits) = 0 := by
  rw [show min (8 * s) IntKind.u64.bits = 8 * s from Nat.min_eq_left (by show 8 * s ≤ 64; omega), Int.fdiv_eq_ediv_of_nonneg _ (Int.le_of_lt (Int.pow_pos (by omega))), shr_int, Nat.div_eq_of_lt h]
  rfl
theorem putUint_p (b : List UInt8) (n s : Nat) (hn : n < 18446744073709551616) (h1 : 1 ≤ s) (h8 : s ≤ 8) (hf : n < 256 ^ s) (hl : b.length + s ≤ 8192) : PCall prog 14 [bsV b, .int .u64 (n : Int), .int .i64 (s : Int)] (.tup [bsV (b ++ be n s), .int .i64 0]) := by
  have f1 : IntKind.i64.wrap (8 * (s : Int)) = 8 * (s : Int) := i64_id (by omega) (by omega)
  have f2 := shr_zero h8 hf
  have f3 : (8 * (s : Int)).toNat = 8 * s := by omega
  have f4 : IntKind.i64.wrap (8192 - (s : Int)) = 8192 - (s : Int) := i64_id (by omega) (by omega)
  have d1 : decide ((s : Int) < 1) = false := by simp; omega
  have d2 : decide ((8 : Int) < (s : Int)) = false := by simp; omega
  have d3 : decide ((8192 : Int) - (s : Int) < (b.length : Int)) = false := by simp; omega
  have c1 := join_r [b] (by simp <;> fail "n") (by simp; omega)
  simp only [List.flatten_cons, List.flatten_nil, List.append_nil] at c1
  have c2 := appUint_s b n s hn h8 (by omega)
  have hbl := be_length n s
  clear hl hf
  generalize b ++ be n s = B at *
  obtain ⟨c, hb, hl⟩ := l14
  refine pcall_of mixed e14 hb rfl hl r14 (by rw [n14]; simp) ?_
  clear hb hl c
  (try simp only [push_cast, Nat.zero_lt_succ, Nat.reduceAdd, Nat.reduceBEq, Nat.reducePow, Nat.reduceLeDiff, reduceCtorEq, f1, f2, f3, f4, d1, d2, d3])
  repeat' (first | ((first | (apply sc_r; (case h => (exact c1)); (case hc => ((simp only [push_cast] <;> fail "n")))) | (apply SCall.fA (fun _ => false); (case h => exact c2); (case hx => (try simp only [push_cast, argsCv]); (repeat' (first | exact cv_acc rfl | (refine bel_acc ?_; (omega)) | refine And.intro ?_ ?_))); (case hr => (try simp only [push_cast]); (repeat' (((refine rowsAll_acc0 ?_ ?_ ?_ ?_; (((simp only [push_cast] <;> fail "n"))); (((simp only [push_cast] <;> fail "n"))); (((simp only [push_cast] <;> fail "n"))); (((simp only [push_cast] <;> fail "n")))))))); (all_goals try exact 0); (case hinj => (((apply injK_of; (case h => repeat' (exact keysIn_acc0)); (case hi => unfold injK; (decide)))))); (case hlt => ((refine lt_one ?_; (simp [push_cast] <;> fail "n")))); (case hinj' => (((apply injK_of; (case h => repeat' (exact keysIn_acc0)); (case hi => unfold injK; ((simp [push_cast]; done)))))))) | (refine ret_frz rfl ?_ ?_ ?_ ?_; rotate_left 1; (((simp only [push_cast, Nat.reduceBEq] <;> fail "n"))); (((simp only [push_cast, Nat.reduceBEq] <;> fail "n"))); (((simp only [push_cast] <;> fail "n"))))) <;> (try simp only [push_cast, Nat.reduceSub, Nat.reduceAdd, Nat.reduceBEq, Nat.reduceLT, *])) | (refine cv_accF ?_ ?_ ?_ ?_; (((simp only [push_cast] <;> fail "n"))); (((simp only [push_cast] <;> fail "n"))); (((simp only [push_cast] <;> fail "n"))); (((simp only [push_cast] <;> fail "n")))) | refine And.intro ?_ ?_ | omega)
theorem takeBytes_p (b : List UInt8) (at_ n : Nat) (hl : b.length ≤ 8192) (ha : at_ + n ≤ b.length) : PCall prog 17 [bsV b, .int .i64 (at_ : Int), .int .i64 (n : Int)] (.tup [bsV ((b.drop at_).take n), .int .i64 ((at_ + n : Nat) : Int), .int .i64 0]) := by
  have f1 : IntKind.i64.wrap ((b.length : Int) - (at_ : Int)) = (b.length : Int) - (at_ : Int) := i64_id (by omega) (by omega)
  have f2 : IntKind.i64.wrap ((at_ : Int) + (n : Int)) = (at_ : Int) + (n : Int) := i64_id (by omega) (by omega)
  have f3 : ((at_ : Int) + (n : Int)).toNat = at_ + n := by omega
  have d2 : decide ((b.length : Int) < (at_ : Int)) = false := by simp; omega
  have d4 : decide ((b.length : Int) - (at_ : Int) < (n : Int)) = false := by simp; omega
  have c1 := join_p [(b.drop at_).take n] (by simp <;> fail "n") (by simp; omega)
  simp only [List.flatten_cons, List.flatten_nil, List.append_nil] at c1
  have e1 : List.take (at_ + n - at_) (List.drop at_ (b.map b1)) = ((b.drop at_).take n).map b1 := by rw [show at_ + n - at_ = n from by omega, ← List.map_drop, ← List.map_take]
  generalize (b.drop at_).take n = F at *
  obtain ⟨c, hb, hl⟩ := l17
  refine pcall_of mixed e17 hb rfl hl r17 (by rw [n17]; simp) ?_
  clear hb hl c
  (try simp only [push_cast, Nat.reduceAdd, Nat.reduceBEq])
  repeat' (first | ((first | refine brX_split ?_ ?_ | refine gX_split ?_ ?_) <;> (intro xc; (try simp only [Bool.not_eq_true', Bool.not_eq_false'] at xc); have xp := xc; (try simp only [decide_eq_true_eq, decide_eq_false_iff_not, Int.not_lt] at xp); have xq := xp; (first | simp only [← Int.not_le] at xq | simp only [← Int.not_lt] at xq)) <;> (try simp only [push_cast, Nat.zero_lt_succ, Nat.reduceAdd, Nat.reduceBEq, Nat.reducePow, Nat.reduceLeDiff, reduceCtorEq, *])) | ((first | (apply sc_p; (case h => (exact c1)); (case hc => ((simp only [push_cast] <;> fail "n")))) | (refine ret_frz rfl ?_ ?_ ?_ ?_; rotate_left 1; (((simp only [push_cast, Nat.reduceBEq] <;> fail "n"))); (((simp only [push_cast, Nat.reduceBEq] <;> fail "n"))); (((simp only [push_cast] <;> fail "n"))))) <;> (try simp only [push_cast, Nat.reduceAdd, Nat.reduceBEq, Int.reduceEq, *])) | refine And.intro ?_ ?_ | omega)
theorem takeShort_p (b : List UInt8) (at_ n : Nat) (hl : b.length ≤ 8192) (ha : at_ ≤ b.length) (hs : b.length < at_ + n) : PCall prog 17 [bsV b, .int .i64 (at_ : Int), .int .i64 (n : Int)] (.tup [bsV [], .int .i64 0, .int .i64 10]) := by
  have f1 : IntKind.i64.wrap ((b.length : Int) - (at_ : Int)) = (b.length : Int) - (at_ : Int) := i64_id (by omega) (by omega)
  have d2 : decide ((b.length : Int) < (at_ : Int)) = false := by simp; omega
  have d4 : decide ((b.length : Int) - (at_ : Int) < (n : Int)) = true := by simp; omega
  obtain ⟨c, hb, hl⟩ := l17
  refine pcall_of mixed e17 hb rfl hl r17 (by rw [n17]; simp) ?_
  clear hb hl c
  (try simp only [push_cast, Nat.reduceAdd, Nat.reduceBEq])
  repeat' (first | ((first | refine brX_split ?_ ?_ | refine gX_split ?_ ?_) <;> (intro xc; (try simp only [Bool.not_eq_true', Bool.not_eq_false'] at xc); have xp := xc; (try simp only [decide_eq_true_eq, decide_eq_false_iff_not, Int.not_lt] at xp); have xq := xp; (first | simp only [← Int.not_le] at xq | simp only [← Int.not_lt] at xq)) <;> (try simp only [push_cast, Nat.reduceAdd, Nat.reduceBEq, reduceCtorEq, *])) | ((((refine ret_frz rfl ?_ ?_ ?_ ?_; rotate_left 1; (((simp only [push_cast, Nat.reduceBEq] <;> fail "n"))); (((simp only [push_cast, Nat.reduceBEq] <;> fail "n"))); (((simp only [push_cast] <;> fail "n")))))) <;> (try simp only [push_cast, Nat.reduceBEq, Int.reduceEq, *])) | omega)
theorem takeUint_p (b : List UInt8) (at_ s : Nat) (hl : b.length ≤ 8192) (h1 : 1 ≤ s) (h8 : s ≤ 8) (ha : at_ + s ≤ b.length) : PCall prog 16 [bsV b, .int .i64 (at_ : Int), .int .i64 (s : Int)] (.tup [.int .u64 (val ((b.drop at_).take s) : Int), .int .i64 ((at_ + s : Nat) : Int), .int .i64 0]) := by
  have d1 : decide ((s : Int) < 1) = false := by simp; omega
  have d2 : decide ((8 : Int) < (s : Int)) = false := by simp; omega
  have c1 := takeBytes_p b at_ s hl ha
  have hFl : ((b.drop at_).take s).length = s := by rw [List.length_take, List.length_drop]; omega
  generalize (b.drop at_).take s = F at *
  generalize at_ + s = nx at *
  obtain ⟨c, hb, hl⟩ := l16
  refine pcall_of mixed e16 hb rfl hl r16 (by rw [n16]; simp) ?_
  clear hb hl c
  (try simp only [push_cast, Nat.reduceAdd, Nat.reduceBEq, reduceCtorEq, d1, d2])
  repeat' ((((((apply sc_p; (case h => (exact c1)); (case hc => ((simp only [push_cast] <;> fail "n")))))) <;> (try simp only [push_cast, Nat.zero_lt_succ, Nat.reduceAdd, Nat.reduceBEq, Nat.reduceLT, *]))))
  refine w_loopS (fun k : Nat => ([(6, .int .u64 (val (F.take k) : Int)), (7, .int .i64 (nx : Int)), (29, bsV F), (30, .int .i64 F.length), (31, .int .i64 k)], ⟨0, []⟩)) (fun k => k ≤ F.length) (fun k => F.length - k) 0 (Nat.zero_le _) ?_ ?_
  · simp only [List.take_zero, val_nil]
    (apply Wk.renA (fun _ => false); (case he => (try simp only [push_cast, Nat.reduceBEq]); (repeat' (first | (refine cv_ros_self ?_; (((simp only [push_cast] <;> fail "n")))) | refine And.intro ?_ ?_ | omega))); (case hr => (try simp only [push_cast]); (skip)); (all_goals try exact 0); (case hinj => (((simp; done)))))
  intro k hk
  rcases Nat.lt_or_ge k F.length with hk' | hk'
  · have hd := dlt hk'
    have hw := inc64 (k := k) (by omega)
    obtain ⟨x, hx⟩ := lt_get hk'
    have hg := getD_map (enc := b1) hx
    have hv := val_lt7 (l := F.take k) (by rw [List.length_take]; omega)
    have hs : (val (F.take (k + 1)) : Int) = 256 * (val (F.take k) : Int) + (x.toNat : Int) := by rw [take_snoc hx, val_snoc]; simp
    have ho := or_byte (val (F.take k)) x hv
    have hx8 := x.toNat_lt
    have h1 : IntKind.u64.wrap ((val (F.take k) : Int) * 2 ^ min 8 IntKind.u64.bits) = (val (F.take k) : Int) * 256 := by rw [IntKind.wrap_u64, show min 8 IntKind.u64.bits = 8 from rfl]; omega
    have h2 : IntKind.u64.wrap (x.toNat : Int) = (x.toNat : Int) := by rw [IntKind.wrap_u64]; omega
    clear hFl
    generalize val (F.take k) = v at *
    (try simp only [push_cast, Int.reduceAdd, Nat.reduceAdd, Nat.reduceBEq, Int.reduceLE, Int.reduceToNat, hd, hw, hg, h1, h2, ho])
    repeat' (first | refine And.intro ?_ ?_ | omega)
    all_goals (refine rnd_to _ _ _ (k + 1) hk' (by (omega)) ?_; (try simp only [hs]); (apply Wk.renA (fun _ => false); (case he => (try simp only [push_cast, Nat.reduceBEq]); (repeat' (((refine cv_ros_self ?_; (((simp only [push_cast] <;> fail "n")))))))); (case hr => (try simp only [push_cast]); (skip)); (all_goals try exact 0); (case hinj => (((simp; done))))))
  · obtain rfl : k = F.length := by omega
    have hd := dge (Nat.le_refl F.length)
    simp only [List.take_length]
    clear hFl
    (try simp only [push_cast, Nat.reduceAdd, Nat.reduceBEq, hd])
    repeat' ((((((refine ret_frz rfl ?_ ?_ ?_ ?_; rotate_left 1; (((simp only [push_cast, Nat.reduceBEq] <;> fail "n"))); (((simp only [push_cast, Nat.reduceBEq] <;> fail "n"))); (((simp only [push_cast] <;> fail "n")))))) <;> (try simp only [push_cast, Nat.reduceBEq, *]))))
theorem takeUintShort_p (b : List UInt8) (at_ s : Nat) (hl : b.length ≤ 8192) (h1 : 1 ≤ s) (h8 : s ≤ 8) (ha : at_ ≤ b.length) (hs : b.length < at_ + s) : PCall prog 16 [bsV b, .int .i64 (at_ : Int), .int .i64 (s : Int)] (.tup [.int .u64 0, .int .i64 0, .int .i64 10]) := by
  have d1 : decide ((s : Int) < 1) = false := by simp; omega
  have d2 : decide ((8 : Int) < (s : Int)) = false := by simp; omega
  have c1 := takeShort_p b at_ s hl ha hs
  obtain ⟨c, hb, hl⟩ := l16
  refine pcall_of mixed e16 hb rfl hl r16 (by rw [n16]; simp) ?_
  clear hb hl c
  (try simp only [push_cast, Nat.reduceAdd, Nat.reduceBEq, reduceCtorEq, d1, d2])
  repeat' ((((first | (apply sc_p; (case h => (exact c1)); (case hc => ((simp only [push_cast] <;> fail "n")))) | (refine ret_frz rfl ?_ ?_ ?_ ?_; rotate_left 1; (((simp only [push_cast, Nat.reduceBEq] <;> fail "n"))); (((simp only [push_cast, Nat.reduceBEq] <;> fail "n"))); (((simp only [push_cast] <;> fail "n"))))) <;> (try simp only [push_cast, Nat.zero_lt_succ, Nat.reduceAdd, Nat.reduceBEq, Nat.reduceLT, Int.reduceEq, *]))))
end Go.Proofs.YtggmkfagcjdifaaDoor
