/- Facts of the program over abstract values. No condition. -/
import Derived.Test.YtggmkfagcjdifaaDoorDd
import Derived.Test.YtggmkfagcjdifaaDoorShB
set_option maxRecDepth 8000
namespace Go.Proofs.YtggmkfagcjdifaaDoor
set_option linter.unusedSimpArgs false
set_option linter.unusedVariables false
set_option linter.unnecessarySimpa false
set_option linter.unusedSectionVars false
open Go.Proofs.Tryd
open Go.Proofs.YtggmkfagcjdifaaDoor.Ai
set_option maxHeartbeats 4000000
set_option linter.unusedVariables false
open Go.Proofs.YtggmkfagcjdifaaDoor.Sh hiding mixed
attribute [local push_cast] stc_cl stc_one

abbrev b1 (b : UInt8) : List AV := [.int .u8 (b.toNat : Int)]
abbrev bsV (l : List UInt8) : AV := .ros 1 (l.map b1)
theorem flat_b1 (l : List UInt8) : (l.map b1).flatten = l.map u8c := by
  induction l with
  | nil => rfl
  | cons x l ih => simp only [List.map_cons, List.flatten_cons, ih]; rfl
theorem take_b1 (l : List UInt8) (n : Nat) : ((l.map b1).take n).flatten = (l.take n).map u8c := by rw [← List.map_take, flat_b1]
abbrev zs10 : List AV := [.int .u32 0, .int .u32 0, .int .u32 0, .int .u32 0, .int .u32 0, .int .u32 0, .int .u32 0, .int .u32 0, .nils, .int .u64 0]
def hc (s : Sh.St) (t : AV) (n : Int) : List AV := [u32 s.a, u32 s.b, u32 s.c, u32 s.d, u32 s.e, u32 s.f, u32 s.g, u32 s.h, t, .int .u64 n]
theorem start_p : PCall prog 24 [] (.agg (hc iv .nils 0)) := by
  have h1 := fsT_eq
  have h2 : stc ⟨1779033703, 3144134277, 1013904242, 2773480762, 1359893119, 2600822924, 528734635, 1541459225⟩ = stc iv := rfl
  rw [h2] at h1
  obtain ⟨c, hb, hl⟩ := l24
  refine pcall_of mixed e24 hb rfl hl r24 (by rw [n24]; simp) ?_
  clear hb hl c
  (try simp only [push_cast, Nat.zero_lt_succ, Nat.reduceAdd, Nat.reduceBEq, Nat.reduceLeDiff, h1, stc, hc])
  repeat' (first | ((((refine ret_frz rfl ?_ ?_ ?_ ?_; rotate_left 1; (((simp only [push_cast, Nat.reduceAdd] <;> fail "n"))); (((simp only [push_cast] <;> fail "n"))); (((simp only [push_cast] <;> fail "n")))))) <;> (try simp only [push_cast, Nat.reduceBEq, *])) | ((refine cv_ptE rfl rfl rfl rfl rfl ?_) <;> (try simp only [push_cast, Nat.reduceAdd])))
def chkH (len : Nat) (n : Int) : Int := bif decide (n > 8192) || (IntKind.u64.wrap (len : Int) != n.tmod 64) then 8 else 0
theorem check_p (s : Sh.St) (t : List UInt8) (n : Int) : PCall prog 26 [.agg (hc s (bsV t) n)] (.int .i64 (chkH t.length n)) := by
  obtain ⟨c, hb, hl⟩ := l26
  refine pcall_of mixed e26 hb rfl hl r26 (by rw [n26]; simp) ?_
  clear hb hl c
  (try simp only [push_cast, Nat.zero_lt_succ, Nat.reduceAdd, Nat.reduceBEq, hc])
  repeat' (first | ((first | refine brX_split ?_ ?_ | refine gX_split ?_ ?_) <;> (intro xc; (try simp only [Bool.not_eq_true', Bool.not_eq_false'] at xc); have xp := xc; (try simp only [decide_eq_true_eq, decide_eq_false_iff_not, Int.not_lt, gt_iff_lt] at xp); have xq := xp; (first | simp only [← Int.not_le] at xq | simp only [← Int.not_lt] at xq | clear xq)) <;> (try simp only [push_cast, Nat.zero_lt_succ, Nat.reduceAdd, Nat.reduceBEq, Nat.reduceLeDiff, reduceCtorEq, Int.reduceEq, *])) | ((((refine ret_frz rfl ?_ ?_ ?_ ?_; rotate_left 1; (((simp only [push_cast] <;> fail "n"))); (((simp only [push_cast] <;> fail "n"))); (((simp only [push_cast] <;> fail "n")))))) <;> (try simp only [push_cast, Nat.reduceBEq, *])))
  all_goals (try simp only [push_cast, chkH])
  all_goals (((simp [*]; done)))
theorem absorb_p (s : Sh.St) (hs : s.ok) (l : List UInt8) (hl : l.length < 2 ^ 40) : PCall prog 45 [.agg (stc s), bsV l] (.tup [.agg (stc (absorbed s l (l.length / 64))), bsV (l.drop (64 * (l.length / 64)))]) := by
  obtain ⟨N, hN⟩ : ∃ N, N = l.length / 64 := ⟨_, rfl⟩
  rw [← hN]
  have hst : stc s = (stL s).map u32 := rfl
  have ht8 : ∀ x, List.take 8 (stc x) = stc x := fun x => rfl
  have hl8 : ∀ x, (stc x).length = 8 := fun x => rfl
  obtain ⟨c, hb, hl⟩ := l45
  refine pcall_of mixed e45 hb rfl hl r45 (by rw [n45]; simp) ?_
  clear hb hl c
  (try simp only [push_cast, Nat.reduceAdd, Nat.reduceBEq, hl8])
  refine w_loopS (fun k : Nat => ([(1, bsV (l.drop (64 * k))), (2, .pt 0 8 0 0), (4, .pt 1 8 0 0)], ⟨2, [(0, ⟨8, [stc (absorbed s l k)]⟩), (1, ⟨8, [zs8]⟩)]⟩)) (fun k => 64 * k ≤ l.length) (fun k => l.length - 64 * k) 0 (by omega) ?_ ?_
  · have h0 : absorbed s l 0 = s := rfl
    simp only [h0, zs8, Nat.mul_zero, List.drop_zero]
    (apply Wk.renA (fun _ => false); (case he => (try simp only [push_cast, Nat.reduceBEq]); (repeat' (first | (refine cv_ros_self ?_; (((simp only [push_cast] <;> fail "n")))) | refine And.intro ?_ ?_ | rfl | omega))); (case hr => (try simp only [push_cast, Nat.reduceBEq]); (repeat' (first | (refine cellsCv_eq ?_ ?_; (simp <;> fail "n"); (((simp only [push_cast] <;> fail "n")))) | refine And.intro ?_ ?_ | omega))); (all_goals try exact 0); (case hinj => (((simp [rhoA_0, rhoA_1]; done)))))
  intro k hk
  have hdl : (l.drop (64 * k)).length = l.length - 64 * k := by simp
  rcases Nat.lt_or_ge (l.length - 64 * k) 64 with h64 | h64
  · obtain rfl : k = N := by omega
    have hd : decide ((64 : Int) ≤ ((l.drop (64 * k)).length : Int)) = false := by simp only [decide_eq_false_iff_not]; omega
    (try simp only [push_cast, Nat.zero_lt_succ, Nat.reduceAdd, Nat.reduceBEq, hd, hl8, ht8])
    repeat' (first | ((((refine ret_frz rfl ?_ ?_ ?_ ?_; rotate_left 1; (((simp only [push_cast, Nat.reduceBEq, hl8] <;> fail "n"))); (((simp only [push_cast, Nat.reduceBEq, ht8] <;> fail "n"))); (((simp only [push_cast] <;> fail "n")))))) <;> (try simp only [push_cast, Nat.reduceBEq, *])) | ((refine cv_ptE rfl rfl rfl rfl rfl ?_) <;> (try simp only [push_cast, hl8, ht8])) | (refine all2_cl ?_; (((simp only [push_cast] <;> fail "n")))))
  · have hd : decide ((64 : Int) ≤ ((l.drop (64 * k)).length : Int)) = true := by simp only [decide_eq_true_eq]; omega
    have hstep : absorbed s l (k + 1) = Sh.compress (absorbed s l k) ((l.drop (64 * k)).take 64) := rfl
    have hdd : l.drop (64 * (k + 1)) = (l.drop (64 * k)).drop 64 := by rw [List.drop_drop]; congr 1
    have hok := absorbed_ok hs l k
    generalize hD : l.drop (64 * k) = D at *
    have hD64 : 64 ≤ D.length := by omega
    have hd8 : ∀ x, List.drop 8 (stc x) = [] := fun x => rfl
    have htl : List.take (D.length - 64) (List.drop 64 (D.map b1)) = (D.drop 64).map b1 := by rw [← List.map_drop, List.take_of_length_le (by simp <;> fail "n")]
    have htl2 : (Int.toNat (D.length : Int) - 64) = D.length - 64 := by omega
    have ht : List.take 64 (D.map b1) = (D.take 64).map b1 := by rw [List.map_take]
    have hf := take_b1 D 64
    have hlt : (D.take 64).length = 64 := by rw [List.length_take]; omega
    have hmn : min D.length 64 = 64 := by omega
    have hdr : List.drop 64 (rep 64 (.int .u8 0)) = [] := List.drop_of_length_le (by rw [rep_len]; omega)
    have c := comp_p (absorbed s l k) hok (D.take 64) hlt
    rw [← hstep] at c
    have htb : List.take 64 ((D.take 64).map u8c) = (D.take 64).map u8c := List.take_of_length_le (by simp; omega)
    clear hstep hdl hD
    (try simp only [push_cast, Nat.reduceSub, Int.reduceAdd, Nat.zero_lt_succ, Nat.reduceAdd, Nat.reduceBEq, Int.reduceLE, Int.reduceToNat, hd, hl8, ht8, hf, hmn, hdr, hlt, htb])
    repeat' (first | ((((apply sc_p; (case h => (exact c)); (case hc => ((simp only [push_cast] <;> fail "n")))))) <;> (try simp only [push_cast, Nat.zero_lt_succ, Nat.reduceAdd, Nat.reduceBEq, Int.reduceLE, Int.reduceToNat, *])) | refine And.intro ?_ ?_ | omega)
    all_goals (refine rnd_to _ _ _ (k + 1) (by show 64 * (k + 1) ≤ l.length; omega) (by (omega)) ?_; (try simp only [hdd, bsV]); (apply Wk.renA (fun _ => false); (case he => (try simp only [push_cast, Nat.reduceBEq]); (repeat' (first | (refine cv_ros_self ?_; (((simp only [push_cast] <;> fail "n")))) | refine And.intro ?_ ?_ | rfl | omega))); (case hr => (try simp only [push_cast, Nat.reduceBEq]); (repeat' (first | (refine cellsCv_eq ?_ ?_; (simp <;> fail "n"); (((simp only [push_cast] <;> fail "n")))) | refine And.intro ?_ ?_ | omega))); (all_goals try exact 0); (case hinj => (((simp [rhoA_0, rhoA_1]; done))))))
end Go.Proofs.YtggmkfagcjdifaaDoor
