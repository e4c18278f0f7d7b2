/- Facts of the program over abstract values. No condition. -/
import Derived.Test.YtggmkfagcjdifaaDoorDi
set_option maxRecDepth 8000
namespace Go.Proofs.YtggmkfagcjdifaaDoor
set_option linter.unusedSimpArgs false
set_option linter.unusedVariables false
set_option linter.unnecessarySimpa false
set_option linter.unusedSectionVars false
open Go.Proofs.Tryd
open Go.Proofs.YtggmkfagcjdifaaDoor.Ai
set_option maxHeartbeats 4000000
set_option linter.unusedVariables false
open Go.Proofs.YtggmkfagcjdifaaDoor.Sh hiding mixed
attribute [local push_cast] stc_cl stc_one

theorem flat1 (X : List UInt8) : X.map b1 = (X.map u8c).map fun c => [c] := by rw [List.map_map]; rfl
def keyS (X b : List UInt8) : AV := bif decide ((b.length : Int) > 8128) then .tup [.agg z32, .int .i64 4] else .tup [.agg ((keyedB X b).map u8c), .int .i64 0]
theorem keyed_p (key : List UInt8) (p : UInt8) (b : List UInt8) (h0 : key.length ≤ 64) (hl : b.length < 2 ^ 48) : PCall prog 44 [bsV key, u8c p, bsV b] (keyS ((key64 key).map (· ^^^ p)) b) := by
  obtain ⟨X, hX⟩ : ∃ X, X = key64 key := ⟨_, rfl⟩
  have hXl : X.length = 64 := by rw [hX]; exact key64_length h0
  have hm : min key.length 64 = key.length := by omega
  have ht : List.take key.length (key.map b1) = key.map b1 := List.take_of_length_le (by simp <;> fail "n")
  have hcp : key.map u8c ++ List.drop key.length (rep 64 (.int .u8 0)) = X.map u8c := by
    rw [hX, key64, List.map_append, List.map_replicate, show rep 64 (AV.int .u8 0) = List.replicate 64 (u8c 0) from by unfold rep; rfl, List.drop_replicate]
  have hf := flat_b1 key
  simp only [← hX]
  clear hX
  have c1 := start_p
  have hl1 : (X.map (· ^^^ p)).length = 64 := by simp [hXl]
  have c2 := write_p0 (X.map (· ^^^ p)) (by omega)
  have hz : decide (((X.map (· ^^^ p)).length : Int) > 8192 - ((HS.start.n : Nat) : Int)) = false := by rw [hl1]; decide
  simp only [wrS, hz, cond_false] at c2
  have hok := HS.ok.start.write (b := X.map (· ^^^ p)) (by rw [hl1]; decide)
  have hn : (HS.start.write (X.map (· ^^^ p))).n = 64 := by show 0 + _ = 64; rw [hl1]
  have c3 := write_p (HS.start.write (X.map (· ^^^ p))) hok b hl
  have c4 := fun hb => finish_p ((HS.start.write (X.map (· ^^^ p))).write b) (hok.write (b := b) (by rw [hn]; exact hb))
  simp only [wrS, hn, show (8192 : Int) - ((64 : Nat) : Int) = 8128 from rfl] at c3
  simp only [keyS, keyedB]
  generalize HS.start.write (X.map (· ^^^ p)) = h1 at *
  have hh2 := HS.finish_length (h1.write b)
  generalize h1.write b = h2 at *
  have ht2 : List.take 32 (h2.finish.map u8c) = h2.finish.map u8c := List.take_of_length_le (by simp; omega)
  have hdr : List.drop 32 (rep 32 (.int .u8 0)) = [] := List.drop_of_length_le (by rw [rep_len]; omega)
  have htz : List.take 32 (rep 32 (AV.int .u8 0)) = rep 32 (AV.int .u8 0) := List.take_of_length_le (by rw [rep_len]; omega)
  obtain ⟨c, hb, hl⟩ := l44
  refine pcall_of mixed e44 hb rfl hl r44 (by rw [n44]; simp) ?_
  clear hb hl c
  (try simp only [push_cast, Nat.reduceSub, Int.reduceAdd, Nat.zero_lt_succ, Nat.reduceAdd, Nat.reduceBEq, Int.reduceLE, Int.reduceToNat, hm, ht, hcp, hf])
  refine w_loopS (fun k : Nat => bif decide (k < 64) then ([(1, u8c p), (2, bsV b), (6, .pt 1 32 0 0), (8, .pt 0 64 0 0), (15, .int .i64 k)], ⟨2, [(0, ⟨64, [(xr X p k).map u8c]⟩), (1, ⟨32, [z32]⟩)]⟩)
    else ([(2, bsV b), (6, .pt 0 32 0 0), (8, .rop ((X.map (· ^^^ p)).map u8c)), (15, .int .i64 64)], ⟨1, [(0, ⟨32, [z32]⟩)]⟩)) (fun k => k ≤ 64) (fun k => 64 - k) 0 (Nat.zero_le _) ?_ ?_
  · simp only [Nat.zero_lt_succ, decide_true, cond_true, xr_zero]
    (apply Wk.renA (fun _ => false); (case he => (try simp only [push_cast, Nat.reduceBEq]); (repeat' (first | (refine cv_ros_self ?_; (((simp only [push_cast] <;> fail "n")))) | refine And.intro ?_ ?_ | rfl | omega))); (case hr => (try simp only [push_cast, Nat.reduceBEq]); (repeat' (first | (refine cellsCv_eq ?_ ?_; (simp <;> fail "n"); (first | (simp only [push_cast] <;> fail "n") | (simp [push_cast] <;> fail "n"))) | refine And.intro ?_ ?_ | omega))); (all_goals try exact 0); (case hinj => (((simp [rhoA_0, rhoA_1]; done)))))
  intro k hk
  rcases Nat.lt_or_ge k 64 with hk' | hk'
  · have hdk : decide (k < 64) = true := by simpa using hk'
    simp only [hdk, cond_true]
    have hd := dltL (k := k) (n := 64) (by omega)
    have hw := inc64 (k := k) (by omega)
    obtain ⟨x, hx⟩ := lt_get (xs := X) (k := k) (by omega)
    have hxr := xr_at X p hx
    have h1' := ld_at (f := u8c) hxr
    have hxb := xor_byte x p
    have hs := st_at' (f := u8c) (ws := xr X p k) (j := k) (v := u8c (x ^^^ p)) (by rw [xr_length]; omega) _ rfl
    rw [xr_set X p hx] at hs
    (try simp only [push_cast, Int.reduceAdd, Nat.zero_lt_succ, Nat.reduceAdd, Nat.reduceBEq, Nat.reduceLeDiff, hd, hw, h1', hxb, hs])
    repeat' (first | refine And.intro ?_ ?_ | omega)
    rcases Nat.lt_or_ge (k + 1) 64 with hk1 | hk1
    · have hdk : decide (k + 1 < 64) = true := by simpa using hk1
      all_goals (refine rnd_to _ _ _ (k + 1) hk' (by (omega)) ?_; (try simp only [hdk, cond_true]); (apply Wk.renA (fun _ => false); (case he => (try simp only [push_cast, Nat.reduceBEq]); (repeat' (first | (refine cv_ros_self ?_; (((simp only [push_cast] <;> fail "n")))) | refine And.intro ?_ ?_ | rfl | omega))); (case hr => (try simp only [push_cast, Nat.reduceBEq]); (repeat' (first | (refine cellsCv_eq ?_ ?_; (simp <;> fail "n"); (first | (simp only [push_cast] <;> fail "n") | (simp [push_cast] <;> fail "n"))) | refine And.intro ?_ ?_ | omega))); (all_goals try exact 0); (case hinj => (((simp [rhoA_0, rhoA_1]; done))))))
    · have hdk : decide (k + 1 < 64) = false := by simpa using hk1
      have hfull := xr_full X p (i := k + 1) (by omega)
      obtain rfl : k = 63 := by omega
      simp only [Nat.reduceAdd] at hfull hdk ⊢
      all_goals (refine rnd_to _ _ _ (63 + 1) hk' (by (omega)) ?_; (try simp only [Nat.reduceAdd, hdk, cond_false, hfull]); (apply Wk.renA (fun i => i == 0); (case he => (try simp only [push_cast, Nat.reduceBEq]); (repeat' (first | (refine cv_ptE rfl rfl rfl (by simp <;> fail "n") (by ((simp; omega))) ?_; simp only [push_cast]) | (refine cv_ros_self ?_; (((simp only [push_cast] <;> fail "n")))) | (refine all2_takeC ?_ ?_; (((simp <;> fail "n"))); (((simp only [push_cast] <;> fail "n")))) | refine And.intro ?_ ?_ | rfl))); (case hr => (try simp only [push_cast, Nat.reduceBEq]); (repeat' (((refine cellsCv_eq ?_ ?_; (simp <;> fail "n"); (((simp [push_cast] <;> fail "n")))))))); (all_goals try exact 0); (case hinj => (((simp [rhoA_0]; done))))))
  · obtain rfl : k = 64 := by omega
    simp only [Nat.lt_irrefl, decide_false, cond_false]
    have hz1 : List.take 64 ((X.map (· ^^^ p)).map u8c) = (X.map (· ^^^ p)).map u8c := List.take_of_length_le (by simp; omega)
    have f2 : List.map (fun c => [c]) ((X.map (· ^^^ p)).map u8c) = (X.map (· ^^^ p)).map b1 := (flat1 _).symm
    by_cases hb : (b.length : Int) > 8128
    · have hd : decide ((b.length : Int) > 8128) = true := by simpa using hb
      simp only [hd, cond_true] at c3 ⊢
      (try simp only [push_cast, Nat.reduceSub, Nat.zero_lt_succ, Nat.reduceAdd, Nat.reduceBEq, Int.reduceLT])
      repeat' (first | ((first | (apply sc_p; (case h => (exact c3)); (case hc => ((simp only [push_cast] <;> fail "n")))) | (apply cd_p; (case h => first | exact c1 | exact c2); (case hc => ((simp only [push_cast] <;> fail "n")))) | (refine ret_frz rfl ?_ ?_ ?_ ?_; rotate_left 1; (((simp only [push_cast, Nat.reduceBEq] <;> fail "n"))); (((simp only [push_cast, Nat.reduceBEq, htz] <;> fail "n"))); (((simp [push_cast] <;> fail "n"))))) <;> (try simp only [push_cast, Nat.reduceSub, Int.reduceAdd, Nat.zero_lt_succ, Nat.reduceAdd, Nat.reduceBEq, reduceCtorEq, Int.reduceLE, Int.reduceEq, Int.reduceToNat, *, hc])) | ((((refine cv_ptE rfl rfl rfl ?_ ?_ ?_; (simp <;> fail "n"); (((simp only [push_cast] <;> fail "n"))); rotate_left 1))) <;> (try simp only [push_cast, htz])) | (refine all2_cl ?_; (((simp [push_cast] <;> fail "n")))))
    · have hd : decide ((b.length : Int) > 8128) = false := by simpa using hb
      simp only [hd, cond_false] at c3 ⊢
      have c5 := c4 (by omega)
      (try simp only [push_cast, Nat.reduceSub, Nat.zero_lt_succ, Nat.reduceAdd, Nat.reduceBEq, Int.reduceLT])
      repeat' (first | ((first | (apply sc_p; (case h => first | exact c3 | exact c5); (case hc => ((simp only [push_cast] <;> fail "n")))) | (apply cd_p; (case h => first | exact c1 | exact c2); (case hc => ((simp only [push_cast] <;> fail "n")))) | (refine ret_frz rfl ?_ ?_ ?_ ?_; rotate_left 1; (((simp only [push_cast, Nat.reduceBEq, hh2] <;> fail "n"))); (((simp only [push_cast, Nat.reduceBEq, ht2] <;> fail "n"))); (((simp only [push_cast] <;> fail "n"))))) <;> (try simp only [push_cast, Nat.reduceSub, Int.reduceAdd, Nat.zero_lt_succ, Nat.reduceAdd, Nat.reduceBEq, Int.reduceLE, Int.reduceToNat, *, hc])) | ((refine cv_ptE rfl rfl rfl rfl rfl ?_) <;> (try simp only [push_cast, ht2, hh2])) | (refine all2_cl ?_; (((simp only [push_cast] <;> fail "n")))))
end Go.Proofs.YtggmkfagcjdifaaDoor
