/- Facts of the program over abstract values. No condition. -/
import Derived.Test.YtggmkfagcjdifaaDoorDg
set_option maxRecDepth 8000
namespace Go.Proofs.YtggmkfagcjdifaaDoor
set_option linter.unusedSimpArgs false
set_option linter.unusedVariables false
set_option linter.unnecessarySimpa false
set_option linter.unusedSectionVars false
open Go.Proofs.Tryd
open Go.Proofs.YtggmkfagcjdifaaDoor.Ai
set_option maxHeartbeats 4000000
set_option linter.unusedVariables false
open Go.Proofs.YtggmkfagcjdifaaDoor.Sh hiding mixed
attribute [local push_cast] stc_cl stc_one

abbrev z32 : List AV := rep 32 (.int .u8 0)
theorem shr_word (x j : Nat) (hx : x < 4294967296) (hj : j < 4) : IntKind.u8.wrap ((x : Int).fdiv (2 ^ min (24 - 8 * j) IntKind.u32.bits)) = ((UInt8.ofNat (x / 256 ^ (3 - j))).toNat : Int) := by
  have h : min (24 - 8 * j) IntKind.u32.bits = 8 * (3 - j) := by rw [Nat.min_eq_left (by show 24 - 8 * j ≤ 32; omega)]; omega
  rw [IntKind.wrap_u8, h, Int.fdiv_eq_ediv_of_nonneg _ (Int.le_of_lt (Int.pow_pos (by omega))), Int.pow_mul, ofNat_toNat]
  simp
theorem stL_lt {s : Sh.St} (h : s.ok) : ∀ x ∈ stL s, x < 4294967296 := by
  obtain ⟨h1, h2, h3, h4, h5, h6, h7, h8⟩ := h
  intro x hx
  simp only [List.mem_cons, List.not_mem_nil, or_false] at hx
  rcases hx with rfl | rfl | rfl | rfl | rfl | rfl | rfl | rfl <;> assumption
theorem finish_p (h : HS) (hh : h.ok) : PCall prog 33 [.agg (hc h.s (bsV h.t) h.n)] (.tup [.agg (h.finish.map u8c), .int .i64 0]) := by
  have c1 := check_p h.s h.t h.n
  rw [chkH_ok hh] at c1
  obtain ⟨s, t, n⟩ := h
  obtain ⟨h1, h2, h3⟩ := hh
  simp only at h1 h2 h3 c1
  have c4 := padding_p n h3
  have hpl := padBytes_length n
  have c2 := join_p [t, padBytes n] (by simp <;> fail "n") (by simp; omega)
  simp only [List.flatten_cons, List.flatten_nil, List.append_nil] at c2
  have c3 := absorb_p s h1 (t ++ padBytes n) (by simp; omega)
  have hok := absorbed_ok h1 (t ++ padBytes n) ((t ++ padBytes n).length / 64)
  simp only [HS.finish]
  generalize absorbed s (t ++ padBytes n) ((t ++ padBytes n).length / 64) = s' at *
  generalize (t ++ padBytes n).drop (64 * ((t ++ padBytes n).length / 64)) = t' at *
  generalize (t ++ padBytes n) = tb at *
  generalize padBytes n = pb at *
  have hst : stc s' = (stL s').map u32 := rfl
  have hsl : (stL s').length = 8 := rfl
  have hlt := stL_lt hok
  have hat : ∀ {k j x : Nat}, j < 4 → (stL s')[k]? = some x → (sumBytes s')[4 * k + j]? = some (UInt8.ofNat (x / 256 ^ (3 - j))) := fun hj h => sum_at s' hj h
  have hDl := sumBytes_length s'
  have htk : List.take 8 ((stL s').map u32) = (stL s').map u32 := rfl
  generalize stL s' = ss at *
  generalize sumBytes s' = D at *
  simp only [hst] at c3
  have hz0 : rep 32 (AV.int .u8 0) = (fillB D 0).map u8c := by rw [fillB, List.take_zero, List.nil_append]; show rep 32 (u8c 0) = _; exact rep_map
  obtain ⟨c, hb, hl⟩ := l33
  refine pcall_of mixed e33 hb rfl hl r33 (by rw [n33]; simp) ?_
  clear hb hl c
  (try simp only [push_cast, Nat.zero_lt_succ, Nat.reduceAdd, Nat.reduceBEq, hc])
  repeat' ((((first | (apply sc_p; (case h => (exact c1)); (case hc => ((simp only [push_cast] <;> fail "n")))) | (apply cd_p; (case h => first | exact c2 | exact c3 | exact c4); (case hc => ((simp only [push_cast] <;> fail "n"))))) <;> (try simp only [push_cast, Nat.zero_lt_succ, Nat.reduceAdd, Nat.reduceBEq, Nat.reducePow, Nat.reduceLT, Nat.reduceLeDiff, *]))))
  refine w_loopS (fun i : Nat => ([(2, .pt 1 32 0 0), (7, .pt 0 32 0 0), (30, .agg (ss.map u32)), (31, .int .i64 i)], ⟨2, [(0, ⟨32, [(fillB D (4 * i)).map u8c]⟩), (1, ⟨32, [z32]⟩)]⟩)) (fun i => i ≤ 8) (fun i => 8 - i) 0 (Nat.zero_le _) ?_ ?_
  · simp only [Nat.mul_zero, ← hz0]
    (apply Wk.renA (fun _ => false); (case he => (try simp only [push_cast, Nat.reduceBEq]); (repeat' (first | (refine all2_cl ?_; (((simp only [push_cast] <;> fail "n")))) | refine And.intro ?_ ?_ | rfl | omega))); (case hr => (try simp only [push_cast, Nat.reduceBEq]); (repeat' (first | (refine cellsCv_eq ?_ ?_; (simp <;> fail "n"); (((simp [push_cast] <;> fail "n")))) | refine And.intro ?_ ?_ | rfl | omega))); (all_goals try exact 0); (case hinj => (((simp [rhoA_0, rhoA_1]; done)))))
  intro i hi
  rcases Nat.lt_or_ge i 8 with hi' | hi'
  · have hd := dltL (k := i) (n := 8) (by omega)
    have hw := inc64 (k := i) (by omega)
    obtain ⟨x, hx⟩ := lt_get (xs := ss) (k := i) (by omega)
    have g1 := hd_at (f := u32) hx
    have hxl := hlt x (List.mem_of_getElem? hx)
    (try simp only [push_cast, Int.reduceAdd, Nat.reduceAdd, Nat.reduceBEq, hd, g1])
    repeat' (first | refine And.intro ?_ ?_ | omega)
    refine w_loopS (fun j : Nat => ([(2, .pt 1 32 0 0), (7, .pt 0 32 0 0), (8, .int .i64 i), (9, u32 x), (30, .agg (ss.map u32)), (31, .int .i64 i), (35, .int .i64 j)], ⟨2, [(0, ⟨32, [(fillB D (4 * i + j)).map u8c]⟩), (1, ⟨32, [z32]⟩)]⟩)) (fun j => j ≤ 4) (fun j => 4 - j) 0 (Nat.zero_le _) ?_ ?_
    · simp only [Nat.add_zero]
      (apply Wk.renA (fun _ => false); (case he => (try simp only [push_cast, Nat.reduceBEq]); (repeat' (first | (refine all2_cl ?_; (((simp only [push_cast] <;> fail "n")))) | refine And.intro ?_ ?_ | rfl | omega))); (case hr => (try simp only [push_cast, Nat.reduceBEq]); (repeat' (first | (refine cellsCv_eq ?_ ?_; (simp <;> fail "n"); (first | (simp only [push_cast] <;> fail "n") | (simp [push_cast] <;> fail "n"))) | refine And.intro ?_ ?_ | omega))); (all_goals try exact 0); (case hinj => (((simp [rhoA_0, rhoA_1]; done)))))
    intro j hj
    rcases Nat.lt_or_ge j 4 with hj' | hj'
    · have hd2 := dltL (k := j) (n := 4) (by omega)
      have hw2 := inc64 (k := j) (by omega)
      obtain ⟨m, hm⟩ : ∃ m, m = 4 * i + j := ⟨_, rfl⟩
      obtain ⟨q, hq⟩ : ∃ q : Nat, (q : Int) = 24 - 8 * (j : Int) := ⟨24 - 8 * j, by omega⟩
      have f1 : IntKind.i64.wrap (4 * (i : Int)) = 4 * (i : Int) := i64_id (by omega) (by omega)
      have f2 : IntKind.i64.wrap (4 * (i : Int) + (j : Int)) = (m : Int) := by rw [i64_id] <;> omega
      have f3 : IntKind.i64.wrap (8 * (j : Int)) = 8 * (j : Int) := i64_id (by omega) (by omega)
      have f4 : IntKind.i64.wrap (24 - 8 * (j : Int)) = (q : Int) := by rw [i64_id] <;> omega
      have f5 := shr_word x j hxl hj'
      rw [show 24 - 8 * j = q from by omega] at f5
      have hb := hat hj' hx
      rw [← hm] at hb
      have hset := fillB_set hDl (i := m) (by omega) hb
      have hfl := fillB_len hDl (i := m) (by omega)
      have hs := st_at' (f := u8c) (ws := fillB D m) (j := m) (v := u8c (UInt8.ofNat (x / 256 ^ (3 - j)))) (by omega) _ rfl
      rw [hset] at hs
      have hm32 : m + 1 ≤ 32 := by omega
      have hm31 : m ≤ 31 := by omega
      have hnx : 4 * i + (j + 1) = m + 1 := by omega
      generalize UInt8.ofNat (x / 256 ^ (3 - j)) = y at *
      simp only [← hm]
      clear hset hb hm hq hat
      (try simp only [push_cast, Int.reduceAdd, Nat.zero_lt_succ, Nat.reduceAdd, Nat.reduceBEq, hd2, hw2, f1, f2, f3, f4, f5, hs, hm32])
      repeat' (first | refine And.intro ?_ ?_ | omega)
      all_goals (refine rnd_to _ _ _ (j + 1) (by show j + 1 ≤ 4; omega) (by (omega)) ?_; (try simp only [hnx]); (apply Wk.renA (fun _ => false); (case he => (try simp only [push_cast, Nat.reduceBEq]); (repeat' (first | (refine all2_cl ?_; (((simp only [push_cast] <;> fail "n")))) | refine And.intro ?_ ?_ | rfl | omega))); (case hr => (try simp only [push_cast, Nat.reduceBEq]); (repeat' (first | (refine cellsCv_eq ?_ ?_; (simp <;> fail "n"); (first | (simp only [push_cast] <;> fail "n") | (simp [push_cast] <;> fail "n"))) | refine And.intro ?_ ?_ | omega))); (all_goals try exact 0); (case hinj => (((simp [rhoA_0, rhoA_1]; done))))))
    · obtain rfl : j = 4 := by omega
      have h4 : 4 * i + 4 = 4 * (i + 1) := by omega
      simp only [h4]
      (try simp only [push_cast, Nat.reduceSub, Int.reduceAdd, Nat.zero_lt_succ, Nat.reduceAdd, Nat.reduceBEq, Int.reduceLT, hw])
      all_goals (refine rnd_to _ _ _ (i + 1) (by show i + 1 ≤ 8; omega) (by (omega)) ?_; (apply Wk.renA (fun _ => false); (case he => (try simp only [push_cast, Nat.reduceBEq]); (repeat' (first | (refine all2_cl ?_; (((simp only [push_cast] <;> fail "n")))) | refine And.intro ?_ ?_ | rfl | omega))); (case hr => (try simp only [push_cast, Nat.reduceBEq]); (repeat' (first | (refine cellsCv_eq ?_ ?_; (simp <;> fail "n"); (first | (simp only [push_cast] <;> fail "n") | (simp [push_cast] <;> fail "n"))) | refine And.intro ?_ ?_ | omega))); (all_goals try exact 0); (case hinj => (((simp [rhoA_0, rhoA_1]; done))))))
  · obtain rfl : i = 8 := by omega
    have h32 : fillB D 32 = D := fillB_full hDl
    have ht : List.take 32 (D.map u8c) = D.map u8c := List.take_of_length_le (by simp; omega)
    have hdr : List.drop 32 (rep 32 (.int .u8 0)) = [] := List.drop_of_length_le (by rw [rep_len]; omega)
    simp only [Nat.reduceMul, h32]
    (try simp only [push_cast, Nat.reduceSub, Int.reduceAdd, Nat.zero_lt_succ, Nat.reduceAdd, Nat.reduceBEq, Int.reduceLT, ht, hDl, hdr])
    repeat' (first | ((((refine ret_frz rfl ?_ ?_ ?_ ?_; rotate_left 1; (((simp only [push_cast, Nat.reduceBEq, hDl] <;> fail "n"))); (((simp only [push_cast, Nat.reduceBEq, ht] <;> fail "n"))); (((simp only [push_cast] <;> fail "n")))))) <;> (try simp only [push_cast, Nat.reduceBEq, *])) | ((((refine cv_ptE rfl rfl rfl ?_ ?_ ?_; (simp <;> fail "n"); (((simp only [push_cast, hDl] <;> fail "n"))); rotate_left 1))) <;> (try simp only [push_cast, ht, hDl])) | (refine all2_cl ?_; (((simp only [push_cast] <;> fail "n")))))
end Go.Proofs.YtggmkfagcjdifaaDoor
