/- Facts of the program over abstract values. No condition. -/
import Derived.Test.YtggmkfagcjdifaaDoorFo
set_option maxRecDepth 8000
namespace Go.Proofs.YtggmkfagcjdifaaDoor
set_option linter.unusedSimpArgs false
set_option linter.unusedVariables false
set_option linter.unnecessarySimpa false
set_option linter.unusedSectionVars false
open Go.Proofs.Tryd
open Go.Proofs.YtggmkfagcjdifaaDoor.Ai
set_option maxHeartbeats 4000000
set_option linter.unusedVariables false
open Go.Proofs.YtggmkfagcjdifaaDoor.Sh hiding mixed

@[irreducible] def fB (l : List (Nat × UInt8)) (i : Nat) : List UInt8 := (l.take i).flatMap fun f => be (fN f) (fS f)
theorem fB_zero (l : List (Nat × UInt8)) : fB l 0 = [] := by unfold fB; rfl
theorem fB_step {l : List (Nat × UInt8)} {i : Nat} {f : Nat × UInt8} (h : l[i]? = some f) : fB l (i + 1) = fB l i ++ be (fN f) (fS f) := by
  unfold fB; rw [List.take_add_one, h]; simp
theorem fB_len (l : List (Nat × UInt8)) : ∀ i, (fB l i).length ≤ 8 * i
  | 0 => by rw [fB_zero]; simp
  | i + 1 => by
    have ih := fB_len l i
    rcases Nat.lt_or_ge i l.length with h | h
    · obtain ⟨f, hf⟩ := lt_get h
      have := (fS_b f).2
      rw [fB_step hf, List.length_append, be_length]; omega
    · have : fB l (i + 1) = fB l i := by unfold fB; rw [List.take_of_length_le (by omega), List.take_of_length_le h]
      rw [this]; omega
theorem fB_pre (l : List (Nat × UInt8)) (i : Nat) : ∃ r, fB l l.length = fB l i ++ r := by
  unfold fB
  rw [List.take_length]
  refine ⟨(l.drop i).flatMap fun f => be (fN f) (fS f), ?_⟩
  conv => lhs; rw [← List.take_append_drop i l]
  rw [List.flatMap_append]
theorem field_at {l : List (Nat × UInt8)} {i : Nat} {f : Nat × UInt8} (h : l[i]? = some f) : (((fB l l.length).drop (fB l i).length).take (fS f)) = be (fN f) (fS f) ∧ (fB l i).length + fS f ≤ (fB l l.length).length := by
  obtain ⟨r, hr⟩ := fB_pre l (i + 1)
  rw [hr, fB_step h, List.append_assoc]
  refine ⟨?_, by simp only [List.length_append, be_length]; omega⟩
  rw [List.drop_left, List.take_append_of_le_length (by rw [be_length]; omega), List.take_of_length_le (by rw [be_length]; omega)]
theorem law8 (l : List (Nat × UInt8)) (n : Int) (hn : -9223372036854775808 ≤ n ∧ n ≤ 9223372036854775807) (hl : l.length < 2 ^ 48) (hf : ∀ f ∈ l, f.1 < 18446744073709551616) : PCall prog 8 [.ros 2 (l.map fc), .int .i64 n] (.bool true) := by
  have ca := alive_p
  by_cases h5 : (l.length : Int) > 500
  · have hd : decide ((l.length : Int) > 500) = true := by simpa using h5
    obtain ⟨c, hb, hl⟩ := l8
    refine pcall_of mixed e8 hb rfl hl r8 (by rw [n8]; simp) ?_
    clear hb hl c
    (try simp only [push_cast])
    repeat' ((((first | (apply sc_p; (case h => (exact ca)); (case hc => ((simp only [push_cast] <;> fail "n")))) | (refine ret_frz rfl ?_ ?_ ?_ ?_; rotate_left 1; (((simp only [push_cast] <;> fail "n"))); (((simp only [push_cast] <;> fail "n"))); (((simp only [push_cast] <;> fail "n"))))) <;> (try simp only [push_cast, Nat.reduceAdd, Nat.reduceBEq, *]))))
  have hd : decide ((l.length : Int) > 500) = false := by simpa using h5
  obtain ⟨c, hb, hl⟩ := l8
  refine pcall_of mixed e8 hb rfl hl r8 (by rw [n8]; simp) ?_
  clear hb hl c
  (try simp only [push_cast])
  repeat' ((((((apply sc_p; (case h => (exact ca)); (case hc => ((simp only [push_cast] <;> fail "n")))))) <;> (try simp only [push_cast, Nat.reduceAdd, Nat.reduceBEq, *]))))
  refine w_loopS (fun i : Nat => ([(0, .ros 2 (l.map fc)), (1, .int .i64 n), (5, .bool true), (6, bsV (fB l i)), (7, .int .i64 i)], ⟨0, []⟩)) (fun i => i ≤ l.length) (fun i => l.length - i) 0 (Nat.zero_le _) ?_ ?_
  · simp only [fB_zero]
    (apply Wk.renA (fun _ => false); (case he => (try simp only [push_cast, Nat.reduceBEq]); (repeat' (((refine cv_ros_self ?_; (((simp only [push_cast] <;> fail "n")))))))); (case hr => (try simp only [push_cast]); (skip)); (all_goals try exact 0); (case hinj => (((simp; done)))))
  intro i hi
  rcases Nat.lt_or_ge i l.length with hi' | hi'
  · have hdi := dlt hi'
    have hw := inc64 (k := i) (by omega)
    obtain ⟨f, hx⟩ := lt_get hi'
    have hg := getD_map (enc := fc) hx
    have hf1 := hf f (List.mem_of_getElem? hx)
    have c1 := cut_p f hf1
    have hb := fS_b f
    have hL := fB_len l i
    have c2 := putUint_p (fB l i) (fN f) (fS f) (fN_lt f hf1) hb.1 hb.2 (fN_fit f hf1) (by omega)
    have hbl := be_length (fN f) (fS f)
    rw [← fB_step hx] at c2
    have hl2 : (fB l (i + 1)).length = (fB l i).length + fS f := by rw [fB_step hx, List.length_append, hbl]
    have w1 : IntKind.i64.wrap (((fB l i).length : Int) + (fS f : Int)) = ((fB l (i + 1)).length : Int) := by rw [hl2, i64_id] <;> omega
    have t1 : List.take (fB l i).length ((fB l (i + 1)).map b1) = (fB l i).map b1 := by rw [fB_step hx, List.map_append, List.take_append_of_le_length (by simp <;> fail "n"), List.take_of_length_le (by simp <;> fail "n")]
    have k1 : (fB l i).length ≤ (fB l (i + 1)).length := by omega
    have e4 : ∀ S : ByteArray, (S.toList == S.toList) = true := fun S => by simp
    clear hl2 hL hb hbl
    generalize hB' : fB l (i + 1) = B' at *
    generalize fB l i = B at *
    generalize fN f = N at *
    generalize fS f = S at *
    obtain ⟨fn, fz⟩ := f
    (try simp only [push_cast, Nat.reduceAdd, Nat.reduceBEq, hdi, hg])
    repeat' (first | ((refine brX_split ?_ ?_) <;> (intro xc; (try simp only [Bool.not_eq_true', Bool.not_eq_false'] at xc); have xp := xc; have xq := xp; (clear xq)) <;> (try simp only [push_cast, Nat.reduceAdd, Nat.reduceBEq, *])) | ((first | (apply sc_p; (case h => first | exact c1 | exact c2); (case hc => ((simp only [push_cast] <;> fail "n")))) | (refine ret_frz rfl ?_ ?_ ?_ ?_; rotate_left 1; (((simp only [push_cast] <;> fail "n"))); (((simp only [push_cast] <;> fail "n"))); (((simp only [push_cast] <;> fail "n"))))) <;> (try simp only [push_cast, Nat.zero_lt_succ, Nat.reduceAdd, Nat.reduceBEq, reduceCtorEq, Int.reduceLE, Int.reduceToNat, *])) | refine And.intro ?_ ?_ | omega)
    all_goals (first | (simp_all []; done) | skip)
    all_goals (refine rnd_to _ _ _ (i + 1) hi' (by (omega)) ?_; (try simp only [hB']); (apply Wk.renA (fun _ => false); (case he => (try simp only [push_cast, Nat.reduceBEq]); (repeat' (first | (refine cv_ros_self ?_; (((simp only [push_cast] <;> fail "n")))) | refine And.intro ?_ ?_))); (case hr => (try simp only [push_cast]); (skip)); (all_goals try exact 0); (case hinj => (((simp; done))))))
  · obtain rfl : i = l.length := by omega
    have hdi := dge (Nat.le_refl l.length)
    have hBL : (fB l l.length).length ≤ 8192 := by have := fB_len l l.length; omega
    (try simp only [push_cast, Nat.reduceAdd, Nat.reduceBEq, hdi])
    refine w_loopS (fun i : Nat => ([(0, .ros 2 (l.map fc)), (1, .int .i64 n), (5, .bool true), (6, bsV (fB l l.length)), (12, .int .i64 ((fB l i).length : Nat)), (13, .int .i64 i)], ⟨0, []⟩)) (fun i => i ≤ l.length) (fun i => l.length - i) 0 (Nat.zero_le _) ?_ ?_
    · have h0 : (fB l 0).length = 0 := by rw [fB_zero]; rfl
      simp only [h0]
      (apply Wk.renA (fun _ => false); (case he => (try simp only [push_cast, Nat.reduceBEq]); (repeat' (first | (refine cv_ros_self ?_; (((simp only [push_cast] <;> fail "n")))) | refine And.intro ?_ ?_))); (case hr => (try simp only [push_cast]); (skip)); (all_goals try exact 0); (case hinj => (((simp; done)))))
    intro i hi
    rcases Nat.lt_or_ge i l.length with hi' | hi'
    · have hdj := dlt hi'
      have hw := inc64 (k := i) (by omega)
      obtain ⟨f, hx⟩ := lt_get hi'
      have hg := getD_map (enc := fc) hx
      have hf1 := hf f (List.mem_of_getElem? hx)
      have c1 := cut_p f hf1
      have hb := fS_b f
      obtain ⟨hat, hle⟩ := field_at hx
      have hl2 : (fB l (i + 1)).length = (fB l i).length + fS f := by rw [fB_step hx, List.length_append, be_length]
      have c2 := takeUint_p (fB l l.length) (fB l i).length (fS f) hBL hb.1 hb.2 hle
      have hv : val (be (fN f) (fS f)) = fN f := by rw [val_be, Nat.mod_eq_of_lt (fN_fit f hf1)]
      rw [hat, hv, ← hl2] at c2
      have c3 : ∀ m : Nat, (fB l i).length ≤ m → m < (fB l i).length + fS f → PCall prog 16 [bsV ((fB l l.length).take m), .int .i64 ((fB l i).length : Int), .int .i64 (fS f : Int)] (.tup [.int .u64 0, .int .i64 0, .int .i64 10]) := fun m h1 h2 => by
        have : ((fB l l.length).take m).length = m := by rw [List.length_take]; omega
        exact takeUintShort_p _ _ _ (by omega) hb.1 hb.2 (by omega) (by omega)
      have w1 : IntKind.i64.wrap (((fB l i).length : Int) + (fS f : Int)) = ((fB l (i + 1)).length : Int) := by rw [hl2, i64_id] <;> omega
      have hle2 : (fB l (i + 1)).length ≤ (fB l l.length).length := by omega
      generalize hA' : (fB l (i + 1)).length = A' at *
      generalize hA : (fB l i).length = A at *
      generalize fB l l.length = B at *
      clear hat hv hb hBL hle
      by_cases h1 : (A : Int) ≤ n
      · by_cases h2 : n < (A' : Int)
        · obtain ⟨m, rfl⟩ := Int.eq_ofNat_of_zero_le (show 0 ≤ n by omega)
          have d1 : decide ((A : Int) ≤ (m : Int)) = true := by simp; omega
          have d2 : decide ((m : Int) < (A' : Int)) = true := by simp; omega
          have c4 := c3 m (by omega) (by omega)
          have hmB : m ≤ B.length := by omega
          have t1 : List.take m (B.map b1) = (B.take m).map b1 := by rw [List.map_take]
          clear hl2 hle2 c3
          generalize B.take m = Bm at *
          generalize fN f = N at *
          generalize fS f = S at *
          obtain ⟨fn, fz⟩ := f
          (try simp only [push_cast, Nat.reduceAdd, Nat.reduceBEq, hdj, hg])
          repeat' (first | ((((apply sc_p; (case h => first | exact c1 | exact c2 | exact c4); (case hc => ((simp only [push_cast] <;> fail "n")))))) <;> (try simp only [push_cast, Nat.zero_lt_succ, Nat.reduceAdd, Nat.reduceBEq, Nat.reduceLT, reduceCtorEq, Int.reduceLE, Int.reduceToNat, *, Nat.sub_zero])) | refine And.intro ?_ ?_ | omega)
          all_goals (refine rnd_to _ _ _ (i + 1) hi' (by (omega)) ?_; (try simp only [hA']); (apply Wk.renA (fun _ => false); (case he => (try simp only [push_cast, Nat.reduceBEq]); (repeat' (first | (refine cv_ros_self ?_; (((simp only [push_cast] <;> fail "n")))) | refine And.intro ?_ ?_))); (case hr => (try simp only [push_cast]); (skip)); (all_goals try exact 0); (case hinj => (((simp; done))))))
        · have d1 : decide ((A : Int) ≤ n) = true := by simpa using h1
          have d2 : decide (n < (A' : Int)) = false := by simpa using h2
          clear hl2 hle2 c3
          generalize fN f = N at *
          generalize fS f = S at *
          obtain ⟨fn, fz⟩ := f
          (try simp only [push_cast, Nat.reduceAdd, Nat.reduceBEq, hdj, hg])
          repeat' (first | ((((apply sc_p; (case h => first | exact c1 | exact c2); (case hc => ((simp only [push_cast] <;> fail "n")))))) <;> (try simp only [push_cast, Nat.zero_lt_succ, Nat.reduceAdd, Nat.reduceBEq, Nat.reduceLT, reduceCtorEq, *])) | refine And.intro ?_ ?_ | omega)
          all_goals (refine rnd_to _ _ _ (i + 1) hi' (by (omega)) ?_; (try simp only [hA']); (apply Wk.renA (fun _ => false); (case he => (try simp only [push_cast, Nat.reduceBEq]); (repeat' (first | (refine cv_ros_self ?_; (((simp only [push_cast] <;> fail "n")))) | refine And.intro ?_ ?_))); (case hr => (try simp only [push_cast]); (skip)); (all_goals try exact 0); (case hinj => (((simp; done))))))
      · have d1 : decide ((A : Int) ≤ n) = false := by simpa using h1
        clear hl2 hle2 c3
        generalize fN f = N at *
        generalize fS f = S at *
        obtain ⟨fn, fz⟩ := f
        (try simp only [push_cast, Nat.reduceAdd, Nat.reduceBEq, hdj, hg])
        repeat' (first | ((((apply sc_p; (case h => first | exact c1 | exact c2); (case hc => ((simp only [push_cast] <;> fail "n")))))) <;> (try simp only [push_cast, Nat.zero_lt_succ, Nat.reduceAdd, Nat.reduceBEq, Nat.reduceLT, reduceCtorEq, *])) | refine And.intro ?_ ?_ | omega)
        all_goals (refine rnd_to _ _ _ (i + 1) hi' (by (omega)) ?_; (try simp only [hA']); (apply Wk.renA (fun _ => false); (case he => (try simp only [push_cast, Nat.reduceBEq]); (repeat' (first | (refine cv_ros_self ?_; (((simp only [push_cast] <;> fail "n")))) | refine And.intro ?_ ?_))); (case hr => (try simp only [push_cast]); (skip)); (all_goals try exact 0); (case hinj => (((simp; done))))))
    · obtain rfl : i = l.length := by omega
      (try simp only [push_cast, Nat.reduceAdd, Nat.reduceBEq, reduceCtorEq, hdi])
      repeat' ((((((refine ret_frz rfl ?_ ?_ ?_ ?_; rotate_left 1; (((simp only [push_cast] <;> fail "n"))); (((simp only [push_cast] <;> fail "n"))); (((simp only [push_cast] <;> fail "n")))))) <;> (try simp only [push_cast, Nat.reduceBEq, *]))))
end Go.Proofs.YtggmkfagcjdifaaDoor
