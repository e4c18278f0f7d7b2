/- Facts of the program over abstract values. No condition. -/
import Derived.Test.YtggmkfagcjdifaaDoorFb
import Derived.Test.YtggmkfagcjdifaaDoorShC
import Derived.Test.YtggmkfagcjdifaaDoorEm
import Derived.Test.YtggmkfagcjdifaaDoorDm
set_option maxRecDepth 8000
namespace Go.Proofs.YtggmkfagcjdifaaDoor
set_option linter.unusedSimpArgs false
set_option linter.unusedVariables false
set_option linter.unnecessarySimpa false
set_option linter.unusedSectionVars false
open Go.Proofs.Tryd
open Go.Proofs.YtggmkfagcjdifaaDoor.Ai
set_option maxHeartbeats 4000000
set_option linter.unusedVariables false
open Go.Proofs.YtggmkfagcjdifaaDoor.Sh hiding mixed

theorem hc_cl (s : Sh.St) (t : List UInt8) (n : Int) : (∀ v, v ∈ hc s (bsV t) n → Cl v) = True := by simp only [hc, push_cast]
theorem hc_one (s : Sh.St) (t : List UInt8) (n : Int) : (∀ v, v ∈ hc s (bsV t) n → v.one) = True := by simp only [hc, push_cast]
theorem hc_bel (s : Sh.St) (t : List UInt8) (n : Int) (k : Nat) : (∀ v, v ∈ hc s (bsV t) n → Bel k v) = True := by simp only [hc, push_cast]
theorem hcn_cl : (∀ v, v ∈ hc iv .nils 0 → Cl v) = True := by simp only [hc, push_cast]
attribute [local push_cast] hc_cl hc_one hc_bel hcn_cl
theorem law10 (ps : List (List UInt8)) (hl : ps.length < 2 ^ 48) (hpl : ∀ p ∈ ps, p.length < 2 ^ 48) : PCall prog 10 [psV ps] (.bool true) := by
  have ca := alive_p
  have cs := start_p
  have hA : ∀ i, i < ps.length → ∃ p, ps[i]? = some p ∧ (ps.take (i + 1)).flatten = (ps.take i).flatten ++ p := fun i hi => by
    obtain ⟨p, hp⟩ := lt_get hi
    exact ⟨p, hp, by rw [List.take_add_one, hp]; simp⟩
  obtain ⟨c, hb, hl⟩ := l10
  refine pcall_of mixed e10 hb rfl hl r10 (by rw [n10]; simp) ?_
  clear hb hl c
  (try simp only [push_cast])
  repeat' ((((((apply sc_p; (case h => first | exact ca | exact cs); (case hc => ((simp only [push_cast] <;> fail "n")))))) <;> (try simp only [push_cast, Nat.zero_lt_succ, Nat.reduceAdd, Nat.reduceBEq, *, hc]))))
  refine w_loopS (fun i : Nat => bif decide (i < ps.length) then ([(0, psV ps), (3, .bool true), (4, .pt 0 10 0 0), (5, accV 1 1 ((ps.take i).flatten.map b1)), (6, .int .i64 i)], ⟨2, accR 1 1 ((ps.take i).flatten.map b1) ++ [(0, ⟨10, [hc (HS.start.write (ps.take i).flatten).s (bsV (HS.start.write (ps.take i).flatten).t) (HS.start.write (ps.take i).flatten).n]⟩)]⟩)
    else ([(0, psV ps), (3, .bool true), (4, .pt 0 10 0 0), (5, bsV (ps.take i).flatten), (6, .int .i64 i)], ⟨1, [(0, ⟨10, [hc (HS.start.write (ps.take i).flatten).s (bsV (HS.start.write (ps.take i).flatten).t) (HS.start.write (ps.take i).flatten).n]⟩)]⟩)) (fun i => i ≤ ps.length ∧ (ps.take i).flatten.length ≤ 8192) (fun i => ps.length - i) 0 ⟨Nat.zero_le _, by simp⟩ ?_ ?_
  · have h0 : HS.start.write [] = ⟨iv, [], 0⟩ := rfl
    simp only [List.take_zero, List.flatten_nil, h0, List.map_nil, accV, accR, List.nil_append]
    cases decide (0 < ps.length) with
    | true =>
      simp only [cond_true, hc]
      (apply Wk.renA (fun _ => false); (case he => (try simp only [push_cast, Nat.reduceBEq]); (repeat' (first | (refine cv_ros_self ?_; (((simp only [push_cast] <;> fail "n")))) | refine And.intro ?_ ?_ | rfl | omega))); (case hr => (try simp only [push_cast]); (repeat' (first | exact trivial | (refine all2_cl ?_; (((simp only [push_cast] <;> fail "n")))) | refine And.intro ?_ ?_ | omega | (simp only [push_cast])))); (all_goals try exact 0); (case hinj => (((simp [rhoA_0]; done)))))
    | false =>
      simp only [cond_false, hc]
      (apply Wk.renA (fun _ => false); (case he => (try simp only [push_cast, Nat.reduceBEq]); (repeat' (first | (refine cv_ros_self ?_; (((simp only [push_cast] <;> fail "n")))) | refine And.intro ?_ ?_ | rfl))); (case hr => (try simp only [push_cast]); (repeat' (first | exact trivial | (refine all2_cl ?_; (((simp only [push_cast] <;> fail "n")))) | refine And.intro ?_ ?_ | (simp only [push_cast])))); (all_goals try exact 0); (case hinj => (((simp [rhoA_0]; done)))))
  rintro i ⟨hi, hA8⟩
  rcases Nat.lt_or_ge i ps.length with hi' | hi'
  · have hdi : decide (i < ps.length) = true := by simpa using hi'
    simp only [hdi, cond_true]
    have hd := dlt hi'
    have hw := inc64 (k := i) (by omega)
    obtain ⟨p, hp, hA'⟩ := hA i hi'
    have hpl' := hpl p (List.mem_of_getElem? hp)
    have hg := getD_map (enc := fun p => [bsV p]) hp
    have hok : (HS.start.write (ps.take i).flatten).ok := HS.ok.start.write (by show 0 + _ ≤ 8192; omega)
    have hn : (HS.start.write (ps.take i).flatten).n = (ps.take i).flatten.length := by show 0 + _ = _; omega
    have hww : (HS.start.write (ps.take i).flatten).write p = HS.start.write (ps.take (i + 1)).flatten := by rw [HS.write_write, hA']
    have c2 := write_p _ hok p hpl'
    rw [wrS, hww, hn] at c2
    generalize hH : HS.start.write (ps.take i).flatten = H at *
    generalize hAA : (ps.take i).flatten = A at *
    have w1 : IntKind.i64.wrap (8192 - (A.length : Int)) = 8192 - (A.length : Int) := i64_id (by omega) (by omega)
    have l1 := hc_cl H.s H.t (A.length : Int)
    have l2 := hc_one H.s H.t (A.length : Int)
    have l3 : (hc H.s (bsV H.t) (A.length : Int)).length = 10 := rfl
    have l4 : List.take 10 (hc H.s (bsV H.t) (A.length : Int)) = hc H.s (bsV H.t) (A.length : Int) := rfl
    have l5 : List.drop 10 (hc H.s (bsV H.t) (A.length : Int)) = [] := rfl
    by_cases hb : (p.length : Int) > 8192 - (A.length : Int)
    · have hd2 : decide ((p.length : Int) > 8192 - (A.length : Int)) = true := by simpa using hb
      simp only [hd2, cond_true] at c2
      clear hA' hH hww hAA hA
      simp only [hn]
      (try simp only [push_cast, Nat.zero_lt_succ, Nat.reduceAdd, Nat.reduceBEq, Nat.reduceLT, hd, hg, l3, l4])
      repeat' (first | ((first | (apply cd_p; (case h => (exact c2)); (case hc => ((simp only [push_cast, l1] <;> fail "n")))) | (refine ret_frz rfl ?_ ?_ ?_ ?_; rotate_left 1; (((simp only [push_cast] <;> fail "n"))); (((simp only [push_cast] <;> fail "n"))); (((simp only [push_cast] <;> fail "n"))))) <;> (try simp only [push_cast, Nat.zero_lt_succ, Nat.reduceAdd, Nat.reduceBEq, reduceCtorEq, *])) | refine And.intro ?_ ?_ | omega)
      trace_state
      all_goals sorry
    · have hd2 : decide ((p.length : Int) > 8192 - (A.length : Int)) = false := by simpa using hb
      simp only [hd2, cond_false] at c2
      have hs : (ps.take (i + 1)).flatten.map b1 = A.map b1 ++ p.map b1 := by rw [hA', List.map_append]
      have hA9 : (ps.take (i + 1)).flatten.length ≤ 8192 := by rw [hA', List.length_append]; omega
      have q1 : A.length + p.length ≤ 140737488355328 := by omega
      have q2 : A.length + p.length ≤ 9223372036854775807 := by omega
      have hw8 : ((HS.start.write (ps.take (i + 1)).flatten).n : Int) = ((HS.start.write (ps.take (i + 1)).flatten).n : Int) := rfl
      have m1 := hc_cl (HS.start.write (ps.take (i + 1)).flatten).s (HS.start.write (ps.take (i + 1)).flatten).t (HS.start.write (ps.take (i + 1)).flatten).n
      have m2 := hc_one (HS.start.write (ps.take (i + 1)).flatten).s (HS.start.write (ps.take (i + 1)).flatten).t (HS.start.write (ps.take (i + 1)).flatten).n
      have m3 : ∀ s t n, (hc s (bsV t) n).length = 10 := fun _ _ _ => rfl
      have m4 : ∀ s t n, List.take 10 (hc s (bsV t) n) = hc s (bsV t) n := fun _ _ _ => rfl
      have m5 : ∀ s t n, List.drop 10 (hc s (bsV t) n) = [] := fun _ _ _ => rfl
      have hL : (ps.take (i + 1)).flatten.map b1 = A.map b1 ++ p.map b1 := hs
      clear hw8 hA' hH hww hAA hA
      simp only [hn]
      (try simp only [push_cast, Nat.zero_lt_succ, Nat.reduceAdd, Nat.reduceBEq, Nat.reduceLT, hd, hg, m3, m4])
      repeat' (first | ((((apply cd_p; (case h => (exact c2)); (case hc => ((simp only [push_cast, l1] <;> fail "n")))))) <;> (try simp only [push_cast, Nat.zero_lt_succ, Nat.reduceAdd, Nat.reduceBEq, *])) | refine And.intro ?_ ?_ | omega)
      rcases Nat.lt_or_ge (i + 1) ps.length with hi1 | hi1
      · have hdj : decide (i + 1 < ps.length) = true := by simpa using hi1
        all_goals (refine rnd_to _ _ _ (i + 1) ⟨hi', hA9⟩ (by (omega)) ?_; (try simp only [hdj, cond_true, hs]); (apply Wk.renA (fun _ => false); (case he => (try simp only [push_cast, Nat.reduceBEq]); (repeat' (first | (refine cv_ros_self ?_; (((simp only [push_cast] <;> fail "n")))) | exact cv_acc rfl | (refine bel_acc ?_; (omega)) | refine And.intro ?_ ?_ | rfl | omega))); (case hr => (try simp only [push_cast]); (repeat' (first | exact trivial | (refine rowsAll_acc (by ((simp only [push_cast] <;> fail "n"))) (by ((simp only [push_cast] <;> fail "n"))) (by ((simp only [push_cast] <;> fail "n"))) (by ((simp only [push_cast] <;> fail "n"))) ?_) | (refine cellsCv_eq ?_ ?_; (simp <;> fail "n"); (((simp only [push_cast] <;> fail "n")))) | refine And.intro ?_ ?_ | rfl | omega | (simp only [push_cast, Nat.reduceBEq])))); (all_goals try exact 0); (case hinj => (((apply inj_of; (case h => (try dsimp only); repeat' (first | exact keysIn_nil | apply keysIn_acc | apply keysIn_cons)); (case hi => unfold injK; (decide))))))))
      · have hdj : decide (i + 1 < ps.length) = false := by simpa using hi1
        all_goals (refine rnd_to _ _ _ (i + 1) ⟨hi', hA9⟩ (by (omega)) ?_; (try simp only [hdj, cond_false, hs, bsV]); (apply Wk.renA (zB _); (case he => (try simp only [push_cast, Nat.reduceBEq]); (repeat' (first | (refine cv_ros_self ?_; (((simp only [push_cast] <;> fail "n")))) | (refine cv_accF zB_self ?_ ?_ ?_; (((simp only [push_cast] <;> fail "n"))); (((simp only [push_cast] <;> fail "n"))); (((simp only [push_cast] <;> fail "n")))) | refine And.intro ?_ ?_ | rfl))); (case hr => (try simp only [push_cast, Nat.reduceBEq]); (repeat' (((refine cellsCv_eq ?_ ?_; (simp <;> fail "n"); (((simp only [push_cast] <;> fail "n")))))))); (all_goals try exact 0); (case hinj => (((simp [rhoA_0]; done))))))
  · obtain rfl : i = ps.length := by omega
    have hdi : decide (ps.length < ps.length) = false := by simp
    have hd := dge (Nat.le_refl ps.length)
    simp only [hdi, cond_false, List.take_length] at hA8 ⊢
    have hok : (HS.start.write ps.flatten).ok := HS.ok.start.write (by show 0 + _ ≤ 8192; omega)
    have hn : (HS.start.write ps.flatten).n = ps.flatten.length := by show 0 + _ = _; omega
    have c1 := check_p (HS.start.write ps.flatten).s (HS.start.write ps.flatten).t (HS.start.write ps.flatten).n
    rw [chkH_ok hok] at c1
    have c2 := write_p0 ps.flatten (by omega)
    have hd0 : decide ((ps.flatten.length : Int) > 8192 - ((HS.start.n : Nat) : Int)) = false := decide_eq_false (by show ¬ ((ps.flatten.length : Int) > 8192 - 0); omega)
    rw [wrS, hd0, cond_false] at c2
    have c3 := finish_p (HS.start.write ps.flatten) hok
    have c4 := sum_p ps.flatten (by omega)
    have hd1 : decide ((ps.flatten.length : Int) > 8192) = false := decide_eq_false (by omega)
    rw [sumS, hd1, cond_false, show shaB ps.flatten = (HS.start.write ps.flatten).finish from rfl] at c4
    have ht : (HS.start.write ps.flatten).t = ps.flatten.drop (64 * (ps.flatten.length / 64)) := rfl
    have hfl := HS.finish_length (HS.start.write ps.flatten)
    generalize HS.start.write ps.flatten = H at *
    generalize ps.flatten = A at *
    have e1 := eqa32 hfl hfl false
    have e2 := eqc32 hfl hfl
    rw [L32_lit] at e1 e2
    obtain ⟨s, t, n⟩ := H
    simp only at hn ht c1 c2 c3 c4 hfl e1 e2
    subst hn
    obtain ⟨q, hq0, hqi⟩ := div64 A.length 64 (by omega) (by omega)
    have hq : q = A.length / 64 := by omega
    rw [← hq] at ht
    obtain ⟨r, hr⟩ : ∃ r, r = 64 * q := ⟨_, rfl⟩
    rw [← hr] at ht
    have w1 : IntKind.i64.wrap ((q : Int) * 64) = (r : Int) := by rw [i64_id] <;> omega
    have w2 : IntKind.u64.wrap (A.length : Int) = (A.length : Int) := by rw [IntKind.wrap_u64]; omega
    have k1 : r ≤ A.length := by omega
    have ht2 : List.take (A.length - r) (List.drop r (A.map b1)) = t.map b1 := by rw [ht, ← List.map_drop, List.take_of_length_le (by simp <;> fail "n")]
    have ht3 : List.take 32 ((HS.finish ⟨s, t, A.length⟩).map u8c) = (HS.finish ⟨s, t, A.length⟩).map u8c := List.take_of_length_le (by simp; omega)
    have hdr : List.drop 32 (rep 32 (.int .u8 0)) = [] := List.drop_of_length_le (by rw [rep_len]; omega)
    have h8 : List.take 8 (hc s (bsV t) (A.length : Int)) = stc s := rfl
    have m3 : (hc s (bsV t) (A.length : Int)).length = 10 := rfl
    have m4 : List.take 10 (hc s (bsV t) (A.length : Int)) = hc s (bsV t) (A.length : Int) := rfl
    have m5 : List.drop 10 (hc s (bsV t) (A.length : Int)) = [] := rfl
    have m6 : List.drop 8 (hc s (bsV t) (A.length : Int)) = [bsV t, .int .u64 (A.length : Int)] := rfl
    have m7 : List.drop 9 (hc s (bsV t) (A.length : Int)) = [.int .u64 (A.length : Int)] := rfl
    have e3 : eqaV false [(0, SK.i .u32), (1, SK.i .u32), (2, SK.i .u32), (3, SK.i .u32), (4, SK.i .u32), (5, SK.i .u32), (6, SK.i .u32), (7, SK.i .u32)] (.agg (stc s)) (.agg (stc s)) = .bool true := by
      simp [eqaV, eqvV, stc, skE]
    have e4 : eqaC [(0, SK.i .u32), (1, SK.i .u32), (2, SK.i .u32), (3, SK.i .u32), (4, SK.i .u32), (5, SK.i .u32), (6, SK.i .u32), (7, SK.i .u32)] (.agg (stc s)) (.agg (stc s)) = True := by
      simp [eqaC, eqvC, stc, skC]
    have e5 : ∀ S : ByteArray, (S.toList == S.toList) = true := fun S => by simp
    have hz : List.drop 10 zs10 = [] := rfl
    generalize HS.finish ⟨s, t, A.length⟩ = F at *
    clear hq0 hq hr ht hok hd0 hd1 hA
    (try simp only [push_cast, Nat.zero_lt_succ, Nat.reduceAdd, Nat.reduceBEq, hd, m3, m4])
    repeat' (first | ((first | (apply sc_p; (case h => first | exact c2 | exact c3 | exact c4 | exact cs); (case hc => ((simp only [push_cast] <;> fail "n")))) | (apply cd_p; (case h => (exact c1)); (case hc => ((simp only [push_cast] <;> fail "n")))) | (refine ret_frz rfl ?_ ?_ ?_ ?_; rotate_left 1; (((simp only [push_cast] <;> fail "n"))); (((simp only [push_cast] <;> fail "n"))); (((simp only [push_cast] <;> fail "n"))))) <;> (try simp only [push_cast, Nat.zero_lt_succ, Nat.reduceAdd, Nat.reduceBEq, Nat.reduceLeDiff, reduceCtorEq, Int.reduceEq, *])) | refine And.intro ?_ ?_ | omega)
end Go.Proofs.YtggmkfagcjdifaaDoor
