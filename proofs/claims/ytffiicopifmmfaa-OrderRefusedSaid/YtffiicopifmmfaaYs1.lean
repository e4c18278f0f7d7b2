/- Facts of the program over abstract values. No condition. -/
import Derived.Test.YtffiicopifmmfaaYl
import Derived.Test.YtffiicopifmmfaaYh0
import Derived.Test.YtffiicopifmmfaaOrAl2
set_option linter.unusedSimpArgs false
set_option linter.unusedVariables false
set_option maxRecDepth 8000
namespace Go.Proofs.Ytffiicopifmmfaa
set_option linter.unusedSimpArgs false
set_option linter.unusedVariables false
set_option linter.unnecessarySimpa false
set_option linter.unusedSectionVars false
open Go.Proofs.Try
open Go.Proofs.Ytffiicopifmmfaa.Ai
set_option maxHeartbeats 4000000

/-! Refused calls leave no trace -/
def okC7 (m : Tm) (b : Bk) (x : Cc) : Bool := decide (x.dv.tmod 7 ≤ 4) && decide ((progR b m x).e = 0)
def goU (m : Tm) (xs : List Cc) : Nat → List Cc
  | 0 => []
  | k + 1 => goU m xs k ++ (bif okC7 m (plB m xs k) (xs.getD k ⟨0, 0, 0, 0, 0⟩) then [xs.getD k ⟨0, 0, 0, 0, 0⟩] else [])
theorem goU_step {m : Tm} {xs : List Cc} {k : Nat} {x : Cc} (hx : xs[k]? = some x) : goU m xs (k + 1) = goU m xs k ++ (bif okC7 m (plB m xs k) x then [x] else []) := by
  simp [goU, List.getD, hx]
theorem goU_len {m : Tm} {xs : List Cc} : ∀ k, (goU m xs k).length ≤ k
  | 0 => Nat.le_refl _
  | k + 1 => by
    have := goU_len (m := m) (xs := xs) k
    simp only [goU, List.length_append]
    cases okC7 m (plB m xs k) (xs.getD k ⟨0, 0, 0, 0, 0⟩) <;> simp <;> omega
def gB (m : Tm) (g : List Cc) : Nat → Bk
  | 0 => zB
  | j + 1 => (progR (gB m g j) m (g.getD j ⟨0, 0, 0, 0, 0⟩)).bk
theorem gB_step {m : Tm} {g : List Cc} {j : Nat} {x : Cc} (hx : g[j]? = some x) : gB m g (j + 1) = (progR (gB m g j) m x).bk := by simp [gB, List.getD, hx]
theorem gB_app {m : Tm} {g g' : List Cc} : ∀ j, j ≤ g.length → gB m (g ++ g') j = gB m g j
  | 0, _ => rfl
  | j + 1, h => by
    have e := gB_app (m := m) (g := g) (g' := g') j (by omega)
    have e2 : (g ++ g').getD j ⟨0, 0, 0, 0, 0⟩ = g.getD j ⟨0, 0, 0, 0, 0⟩ := by simp [List.getD, List.getElem?_append_left (show j < g.length by omega)]
    simp only [gB, e, e2]
theorem go_inv {m : Tm} {xs : List Cc} (h : okCalls xs) : ∀ k, k ≤ xs.length → gB m (goU m xs k) (goU m xs k).length = plB m xs k ∧ (∀ x ∈ goU m xs k, x ∈ xs) ∧ ∀ (j : Nat) (x : Cc), (goU m xs k)[j]? = some x → x.dv.tmod 7 ≤ 4 ∧ (progR (gB m (goU m xs k) j) m x).e = 0
  | 0, _ => ⟨rfl, nofun, nofun⟩
  | k + 1, hk => by
    obtain ⟨h1, h2, h3⟩ := go_inv h k (by omega)
    obtain ⟨x, hx⟩ := lt_get (xs := xs) (k := k) (by omega)
    rw [goU_step hx, plB_step hx]
    cases hc : okC7 m (plB m xs k) x
    · simp only [cond_false, List.append_nil]
      refine ⟨?_, h2, h3⟩
      rw [h1]
      unfold okC7 at hc
      rw [hc]; rfl
    · simp only [cond_true]
      have hc' := hc
      unfold okC7 at hc'
      rw [hc']
      refine ⟨?_, fun y hy => ?_, fun j y hy => ?_⟩
      · rw [List.length_append, List.length_singleton, gB_step (x := x) (by simp), gB_app _ (Nat.le_refl _), h1]; rfl
      · simp only [List.mem_append, List.mem_singleton] at hy
        rcases hy with hy | rfl
        · exact h2 y hy
        · exact List.mem_of_getElem? hx
      · rcases Nat.lt_or_ge j (goU m xs k).length with hj | hj
        · rw [List.getElem?_append_left hj] at hy
          rw [gB_app j (by omega)]
          exact h3 j y hy
        · have hl := (List.getElem?_eq_some_iff.1 hy).1
          rw [List.length_append, List.length_singleton] at hl
          obtain rfl : j = (goU m xs k).length := by omega
          simp only [List.getElem?_concat_length, Option.some.injEq] at hy
          subst hy
          rw [gB_app _ (Nat.le_refl _), h1]
          simp only [Bool.and_eq_true, decide_eq_true_eq] at hc'
          exact hc'
theorem gB_ok {m : Tm} {g : List Cc} (h : okCalls g) (hg : ∀ (j : Nat) (x : Cc), g[j]? = some x → x.dv.tmod 7 ≤ 4 ∧ (progR (gB m g j) m x).e = 0) : ∀ j, j ≤ g.length → gB m g j = zB ∨ bookE (gB m g j) m = 0
  | 0, _ => .inl rfl
  | j + 1, hj => by
    obtain ⟨x, hx⟩ := lt_get (xs := g) (k := j) (by omega)
    obtain ⟨n1, n2⟩ := h.at hx
    obtain ⟨k1, k2⟩ := hg j x hx
    rw [gB_step hx]
    exact .inr (prog_valid n1 n2 k1 k2)
theorem nilBk {rows : Ai.Rows} {Z : Nat → Bool} {rho : Nat → Nat} {n : Nat} : cellsCv rows Z rho n [[.nils, .nils, .int .u64 0, .int .i64 0]] [bkc zB] := by
  refine ⟨⟨⟨.nilsR 6, .nilsR 1, .int _ _, .int _ _, trivial⟩, trivial⟩, ?_⟩
  intro x hx v hv
  have := cl_bk zB
  rw [cl_agg] at this
  simp only [List.mem_cons, List.not_mem_nil, or_false] at hx
  subst hx
  exact (this v hv).bel
theorem law_refused (m : Tm) (ht : Tfit m) (xs : List Cc) (hx : okCalls xs) (hl : xs.length < 2 ^ 43) : PCall prog 13 [.agg (tmc m), .ros 5 (xs.map clc)] (.bool true) := by
  by_cases h300 : xs.length ≤ 300
  case neg =>
    have hd : decide ((xs.length : Int) > 300) = true := by simp; omega
    obtain ⟨c, hb, hl⟩ := l13
    refine pcall_of mixed e13 hb rfl hl r13 (by rw [n13]; simp) ?_
    clear hb hl c
    (try simp only [push_cast, seval, reduceCtorEq, hd])
    repeat' (first
      | ((first | ((first | refine brX_split ?_ ?_ | refine gX_split ?_ ?_ | refine hX_split ?_ ?_ | refine outK_split ?_ ?_) <;> (intro xc; (try simp only [Bool.not_eq_true', Bool.not_eq_false'] at xc); have xp := xc; (try simp only [decide_eq_true_eq, decide_eq_false_iff_not, Int.not_lt, Int.not_le, ge_iff_le, gt_iff_lt, Bool.and_eq_true, Bool.or_eq_false_iff] at xp); have xq := xp; (first | simp only [← Int.not_le] at xq | simp only [← Int.not_lt] at xq | clear xq))) | refine ⟨.ret _, _, PCall.s (by first | exact alive_p) (by simp [push_cast, hd]), ?_⟩ | refine ⟨.ret _, _, RCall.s (RCall.sh (by first | exact alive_p)) (by simp [push_cast, hd]), ?_⟩ | refine ⟨_, _, SCall.lift (by first | exact alive_p) (outR_cl (by simp [push_cast]) (by simp [push_cast])) (by simp [push_cast, hd]), ?_⟩ | refine ⟨_, (by first | exact alive_p), ?_⟩ | refine ⟨0, [], _, PCall.r (by first | exact alive_p), ?_⟩ | refine ⟨_, _, (by first | exact alive_p), ?_⟩ | refine ⟨_, _, _, RCall.sh (by first | exact alive_p), ?_⟩ | refine ⟨_, _, _, (by first | exact alive_p), ?_⟩ | ((fail_if_success (refine ⟨_, ?_, ?_⟩)); refine ⟨AV.any, ?_⟩) | refine ret_frz rfl ?_ (by simp [push_cast]) (by simp [push_cast, hd]) (by simp [push_cast, hd]) | refine end_frz rfl ?_ (by simp [push_cast]) (by simp [push_cast, hd]) (by simp [push_cast, hd]) | refine ret_now (by simp [push_cast]) ?_ (by simp [push_cast]) | refine end_now (by simp [push_cast]) ?_ (by simp [push_cast])) <;> (try simp only [push_cast, seval, reduceCtorEq, *, hd]))
      | ((first | refine cv_ptE rfl rfl rfl rfl rfl ?_ | refine outQ_frz rfl ?_ (by simp [push_cast]) (by simp [push_cast, hd]) | refine dfr_end (by simp) rfl ?_ (by simp [push_cast]) (by simp [push_cast, hd])) <;> (try simp only [push_cast, seval, reduceCtorEq, hd]))
      | exact cv_slE rfl rfl ⟨rfl, rfl⟩ (by simp) (by simp [take_map_len])
      | refine outQ_pan ?_ (by simp [push_cast])
      | refine outQ_unit ?_
      | refine outQ_unitN ?_
      | refine And.intro ?_ ?_
      | omega)
    all_goals (try simp only [push_cast, seval, reduceCtorEq, hd])
    all_goals first
      | (simp only [*, hd]; done)
      | (simp [*, hd]; done)
      | (simp_all [hd]; done)
      | (simp_all [hd]; omega)
      | skip
  have hd : decide ((xs.length : Int) > 300) = false := by simp; omega
  have hd2 : decide ((300 : Int) < xs.length) = false := by simp; omega
  obtain ⟨c, hb, hl⟩ := l13
  refine pcall_of mixed e13 hb rfl hl r13 (by rw [n13]; simp) ?_
  clear hb hl c
  (try simp only [push_cast, seval, reduceCtorEq, hd, hd2])
  repeat' (first
    | ((first | ((first | refine brX_split ?_ ?_ | refine gX_split ?_ ?_ | refine hX_split ?_ ?_ | refine outK_split ?_ ?_) <;> (intro xc; (try simp only [Bool.not_eq_true', Bool.not_eq_false'] at xc); have xp := xc; (try simp only [decide_eq_true_eq, decide_eq_false_iff_not, Int.not_lt, Int.not_le, ge_iff_le, gt_iff_lt, Bool.and_eq_true, Bool.or_eq_false_iff] at xp); have xq := xp; (first | simp only [← Int.not_le] at xq | simp only [← Int.not_lt] at xq | clear xq))) | refine ⟨.ret _, _, PCall.s (by first | exact alive_p) (by simp [push_cast, hd, hd2]), ?_⟩ | refine ⟨.ret _, _, RCall.s (RCall.sh (by first | exact alive_p)) (by simp [push_cast, hd, hd2]), ?_⟩ | refine ⟨_, _, SCall.lift (by first | exact alive_p) (outR_cl (by simp [push_cast]) (by simp [push_cast])) (by simp [push_cast, hd, hd2]), ?_⟩ | refine ⟨_, (by first | exact alive_p), ?_⟩ | refine ⟨0, [], _, PCall.r (by first | exact alive_p), ?_⟩ | refine ⟨_, _, (by first | exact alive_p), ?_⟩ | refine ⟨_, _, _, RCall.sh (by first | exact alive_p), ?_⟩ | refine ⟨_, _, _, (by first | exact alive_p), ?_⟩ | ((fail_if_success (refine ⟨_, ?_, ?_⟩)); refine ⟨AV.any, ?_⟩) | refine ret_frz rfl ?_ (by simp [push_cast]) (by simp [push_cast, hd, hd2]) (by simp [push_cast, hd, hd2]) | refine end_frz rfl ?_ (by simp [push_cast]) (by simp [push_cast, hd, hd2]) (by simp [push_cast, hd, hd2]) | refine ret_now (by simp [push_cast]) ?_ (by simp [push_cast]) | refine end_now (by simp [push_cast]) ?_ (by simp [push_cast])) <;> (try simp only [push_cast, seval, reduceCtorEq, *, hd, hd2]))
    | ((first | refine cv_ptE rfl rfl rfl rfl rfl ?_ | refine outQ_frz rfl ?_ (by simp [push_cast]) (by simp [push_cast, hd, hd2]) | refine dfr_end (by simp) rfl ?_ (by simp [push_cast]) (by simp [push_cast, hd, hd2])) <;> (try simp only [push_cast, seval, reduceCtorEq, hd, hd2]))
    | exact cv_slE rfl rfl ⟨rfl, rfl⟩ (by simp) (by simp [take_map_len])
    | refine outQ_pan ?_ (by simp [push_cast])
    | refine outQ_unit ?_
    | refine outQ_unitN ?_
    | refine And.intro ?_ ?_
    | omega)
  all_goals (try simp only [push_cast, seval, reduceCtorEq, hd, hd2])
  all_goals first
    | (simp only [*, hd, hd2]; done)
    | (simp [*, hd, hd2]; done)
    | (simp_all [hd, hd2]; done)
    | (simp_all [hd, hd2]; omega)
    | skip
  refine w_loopS (fun k : Nat => ([(1, .ros 5 (xs.map clc)), (2, .pt 0 8 0 0), (5, .bool true), (6, .pt 1 4 0 0), (7, accV 2 5 ((goU m xs k).map clc)), (8, .int .i64 k)], ⟨3, [(0, ⟨8, [tmc m]⟩), (1, ⟨4, [bkc (plB m xs k)]⟩)] ++ accR 2 5 ((goU m xs k).map clc)⟩)) (fun k => k ≤ xs.length) (fun k => xs.length - k) 0 (Nat.zero_le _) ?_ ?_
  · simp only [plB, goU, List.map_nil, accV, accR, List.append_nil]
    (apply Wk.renA (fun _ => false); (case he => (try simp only [push_cast, Nat.reduceBEq, Nat.reduceLeDiff, Nat.reduceAdd]); (repeat' (first | exact trivial | (refine cv_ptE rfl rfl rfl rfl rfl ?_; simp only [push_cast, Nat.reduceBEq, Nat.reduceLeDiff, Nat.reduceAdd]) | exact cv_slE rfl rfl ⟨rfl, rfl⟩ (by simp) (by simp [take_map_len]) | exact cv_slG rfl rfl ⟨rfl, rfl⟩ (by simp) (by first | rfl | (simp; done)) (by first | rfl | (simp; done) | (simp; omega)) (by simp [push_cast]) | exact cv_ros_self (by simp [push_cast]) | exact bel_ros_cl (by simp [push_cast]) | exact nilBk | exact cellsCv_eq (by simp [take_map_len]) (by simp [push_cast]) | refine And.intro ?_ ?_ | rfl | omega | (simp; done) | (simp; omega)))); (case hr => (try simp only [push_cast, Nat.reduceBEq, Nat.reduceLeDiff, Nat.reduceAdd]); (repeat' (first | exact trivial | (refine cv_ptE rfl rfl rfl rfl rfl ?_; simp only [push_cast, Nat.reduceBEq, Nat.reduceLeDiff, Nat.reduceAdd]) | exact cv_slE rfl rfl ⟨rfl, rfl⟩ (by simp) (by simp [take_map_len]) | exact cv_slG rfl rfl ⟨rfl, rfl⟩ (by simp) (by first | rfl | (simp; done)) (by first | rfl | (simp; done) | (simp; omega)) (by simp [push_cast]) | exact cv_ros_self (by simp [push_cast]) | exact bel_ros_cl (by simp [push_cast]) | exact nilBk | exact cellsCv_eq (by simp [take_map_len]) (by simp [push_cast]) | refine And.intro ?_ ?_ | rfl | omega | (simp; done) | (simp; omega)))); (case hinj => simp [rhoA_0, rhoA_1, rhoA_2]); all_goals exact 0)
  intro k hk
  obtain ⟨s1, s2⟩ := plB_small (m := m) hx hk
  have hf : Fit (plB m xs k) m := ht.fit (by omega) (by omega)
  have hgl := goU_len (m := m) (xs := xs) k
  rcases Nat.lt_or_ge k xs.length with hk' | hk'
  · obtain ⟨x, hxk⟩ := lt_get hk'
    obtain ⟨n1, n2⟩ := hx.at hxk
    have c1 := program_p hf x n1
    have c4 := changes_p x
    have hs := plB_step (m := m) hxk
    have hs2 := goU_step (m := m) hxk
    have hg := getD_map (enc := clc) hxk
    have hd := dlt hk'
    have hw := inc64 (k := k) (by omega)
    unfold okC7 at hs2
    clear hx ht hf hd2
    generalize hacc : goU m xs k = acc at *
    by_cases a2 : (progR (plB m xs k) m x).e = 0
    · by_cases a1 : x.dv.tmod 7 ≤ 4
      · simp only [a1, a2, decide_true, decide_false, Bool.and_true, Bool.and_false, Bool.true_and, Bool.false_and, cond_true, cond_false] at hs hs2 c4
        generalize progR (plB m xs k) m x = R at *
        generalize hB : plB m xs k = B at *
        obtain ⟨Rb, Rid, Ro, Rt, Re⟩ := R
        simp only at a2 hs
        subst a2
        rcases acc with _ | ⟨a, l⟩
        all_goals
          simp only [List.map_nil, List.map_cons, accV, accR, List.append_nil, List.cons_append, List.nil_append]
          (try simp only [push_cast, seval, reduceCtorEq, hg, hd, hw])
          repeat' (first
            | ((first | ((first | refine brX_split ?_ ?_ | refine gX_split ?_ ?_ | refine hX_split ?_ ?_ | refine outK_split ?_ ?_) <;> (intro xc; (try simp only [Bool.not_eq_true', Bool.not_eq_false'] at xc); have xp := xc; (try simp only [decide_eq_true_eq, decide_eq_false_iff_not, Int.not_lt, Int.not_le, ge_iff_le, gt_iff_lt, Bool.and_eq_true, Bool.or_eq_false_iff] at xp); have xq := xp; (first | simp only [← Int.not_le] at xq | simp only [← Int.not_lt] at xq | clear xq))) | refine ⟨.ret _, _, PCall.s (by first | assumption) (by simp [push_cast, hg, hd, hw]), ?_⟩ | refine ⟨.ret _, _, RCall.s (RCall.sh (by first | assumption)) (by simp [push_cast, hg, hd, hw]), ?_⟩ | refine ⟨_, _, SCall.lift (by first | assumption) (outR_cl (by simp [push_cast]) (by simp [push_cast])) (by simp [push_cast, hg, hd, hw]), ?_⟩ | refine ⟨_, (by first | assumption), ?_⟩ | refine ⟨0, [], _, PCall.r (by first | assumption), ?_⟩ | refine ⟨_, _, (by first | assumption), ?_⟩ | refine ⟨_, _, _, RCall.sh (by first | assumption), ?_⟩ | refine ⟨_, _, _, (by first | assumption), ?_⟩ | ((fail_if_success (refine ⟨_, ?_, ?_⟩)); refine ⟨AV.any, ?_⟩) | refine ret_frz rfl ?_ (by simp [push_cast]) (by simp [push_cast, hg, hd, hw]) (by simp [push_cast, hg, hd, hw]) | refine end_frz rfl ?_ (by simp [push_cast]) (by simp [push_cast, hg, hd, hw]) (by simp [push_cast, hg, hd, hw]) | refine ret_now (by simp [push_cast]) ?_ (by simp [push_cast]) | refine end_now (by simp [push_cast]) ?_ (by simp [push_cast])) <;> (try simp only [push_cast, seval, reduceCtorEq, *, hg, hd, hw]))
            | ((first | refine cv_ptE rfl rfl rfl rfl rfl ?_ | refine outQ_frz rfl ?_ (by simp [push_cast]) (by simp [push_cast, hg, hd, hw]) | refine dfr_end (by simp) rfl ?_ (by simp [push_cast]) (by simp [push_cast, hg, hd, hw])) <;> (try simp only [push_cast, seval, reduceCtorEq, hg, hd, hw]))
            | exact cv_slE rfl rfl ⟨rfl, rfl⟩ (by simp) (by simp [take_map_len])
            | refine outQ_pan ?_ (by simp [push_cast])
            | refine outQ_unit ?_
            | refine outQ_unitN ?_
            | refine And.intro ?_ ?_
            | omega)
          all_goals (try simp only [push_cast, seval, reduceCtorEq, hg, hd, hw])
          all_goals first
            | (simp only [*, hg, hd, hw]; done)
            | (simp [*, hg, hd, hw]; done)
            | (simp_all [hg, hd, hw]; done)
            | (simp_all [hg, hd, hw]; omega)
            | skip
          all_goals
            (refine rnd_to _ _ _ (k + 1) hk' (by first | omega | (dsimp only; omega)) ?_; (try simp [hs, hs2, hB, hacc, List.map_append, accV, accR, accV_snoc, accR_snoc, List.length_append, *]); refine Wk.ren (fun _ => false) (fun i => (bif i == 2 then 34 else i)) (by simp) (by simp) ?_ ?_ (by simp) <;> (try simp only [push_cast, Nat.reduceBEq, Nat.reduceLeDiff, Nat.reduceAdd]) <;> (repeat' (first | exact trivial | (refine cv_ptE rfl rfl rfl rfl rfl ?_; simp only [push_cast, Nat.reduceBEq, Nat.reduceLeDiff, Nat.reduceAdd]) | exact cv_slE rfl rfl ⟨rfl, rfl⟩ (by simp) (by simp [take_map_len]) | exact cv_slG rfl rfl ⟨rfl, rfl⟩ (by simp) (by first | rfl | (simp; done)) (by first | rfl | (simp; done) | (simp; omega)) (by simp [push_cast]) | exact cv_ros_self (by simp [push_cast]) | exact bel_ros_cl (by simp [push_cast]) | exact nilBk | exact cellsCv_eq (by simp [take_map_len]) (by simp [push_cast]) | refine And.intro ?_ ?_ | rfl | omega | (simp; done) | (simp; omega))))
      · simp only [a1, a2, decide_true, decide_false, Bool.and_true, Bool.and_false, Bool.true_and, Bool.false_and, cond_true, cond_false] at hs hs2 c4
        generalize progR (plB m xs k) m x = R at *
        generalize hB : plB m xs k = B at *
        obtain ⟨Rb, Rid, Ro, Rt, Re⟩ := R
        simp only at a2 hs
        subst a2
        rcases acc with _ | ⟨a, l⟩
        all_goals
          simp only [List.map_nil, List.map_cons, accV, accR, List.append_nil, List.cons_append, List.nil_append]
          (try simp only [push_cast, seval, reduceCtorEq, hg, hd, hw])
          repeat' (first
            | ((first | ((first | refine brX_split ?_ ?_ | refine gX_split ?_ ?_ | refine hX_split ?_ ?_ | refine outK_split ?_ ?_) <;> (intro xc; (try simp only [Bool.not_eq_true', Bool.not_eq_false'] at xc); have xp := xc; (try simp only [decide_eq_true_eq, decide_eq_false_iff_not, Int.not_lt, Int.not_le, ge_iff_le, gt_iff_lt, Bool.and_eq_true, Bool.or_eq_false_iff] at xp); have xq := xp; (first | simp only [← Int.not_le] at xq | simp only [← Int.not_lt] at xq | clear xq))) | refine ⟨.ret _, _, PCall.s (by first | assumption) (by simp [push_cast, hg, hd, hw]), ?_⟩ | refine ⟨.ret _, _, RCall.s (RCall.sh (by first | assumption)) (by simp [push_cast, hg, hd, hw]), ?_⟩ | refine ⟨_, _, SCall.lift (by first | assumption) (outR_cl (by simp [push_cast]) (by simp [push_cast])) (by simp [push_cast, hg, hd, hw]), ?_⟩ | refine ⟨_, (by first | assumption), ?_⟩ | refine ⟨0, [], _, PCall.r (by first | assumption), ?_⟩ | refine ⟨_, _, (by first | assumption), ?_⟩ | refine ⟨_, _, _, RCall.sh (by first | assumption), ?_⟩ | refine ⟨_, _, _, (by first | assumption), ?_⟩ | ((fail_if_success (refine ⟨_, ?_, ?_⟩)); refine ⟨AV.any, ?_⟩) | refine ret_frz rfl ?_ (by simp [push_cast]) (by simp [push_cast, hg, hd, hw]) (by simp [push_cast, hg, hd, hw]) | refine end_frz rfl ?_ (by simp [push_cast]) (by simp [push_cast, hg, hd, hw]) (by simp [push_cast, hg, hd, hw]) | refine ret_now (by simp [push_cast]) ?_ (by simp [push_cast]) | refine end_now (by simp [push_cast]) ?_ (by simp [push_cast])) <;> (try simp only [push_cast, seval, reduceCtorEq, *, hg, hd, hw]))
            | ((first | refine cv_ptE rfl rfl rfl rfl rfl ?_ | refine outQ_frz rfl ?_ (by simp [push_cast]) (by simp [push_cast, hg, hd, hw]) | refine dfr_end (by simp) rfl ?_ (by simp [push_cast]) (by simp [push_cast, hg, hd, hw])) <;> (try simp only [push_cast, seval, reduceCtorEq, hg, hd, hw]))
            | exact cv_slE rfl rfl ⟨rfl, rfl⟩ (by simp) (by simp [take_map_len])
            | refine outQ_pan ?_ (by simp [push_cast])
            | refine outQ_unit ?_
            | refine outQ_unitN ?_
            | refine And.intro ?_ ?_
            | omega)
          all_goals (try simp only [push_cast, seval, reduceCtorEq, hg, hd, hw])
          all_goals first
            | (simp only [*, hg, hd, hw]; done)
            | (simp [*, hg, hd, hw]; done)
            | (simp_all [hg, hd, hw]; done)
            | (simp_all [hg, hd, hw]; omega)
            | skip
          all_goals
            (refine rnd_to _ _ _ (k + 1) hk' (by first | omega | (dsimp only; omega)) ?_; (try simp [hs, hs2, hB, hacc, List.map_append, accV, accR, accV_snoc, accR_snoc, List.length_append, *]); refine Wk.ren (fun _ => false) (fun i => i) (by simp) (by simp) ?_ ?_ (by simp) <;> (try simp only [push_cast, Nat.reduceBEq, Nat.reduceLeDiff, Nat.reduceAdd]) <;> (repeat' (first | exact trivial | (refine cv_ptE rfl rfl rfl rfl rfl ?_; simp only [push_cast, Nat.reduceBEq, Nat.reduceLeDiff, Nat.reduceAdd]) | exact cv_slE rfl rfl ⟨rfl, rfl⟩ (by simp) (by simp [take_map_len]) | exact cv_slG rfl rfl ⟨rfl, rfl⟩ (by simp) (by first | rfl | (simp; done)) (by first | rfl | (simp; done) | (simp; omega)) (by simp [push_cast]) | exact cv_ros_self (by simp [push_cast]) | exact bel_ros_cl (by simp [push_cast]) | exact nilBk | exact cellsCv_eq (by simp [take_map_len]) (by simp [push_cast]) | refine And.intro ?_ ?_ | rfl | omega | (simp; done) | (simp; omega))))
    · simp only [a2, decide_false, Bool.and_false, cond_false] at hs hs2
      generalize progR (plB m xs k) m x = R at *
      generalize hB : plB m xs k = B at *
      rcases acc with _ | ⟨a, l⟩
      all_goals
        simp only [List.map_nil, List.map_cons, accV, accR, List.append_nil, List.cons_append, List.nil_append]
        (try simp only [push_cast, seval, reduceCtorEq, hg, hd, hw, a2])
        repeat' (first
          | ((first | ((first | refine brX_split ?_ ?_ | refine gX_split ?_ ?_ | refine hX_split ?_ ?_ | refine outK_split ?_ ?_) <;> (intro xc; (try simp only [Bool.not_eq_true', Bool.not_eq_false'] at xc); have xp := xc; (try simp only [decide_eq_true_eq, decide_eq_false_iff_not, Int.not_lt, Int.not_le, ge_iff_le, gt_iff_lt, Bool.and_eq_true, Bool.or_eq_false_iff] at xp); have xq := xp; (first | simp only [← Int.not_le] at xq | simp only [← Int.not_lt] at xq | clear xq))) | refine ⟨.ret _, _, PCall.s (by first | assumption) (by simp [push_cast, hg, hd, hw, a2]), ?_⟩ | refine ⟨.ret _, _, RCall.s (RCall.sh (by first | assumption)) (by simp [push_cast, hg, hd, hw, a2]), ?_⟩ | refine ⟨_, _, SCall.lift (by first | assumption) (outR_cl (by simp [push_cast]) (by simp [push_cast])) (by simp [push_cast, hg, hd, hw, a2]), ?_⟩ | refine ⟨_, (by first | assumption), ?_⟩ | refine ⟨0, [], _, PCall.r (by first | assumption), ?_⟩ | refine ⟨_, _, (by first | assumption), ?_⟩ | refine ⟨_, _, _, RCall.sh (by first | assumption), ?_⟩ | refine ⟨_, _, _, (by first | assumption), ?_⟩ | ((fail_if_success (refine ⟨_, ?_, ?_⟩)); refine ⟨AV.any, ?_⟩) | refine ret_frz rfl ?_ (by simp [push_cast]) (by simp [push_cast, hg, hd, hw, a2]) (by simp [push_cast, hg, hd, hw, a2]) | refine end_frz rfl ?_ (by simp [push_cast]) (by simp [push_cast, hg, hd, hw, a2]) (by simp [push_cast, hg, hd, hw, a2]) | refine ret_now (by simp [push_cast]) ?_ (by simp [push_cast]) | refine end_now (by simp [push_cast]) ?_ (by simp [push_cast])) <;> (try simp only [push_cast, seval, reduceCtorEq, *, hg, hd, hw, a2]))
          | ((first | refine cv_ptE rfl rfl rfl rfl rfl ?_ | refine outQ_frz rfl ?_ (by simp [push_cast]) (by simp [push_cast, hg, hd, hw, a2]) | refine dfr_end (by simp) rfl ?_ (by simp [push_cast]) (by simp [push_cast, hg, hd, hw, a2])) <;> (try simp only [push_cast, seval, reduceCtorEq, hg, hd, hw, a2]))
          | exact cv_slE rfl rfl ⟨rfl, rfl⟩ (by simp) (by simp [take_map_len])
          | refine outQ_pan ?_ (by simp [push_cast])
          | refine outQ_unit ?_
          | refine outQ_unitN ?_
          | refine And.intro ?_ ?_
          | omega)
        all_goals (try simp only [push_cast, seval, reduceCtorEq, hg, hd, hw, a2])
        all_goals first
          | (simp only [*, hg, hd, hw, a2]; done)
          | (simp [*, hg, hd, hw, a2]; done)
          | (simp_all [hg, hd, hw, a2]; done)
          | (simp_all [hg, hd, hw, a2]; omega)
          | skip
        all_goals
          (refine rnd_to _ _ _ (k + 1) hk' (by first | omega | (dsimp only; omega)) ?_; (try simp [hs, hs2, hB, hacc, List.map_append, accV, accR, accV_snoc, accR_snoc, List.length_append, *]); refine Wk.ren (fun _ => false) (fun i => i) (by simp) (by simp) ?_ ?_ (by simp) <;> (try simp only [push_cast, Nat.reduceBEq, Nat.reduceLeDiff, Nat.reduceAdd]) <;> (repeat' (first | exact trivial | (refine cv_ptE rfl rfl rfl rfl rfl ?_; simp only [push_cast, Nat.reduceBEq, Nat.reduceLeDiff, Nat.reduceAdd]) | exact cv_slE rfl rfl ⟨rfl, rfl⟩ (by simp) (by simp [take_map_len]) | exact cv_slG rfl rfl ⟨rfl, rfl⟩ (by simp) (by first | rfl | (simp; done)) (by first | rfl | (simp; done) | (simp; omega)) (by simp [push_cast]) | exact cv_ros_self (by simp [push_cast]) | exact bel_ros_cl (by simp [push_cast]) | exact nilBk | exact cellsCv_eq (by simp [take_map_len]) (by simp [push_cast]) | refine And.intro ?_ ?_ | rfl | omega | (simp; done) | (simp; omega))))
  · have hd := dge hk'
    obtain rfl : k = xs.length := by omega
    obtain ⟨g1, g2, g3⟩ := go_inv (m := m) hx xs.length (Nat.le_refl _)
    have hgo : okCalls (goU m xs xs.length) := fun y hy => hx y (g2 y hy)
    have hss := sameSelf_p (plB m xs xs.length) (by omega) (by omega)
    have hgB := fun j hj => gB_ok (m := m) hgo g3 j hj
    generalize hacc : goU m xs xs.length = G at *
    have hG : ∀ j, j ≤ G.length → Fit (gB m G j) m := fun j hj => by
      rcases hgB j hj with e | e
      · rw [e]; exact ht.fit (by simp [zB]) (by simp [zB])
      · have := book0_len e; exact ht.fit (by omega) (by omega)
    rw [← g1] at hss ⊢
    clear hx ht hf hd2 g2 hgB s1 s2 g1
    rcases hGG : G with _ | ⟨a, l⟩
    all_goals
      simp only [List.map_nil, List.map_cons, accV, accR, List.append_nil, List.cons_append, List.nil_append]
      (try simp only [push_cast, seval, reduceCtorEq, hd])
      repeat' (first
        | ((first | ((first | refine brX_split ?_ ?_ | refine gX_split ?_ ?_ | refine hX_split ?_ ?_ | refine outK_split ?_ ?_) <;> (intro xc; (try simp only [Bool.not_eq_true', Bool.not_eq_false'] at xc); have xp := xc; (try simp only [decide_eq_true_eq, decide_eq_false_iff_not, Int.not_lt, Int.not_le, ge_iff_le, gt_iff_lt, Bool.and_eq_true, Bool.or_eq_false_iff] at xp); have xq := xp; (first | simp only [← Int.not_le] at xq | simp only [← Int.not_lt] at xq | clear xq))) | ((fail_if_success (refine ⟨_, ?_, ?_⟩)); refine ⟨AV.any, ?_⟩) | refine ret_frz rfl ?_ (by simp [push_cast]) (by simp [push_cast, hd]) (by simp [push_cast, hd]) | refine end_frz rfl ?_ (by simp [push_cast]) (by simp [push_cast, hd]) (by simp [push_cast, hd]) | refine ret_now (by simp [push_cast]) ?_ (by simp [push_cast]) | refine end_now (by simp [push_cast]) ?_ (by simp [push_cast])) <;> (try simp only [push_cast, seval, reduceCtorEq, *, hd]))
        | ((first | refine cv_ptE rfl rfl rfl rfl rfl ?_ | refine outQ_frz rfl ?_ (by simp [push_cast]) (by simp [push_cast, hd]) | refine dfr_end (by simp) rfl ?_ (by simp [push_cast]) (by simp [push_cast, hd])) <;> (try simp only [push_cast, seval, reduceCtorEq, hd]))
        | exact cv_slE rfl rfl ⟨rfl, rfl⟩ (by simp) (by simp [take_map_len])
        | refine outQ_pan ?_ (by simp [push_cast])
        | refine outQ_unit ?_
        | refine outQ_unitN ?_
        | refine And.intro ?_ ?_
        | omega)
      all_goals (try simp only [push_cast, seval, reduceCtorEq, hd])
      all_goals first
        | (simp only [*, hd]; done)
        | (simp [*, hd]; done)
        | (simp_all [hd]; done)
        | (simp_all [hd]; omega)
        | skip
    all_goals
      refine w_loopS (fun j : Nat => ([(2, .pt 0 8 0 0), (5, .bool true), (6, .pt 1 4 0 0), (7, .ros 5 (G.map clc)), (10, .pt 2 4 0 0), (11, .int .i64 j)], ⟨3, [(0, ⟨8, [tmc m]⟩), (1, ⟨4, [bkc (gB m G G.length)]⟩), (2, ⟨4, [bkc (gB m G j)]⟩)]⟩)) (fun j => j ≤ G.length) (fun j => G.length - j) 0 (Nat.zero_le _) ?_ ?_
      · simp only [hGG, gB, List.map_nil, List.map_cons, List.length_nil, List.length_cons]
        refine Wk.ren (fun i => i == 2) (fun i => (bif i == 2 then 8 else i)) (by simp) (by simp) ?_ ?_ (by simp) <;> (try simp only [push_cast, Nat.reduceBEq, Nat.reduceLeDiff, Nat.reduceAdd]) <;> (repeat' (first | exact trivial | (refine cv_ptE rfl rfl rfl rfl rfl ?_; simp only [push_cast, Nat.reduceBEq, Nat.reduceLeDiff, Nat.reduceAdd]) | exact cv_slE rfl rfl ⟨rfl, rfl⟩ (by simp) (by simp [take_map_len]) | exact cv_slG rfl rfl ⟨rfl, rfl⟩ (by simp) (by first | rfl | (simp; done)) (by first | rfl | (simp; done) | (simp; omega)) (by simp [push_cast]) | exact cv_ros_self (by simp [push_cast]) | exact bel_ros_cl (by simp [push_cast]) | exact nilBk | exact cellsCv_eq (by simp [take_map_len]) (by simp [push_cast]) | refine And.intro ?_ ?_ | rfl | omega | (simp; done) | (simp; omega)))
      clear hGG
      intro j hj
      rcases Nat.lt_or_ge j G.length with hj' | hj'
      · obtain ⟨x, hxj⟩ := lt_get hj'
        obtain ⟨n1, n2⟩ := hgo.at hxj
        have c1 := program_p (hG j hj) x n1
        obtain ⟨_, a2⟩ := g3 j x hxj
        have hs := gB_step (m := m) hxj
        have hg := getD_map (enc := clc) hxj
        have hd' := dlt hj'
        have hw := inc64 (k := j) (by omega)
        clear hd hss hgo hG g3
        generalize gB m G G.length = C at *
        generalize progR (gB m G j) m x = R at *
        generalize hB : gB m G j = B at *
        obtain ⟨Rb, Rid, Ro, Rt, Re⟩ := R
        simp only at a2 hs
        subst a2
        (try simp only [push_cast, seval, reduceCtorEq, hg, hd', hw])
        repeat' (first
          | ((first | ((first | refine brX_split ?_ ?_ | refine gX_split ?_ ?_ | refine hX_split ?_ ?_ | refine outK_split ?_ ?_) <;> (intro xc; (try simp only [Bool.not_eq_true', Bool.not_eq_false'] at xc); have xp := xc; (try simp only [decide_eq_true_eq, decide_eq_false_iff_not, Int.not_lt, Int.not_le, ge_iff_le, gt_iff_lt, Bool.and_eq_true, Bool.or_eq_false_iff] at xp); have xq := xp; (first | simp only [← Int.not_le] at xq | simp only [← Int.not_lt] at xq | clear xq))) | refine ⟨.ret _, _, PCall.s (by first | assumption) (by simp [push_cast, hg, hd', hw]), ?_⟩ | refine ⟨.ret _, _, RCall.s (RCall.sh (by first | assumption)) (by simp [push_cast, hg, hd', hw]), ?_⟩ | refine ⟨_, _, SCall.lift (by first | assumption) (outR_cl (by simp [push_cast]) (by simp [push_cast])) (by simp [push_cast, hg, hd', hw]), ?_⟩ | refine ⟨_, (by first | assumption), ?_⟩ | refine ⟨0, [], _, PCall.r (by first | assumption), ?_⟩ | refine ⟨_, _, (by first | assumption), ?_⟩ | refine ⟨_, _, _, RCall.sh (by first | assumption), ?_⟩ | refine ⟨_, _, _, (by first | assumption), ?_⟩ | ((fail_if_success (refine ⟨_, ?_, ?_⟩)); refine ⟨AV.any, ?_⟩) | refine ret_frz rfl ?_ (by simp [push_cast]) (by simp [push_cast, hg, hd', hw]) (by simp [push_cast, hg, hd', hw]) | refine end_frz rfl ?_ (by simp [push_cast]) (by simp [push_cast, hg, hd', hw]) (by simp [push_cast, hg, hd', hw]) | refine ret_now (by simp [push_cast]) ?_ (by simp [push_cast]) | refine end_now (by simp [push_cast]) ?_ (by simp [push_cast])) <;> (try simp only [push_cast, seval, reduceCtorEq, *, hg, hd', hw]))
          | ((first | refine cv_ptE rfl rfl rfl rfl rfl ?_ | refine outQ_frz rfl ?_ (by simp [push_cast]) (by simp [push_cast, hg, hd', hw]) | refine dfr_end (by simp) rfl ?_ (by simp [push_cast]) (by simp [push_cast, hg, hd', hw])) <;> (try simp only [push_cast, seval, reduceCtorEq, hg, hd', hw]))
          | exact cv_slE rfl rfl ⟨rfl, rfl⟩ (by simp) (by simp [take_map_len])
          | refine outQ_pan ?_ (by simp [push_cast])
          | refine outQ_unit ?_
          | refine outQ_unitN ?_
          | refine And.intro ?_ ?_
          | omega)
        all_goals (try simp only [push_cast, seval, reduceCtorEq, hg, hd', hw])
        all_goals first
          | (simp only [*, hg, hd', hw]; done)
          | (simp [*, hg, hd', hw]; done)
          | (simp_all [hg, hd', hw]; done)
          | (simp_all [hg, hd', hw]; omega)
          | skip
        all_goals
          (refine rnd_to _ _ _ (j + 1) hj' (by first | omega | (dsimp only; omega)) ?_; (try simp [hs, hB, List.map_append, accV, accR, accV_snoc, accR_snoc, List.length_append, *]); refine Wk.ren (fun _ => false) (fun i => i) (by simp) (by simp) ?_ ?_ (by simp) <;> (try simp only [push_cast, Nat.reduceBEq, Nat.reduceLeDiff, Nat.reduceAdd]) <;> (repeat' (first | exact trivial | (refine cv_ptE rfl rfl rfl rfl rfl ?_; simp only [push_cast, Nat.reduceBEq, Nat.reduceLeDiff, Nat.reduceAdd]) | exact cv_slE rfl rfl ⟨rfl, rfl⟩ (by simp) (by simp [take_map_len]) | exact cv_slG rfl rfl ⟨rfl, rfl⟩ (by simp) (by first | rfl | (simp; done)) (by first | rfl | (simp; done) | (simp; omega)) (by simp [push_cast]) | exact cv_ros_self (by simp [push_cast]) | exact bel_ros_cl (by simp [push_cast]) | exact nilBk | exact cellsCv_eq (by simp [take_map_len]) (by simp [push_cast]) | refine And.intro ?_ ?_ | rfl | omega | (simp; done) | (simp; omega))))
      · have hd' := dge hj'
        obtain rfl : j = G.length := by omega
        clear hgo hG g3
        generalize gB m G G.length = C at *
        (try simp only [push_cast, seval, reduceCtorEq, hd'])
        repeat' (first
          | ((first | ((first | refine brX_split ?_ ?_ | refine gX_split ?_ ?_ | refine hX_split ?_ ?_ | refine outK_split ?_ ?_) <;> (intro xc; (try simp only [Bool.not_eq_true', Bool.not_eq_false'] at xc); have xp := xc; (try simp only [decide_eq_true_eq, decide_eq_false_iff_not, Int.not_lt, Int.not_le, ge_iff_le, gt_iff_lt, Bool.and_eq_true, Bool.or_eq_false_iff] at xp); have xq := xp; (first | simp only [← Int.not_le] at xq | simp only [← Int.not_lt] at xq | clear xq))) | refine ⟨.ret _, _, PCall.s (by first | assumption) (by simp [push_cast, hd']), ?_⟩ | refine ⟨.ret _, _, RCall.s (RCall.sh (by first | assumption)) (by simp [push_cast, hd']), ?_⟩ | refine ⟨_, _, SCall.lift (by first | assumption) (outR_cl (by simp [push_cast]) (by simp [push_cast])) (by simp [push_cast, hd']), ?_⟩ | refine ⟨_, (by first | assumption), ?_⟩ | refine ⟨0, [], _, PCall.r (by first | assumption), ?_⟩ | refine ⟨_, _, (by first | assumption), ?_⟩ | refine ⟨_, _, _, RCall.sh (by first | assumption), ?_⟩ | refine ⟨_, _, _, (by first | assumption), ?_⟩ | ((fail_if_success (refine ⟨_, ?_, ?_⟩)); refine ⟨AV.any, ?_⟩) | refine ret_frz rfl ?_ (by simp [push_cast]) (by simp [push_cast, hd']) (by simp [push_cast, hd']) | refine end_frz rfl ?_ (by simp [push_cast]) (by simp [push_cast, hd']) (by simp [push_cast, hd']) | refine ret_now (by simp [push_cast]) ?_ (by simp [push_cast]) | refine end_now (by simp [push_cast]) ?_ (by simp [push_cast])) <;> (try simp only [push_cast, seval, reduceCtorEq, *, hd']))
          | ((first | refine cv_ptE rfl rfl rfl rfl rfl ?_ | refine outQ_frz rfl ?_ (by simp [push_cast]) (by simp [push_cast, hd']) | refine dfr_end (by simp) rfl ?_ (by simp [push_cast]) (by simp [push_cast, hd'])) <;> (try simp only [push_cast, seval, reduceCtorEq, hd']))
          | exact cv_slE rfl rfl ⟨rfl, rfl⟩ (by simp) (by simp [take_map_len])
          | refine outQ_pan ?_ (by simp [push_cast])
          | refine outQ_unit ?_
          | refine outQ_unitN ?_
          | refine And.intro ?_ ?_
          | omega)
        all_goals (try simp only [push_cast, seval, reduceCtorEq, hd'])
        all_goals first
          | (simp only [*, hd']; done)
          | (simp [*, hd']; done)
          | (simp_all [hd']; done)
          | (simp_all [hd']; omega)
          | skip
end Go.Proofs.Ytffiicopifmmfaa
