/- Facts of the program over abstract values. No condition. -/
import Derived.Test.YtffiicopifmmfaaZx
set_option linter.unusedSimpArgs false
set_option linter.unusedVariables false
set_option maxRecDepth 8000
namespace Go.Proofs.Ytffiicopifmmfaa
set_option linter.unusedSimpArgs false
set_option linter.unusedVariables false
set_option linter.unnecessarySimpa false
set_option linter.unusedSectionVars false
open Go.Proofs.Try
open Go.Proofs.Ytffiicopifmmfaa.Ai
set_option maxHeartbeats 4000000

/-! What a call comes to -/
theorem changes_p (x : Cc) : PCall prog 26 [.agg (clc x)] (.bool (decide (x.dv.tmod 7 ≤ 4))) := by
  obtain ⟨c, hb, hl⟩ := l26
  refine pcall_of mixed e26 hb rfl hl r26 (by rw [n26]; simp) ?_
  clear hb hl c
  (try simp only [push_cast, seval, reduceCtorEq])
  repeat' (first
    | ((first | ((first | refine brX_split ?_ ?_ | refine gX_split ?_ ?_ | refine hX_split ?_ ?_ | refine outK_split ?_ ?_) <;> (intro xc; (try simp only [Bool.not_eq_true', Bool.not_eq_false'] at xc); have xp := xc; (try simp only [decide_eq_true_eq, decide_eq_false_iff_not, Int.not_lt, Int.not_le, ge_iff_le, gt_iff_lt, Bool.and_eq_true, Bool.or_eq_false_iff] at xp); have xq := xp; (first | simp only [← Int.not_le] at xq | simp only [← Int.not_lt] at xq | clear xq))) | ((fail_if_success (refine ⟨_, ?_, ?_⟩)); refine ⟨AV.any, ?_⟩) | refine ret_frz rfl ?_ (by simp [push_cast]) (by simp [push_cast]) (by simp [push_cast]) | refine end_frz rfl ?_ (by simp [push_cast]) (by simp [push_cast]) (by simp [push_cast]) | refine ret_now (by simp [push_cast]) ?_ (by simp [push_cast]) | refine end_now (by simp [push_cast]) ?_ (by simp [push_cast])) <;> (try simp only [push_cast, seval, reduceCtorEq, *]))
    | ((first | refine cv_ptE rfl rfl rfl rfl rfl ?_ | refine outQ_frz rfl ?_ (by simp [push_cast]) (by simp [push_cast]) | refine dfr_end (by simp) rfl ?_ (by simp [push_cast]) (by simp [push_cast])) <;> (try simp only [push_cast, seval, reduceCtorEq]))
    | exact cv_slE rfl rfl ⟨rfl, rfl⟩ (by simp) (by simp [take_map_len])
    | refine outQ_pan ?_ (by simp [push_cast])
    | refine outQ_unit ?_
    | refine outQ_unitN ?_
    | refine And.intro ?_ ?_
    | omega)
  all_goals (try simp only [push_cast, seval, reduceCtorEq])
  all_goals first
    | (simp only [*]; done)
    | (simp [*]; done)
    | (simp_all []; done)
    | (simp_all []; omega)
    | skip
theorem prog_valid {b : Bk} {m : Tm} {x : Cc} (hx : 0 ≤ x.dv) (hn : 0 ≤ x.now) (hd : x.dv.tmod 7 ≤ 4) (he : (progR b m x).e = 0) : bookE (progR b m x).bk m = 0 := by
  have h8 := tmod7 hx
  rcases h8 with h8 | h8 | h8 | h8 | h8 | h8 | h8 <;> try (exfalso; omega)
  · simp [progR, h8] at he ⊢
    simp only [subR, he, decide_true, cond_true]
    exact sub_valid hn he
  · simp [progR, h8] at he ⊢
    obtain ⟨k, hk⟩ := av_id he
    rw [hk] at he ⊢
    rw [av_eq he]
    exact (av_set (Int.le_refl 0) he).1
  · simp [progR, h8] at he ⊢
    exact (as_valid he).1
  · simp [progR, h8] at he ⊢
    obtain ⟨k, hk⟩ := av_id he
    rw [hk] at he ⊢
    rw [av_eq he]
    exact (av_set (Int.le_refl 0) he).1
  · simp [progR, h8] at he ⊢
    obtain ⟨k, hk⟩ := av_id he
    rw [hk] at he ⊢
    rw [av_eq he]
    exact (av_set hn he).1
theorem prog_bk {b : Bk} {m : Tm} {x : Cc} (hx : 0 ≤ x.dv) (hn : 0 ≤ x.now) : (progR b m x).bk = zB ∨ bookE (progR b m x).bk m = 0 := by
  by_cases hd : x.dv.tmod 7 ≤ 4
  · by_cases he : (progR b m x).e = 0
    · exact .inr (prog_valid hx hn hd he)
    · left
      have h8 := tmod7 hx
      rcases h8 with h8 | h8 | h8 | h8 | h8 | h8 | h8 <;> try (exfalso; omega)
      all_goals (simp [progR, h8] at he ⊢; simp [subR, avR, asR, he])
  · left
    have h8 := tmod7 hx
    rcases h8 with h8 | h8 | h8 | h8 | h8 | h8 | h8 <;> try (exfalso; omega)
    all_goals simp [progR, h8]
theorem prog_small {b : Bk} {m : Tm} {x : Cc} (hx : 0 ≤ x.dv) (hn : 0 ≤ x.now) : (progR b m x).bk.os.length ≤ 64 ∧ (progR b m x).bk.q.length ≤ 8 := by
  rcases prog_bk (b := b) (m := m) hx hn with h | h
  · rw [h]; simp [zB]
  · exact book0_len h
structure Tfit (m : Tm) : Prop where
  p : m.p.length < 2 ^ 44
  d : m.d.length < 2 ^ 44
  h : m.h.length < 2 ^ 44
theorem Tfit.fit {b : Bk} {m : Tm} (h : Tfit m) (h0 : b.os.length < 2 ^ 44) (h1 : b.q.length < 2 ^ 44) : Fit b m := ⟨h.p, h.d, h.h, h0, h1⟩
def okCalls (xs : List Cc) : Prop := ∀ x ∈ xs, 0 ≤ x.dv ∧ 0 ≤ x.now
theorem okCalls.at {xs : List Cc} (h : okCalls xs) {k : Nat} {x : Cc} (hx : xs[k]? = some x) : 0 ≤ x.dv ∧ 0 ≤ x.now := h x (List.mem_of_getElem? hx)
/-- The book after the first calls of a script. -/
def plB (m : Tm) (xs : List Cc) : Nat → Bk
  | 0 => zB
  | k + 1 => bif decide ((xs.getD k ⟨0, 0, 0, 0, 0⟩).dv.tmod 7 ≤ 4) && decide ((progR (plB m xs k) m (xs.getD k ⟨0, 0, 0, 0, 0⟩)).e = 0) then (progR (plB m xs k) m (xs.getD k ⟨0, 0, 0, 0, 0⟩)).bk else plB m xs k
theorem plB_step {m : Tm} {xs : List Cc} {k : Nat} {x : Cc} (hx : xs[k]? = some x) : plB m xs (k + 1) = bif decide (x.dv.tmod 7 ≤ 4) && decide ((progR (plB m xs k) m x).e = 0) then (progR (plB m xs k) m x).bk else plB m xs k := by
  simp [plB, List.getD, hx]
theorem plB_ok {m : Tm} {xs : List Cc} (h : okCalls xs) : ∀ k, k ≤ xs.length → plB m xs k = zB ∨ bookE (plB m xs k) m = 0
  | 0, _ => .inl rfl
  | k + 1, hk => by
    obtain ⟨x, hx⟩ := lt_get (xs := xs) (k := k) (by omega)
    obtain ⟨h1, h2⟩ := h.at hx
    rw [plB_step hx]
    cases hd : decide (x.dv.tmod 7 ≤ 4) && decide ((progR (plB m xs k) m x).e = 0)
    · exact plB_ok h k (by omega)
    · simp only [Bool.and_eq_true, decide_eq_true_eq] at hd
      exact .inr (prog_valid h1 h2 hd.1 hd.2)
theorem plB_small {m : Tm} {xs : List Cc} (h : okCalls xs) {k : Nat} (hk : k ≤ xs.length) : (plB m xs k).os.length ≤ 64 ∧ (plB m xs k).q.length ≤ 8 := by
  rcases plB_ok (m := m) h k hk with e | e
  · rw [e]; simp [zB]
  · exact book0_len e
end Go.Proofs.Ytffiicopifmmfaa
