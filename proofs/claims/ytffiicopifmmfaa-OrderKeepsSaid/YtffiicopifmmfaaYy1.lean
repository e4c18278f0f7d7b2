/- Facts of the program over abstract values. No condition. -/
import Derived.Test.YtffiicopifmmfaaYl
import Derived.Test.YtffiicopifmmfaaZq0
import Derived.Test.YtffiicopifmmfaaOrAl2
set_option linter.unusedSimpArgs false
set_option linter.unusedVariables false
set_option maxRecDepth 8000
namespace Go.Proofs.Ytffiicopifmmfaa
set_option linter.unusedSimpArgs false
set_option linter.unusedVariables false
set_option linter.unnecessarySimpa false
set_option linter.unusedSectionVars false
open Go.Proofs.Try
open Go.Proofs.Ytffiicopifmmfaa.Ai
set_option maxHeartbeats 4000000

/-! What is queued, call by call -/
theorem q_self {b : Bk} {m : Tm} {k : Nat} {st now : Int} (hn : 0 ≤ now) (h : avE b m ((k : Int) + 1) st now = 0) (hs : st = 3 ∨ st = 4) : (avR b m ((k : Int) + 1) st now).q = b.q := by
  obtain ⟨h0, hk, ha⟩ := av0 h
  obtain ⟨_, v2⟩ := av_set hn h
  obtain ⟨_, _, _, c4, c5, c6, _⟩ := adv0 hn ha
  rw [av_eq h, v2]
  obtain ⟨_, q2, q3, _⟩ := book0 h0
  simp only [ordsB, queB, Bool.and_eq_true, decide_eq_true_eq] at q2 q3
  apply List.filter_eq_self.2
  intro y hy
  simp only [decide_eq_true_eq]
  intro e
  rw [q3.2, e] at hy
  obtain ⟨_, hq⟩ := (nwU_mem _).1 hy
  have : b.os.getD k default = ordAt b ((k : Int) + 1) := by simp [List.getD, hk]
  rw [this] at hq
  simp only [isQ, decide_eq_true_eq] at hq
  omega
theorem q_has {b : Bk} {m : Tm} {k : Nat} {now : Int} (hn : 0 ≤ now) (h : avE b m ((k : Int) + 1) 5 now = 0) : (k : Int) + 1 ∈ b.q := by
  obtain ⟨h0, hk, ha⟩ := av0 h
  obtain ⟨_, _, _, c4, c5, c6, _⟩ := adv0 hn ha
  obtain ⟨_, q2, q3, _⟩ := book0 h0
  simp only [ordsB, queB, Bool.and_eq_true, decide_eq_true_eq] at q2 q3
  rw [q3.2]
  refine (nwU_mem _).2 ⟨(List.getElem?_eq_some_iff.1 hk).1, ?_⟩
  have : b.os.getD k default = ordAt b ((k : Int) + 1) := by simp [List.getD, hk]
  rw [this]
  simp only [isQ, decide_eq_true_eq]
  omega
theorem q_pair {b : Bk} {m : Tm} (h : bookE b m = 0) : b.q.Pairwise (· < ·) := by
  obtain ⟨_, _, q3, _⟩ := book0 h
  simp only [queB, Bool.and_eq_true, decide_eq_true_eq] at q3
  rw [q3.2]; exact (nwU_lt _).1
theorem filt_len {x : Int} : ∀ {l : List Int}, l.Pairwise (· < ·) → x ∈ l → (l.filter fun i => decide (¬ i = x)).length + 1 = l.length
  | [], _, h => by cases h
  | y :: l, hp, h => by
    rw [List.pairwise_cons] at hp
    by_cases e : y = x
    · subst e
      have : (l.filter fun i => decide (¬ i = y)) = l := List.filter_eq_self.2 fun z hz => by have := hp.1 z hz; simp; omega
      rw [List.filter_cons]
      simp only [decide_not, decide_true, Bool.not_true, Bool.false_eq_true, if_false]
      simp only [decide_not] at this
      rw [this]; rfl
    · have hm : x ∈ l := by rcases List.mem_cons.1 h with h | h; exact absurd h.symm e; exact h
      have := filt_len hp.2 hm
      rw [List.filter_cons, if_pos (by simp [e])]
      simp only [List.length_cons]; omega
theorem keep0 {b : Bk} {m : Tm} {x : Cc} (h8 : x.dv.tmod 7 = 0) (he : (progR b m x).e = 0) : (progR b m x).id = (b.os.length : Int) + 1 ∧ (progR b m x).bk.os.length = b.os.length + 1 ∧ (progR b m x).bk.q = b.q ++ [(b.os.length : Int) + 1] := by
  simp [progR, h8] at he ⊢
  simp [subI, subR, he, subB]
theorem keep2 {b : Bk} {m : Tm} {x : Cc} (h8 : x.dv.tmod 7 = 2) (he : (progR b m x).e = 0) : (progR b m x).bk.os.length = b.os.length ∧ b.q = (progR b m x).id :: (progR b m x).bk.q ∧ (progR b m x).id ≤ b.os.length := by
  simp [progR, h8] at he ⊢
  obtain ⟨v, k, hq, hi, hr, ha⟩ := as_valid he
  have hk := (List.getElem?_eq_some_iff.1 (av0 ha).2.1).1
  exact ⟨by rw [hr, avB_len], by rw [hi]; exact hq, by rw [hi]; omega⟩
theorem keep1 {b : Bk} {m : Tm} {x : Cc} (h8 : x.dv.tmod 7 = 1) (he : (progR b m x).e = 0) : (progR b m x).bk.os.length = b.os.length ∧ (progR b m x).bk.q = (b.q.filter fun i => decide (¬ i = x.id)) ∧ x.id ∈ b.q := by
  simp [progR, h8] at he ⊢
  obtain ⟨k, hk⟩ := av_id he
  rw [hk] at he ⊢
  obtain ⟨_, v2⟩ := av_set (Int.le_refl 0) he
  rw [av_eq he]
  refine ⟨avB_len, ?_, q_has (Int.le_refl 0) he⟩
  rw [v2]
  simp
theorem keep34 {b : Bk} {m : Tm} {x : Cc} (hn : 0 ≤ x.now) (h8 : x.dv.tmod 7 = 3 ∨ x.dv.tmod 7 = 4) (he : (progR b m x).e = 0) : (progR b m x).bk.os.length = b.os.length ∧ (progR b m x).bk.q = b.q := by
  rcases h8 with h8 | h8
  · simp [progR, h8] at he ⊢
    obtain ⟨k, hk⟩ := av_id he
    rw [hk] at he ⊢
    refine ⟨by rw [av_eq he, avB_len], q_self (Int.le_refl 0) he (.inl rfl)⟩
  · simp [progR, h8] at he ⊢
    obtain ⟨k, hk⟩ := av_id he
    rw [hk] at he ⊢
    refine ⟨by rw [av_eq he, avB_len], q_self hn he (.inr rfl)⟩
def okC7 (m : Tm) (b : Bk) (x : Cc) : Bool := decide (x.dv.tmod 7 ≤ 4) && decide ((progR b m x).e = 0)
abbrev dCc : Cc := ⟨0, 0, 0, 0, 0⟩
/-- The last order that was assigned. -/
def laU (m : Tm) (xs : List Cc) : Nat → Int
  | 0 => 0
  | k + 1 => bif okC7 m (plB m xs k) (xs.getD k dCc) && decide ((xs.getD k dCc).dv.tmod 7 = 2) then (progR (plB m xs k) m (xs.getD k dCc)).id else laU m xs k
theorem laU_step {m : Tm} {xs : List Cc} {k : Nat} {x : Cc} (hx : xs[k]? = some x) : laU m xs (k + 1) = bif okC7 m (plB m xs k) x && decide (x.dv.tmod 7 = 2) then (progR (plB m xs k) m x).id else laU m xs k := by
  simp [laU, List.getD, hx]
/-- What lies before the waiting ones in their memory (none: no memory yet). -/
def juU (m : Tm) (xs : List Cc) : Nat → Option (List Int)
  | 0 => none
  | k + 1 => bif okC7 m (plB m xs k) (xs.getD k dCc) then
      (if (xs.getD k dCc).dv.tmod 7 = 0 then some []
       else if (xs.getD k dCc).dv.tmod 7 = 1 then (if (progR (plB m xs k) m (xs.getD k dCc)).bk.q = [] then none else some [])
       else if (xs.getD k dCc).dv.tmod 7 = 2 then (juU m xs k).map (· ++ [(progR (plB m xs k) m (xs.getD k dCc)).id])
       else juU m xs k) else juU m xs k
theorem juU_step {m : Tm} {xs : List Cc} {k : Nat} {x : Cc} (hx : xs[k]? = some x) : juU m xs (k + 1) = bif okC7 m (plB m xs k) x then
      (if x.dv.tmod 7 = 0 then some []
       else if x.dv.tmod 7 = 1 then (if (progR (plB m xs k) m x).bk.q = [] then none else some [])
       else if x.dv.tmod 7 = 2 then (juU m xs k).map (· ++ [(progR (plB m xs k) m x).id])
       else juU m xs k) else juU m xs k := by
  simp [juU, List.getD, hx]
theorem ke_inv {m : Tm} {xs : List Cc} (h : okCalls xs) : ∀ k, k ≤ xs.length → (juU m xs k = none → (plB m xs k).q = []) ∧ 0 ≤ laU m xs k ∧ laU m xs k ≤ (plB m xs k).os.length ∧ ∀ y ∈ (plB m xs k).q, laU m xs k < y
  | 0, _ => ⟨fun _ => rfl, Int.le_refl 0, by simp [laU], nofun⟩
  | k + 1, hk => by
    obtain ⟨h1, h2, h3, h4⟩ := ke_inv h k (by omega)
    obtain ⟨x, hx⟩ := lt_get (xs := xs) (k := k) (by omega)
    obtain ⟨n1, n2⟩ := h.at hx
    rw [juU_step hx, laU_step hx, plB_step hx]
    have hok : okC7 m (plB m xs k) x = (decide (x.dv.tmod 7 ≤ 4) && decide ((progR (plB m xs k) m x).e = 0)) := rfl
    rw [← hok]
    cases hc : okC7 m (plB m xs k) x
    · exact ⟨h1, h2, h3, h4⟩
    rw [hc] at hok
    simp only [Bool.true_eq, Bool.and_eq_true, decide_eq_true_eq] at hok
    obtain ⟨o1, o2⟩ := hok
    have hv := prog_valid n1 n2 o1 o2
    have h8 := tmod7 n1
    rcases h8 with h8 | h8 | h8 | h8 | h8 | h8 | h8 <;> try (exfalso; omega)
    · obtain ⟨k1, k2, k3⟩ := keep0 h8 o2
      simp only [h8, cond_true, Bool.true_and, k2, k3]
      refine ⟨by simp, h2, by simp; omega, fun y hy => ?_⟩
      simp only [List.mem_append, List.mem_singleton] at hy
      rcases hy with hy | rfl
      · exact h4 y hy
      · simp; omega
    · obtain ⟨k1, k2, k3⟩ := keep1 h8 o2
      simp only [h8, cond_true, Bool.true_and, k1]
      refine ⟨?_, h2, h3, fun y hy => ?_⟩
      · intro hn
        by_cases hq : (progR (plB m xs k) m x).bk.q = []
        · exact hq
        · simp [hq] at hn
      · rw [k2] at hy; exact h4 y (List.mem_filter.1 hy).1
    · obtain ⟨k1, k2, k3⟩ := keep2 h8 o2
      have hb : bookE (plB m xs k) m = 0 := by
        rcases plB_ok (m := m) h k (by omega) with e | e
        · rw [e] at k2; simp [zB] at k2
        · exact e
      have hp := q_pair hb
      rw [k2, List.pairwise_cons] at hp
      simp only [h8, cond_true, Bool.true_and, k1, decide_true]
      refine ⟨?_, ?_, k3, fun y hy => hp.1 y hy⟩
      · intro hn
        simp at hn
        have := h1 hn
        rw [this] at k2; simp at k2
      · have := h4 (progR (plB m xs k) m x).id (by rw [k2]; simp)
        omega
    all_goals
      obtain ⟨k1, k2⟩ := keep34 n2 (by omega) o2
      simp only [h8, cond_true, Bool.true_and, k1, k2]
      exact ⟨by simpa using h1, h2, h3, h4⟩
end Go.Proofs.Ytffiicopifmmfaa
