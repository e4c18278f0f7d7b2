/- Facts of the program over abstract values. No condition. -/
import Derived.Test.YtffiicopifmmfaaZv
import Derived.Test.YtffiicopifmmfaaYb
set_option linter.unusedSimpArgs false
set_option linter.unusedVariables false
set_option maxRecDepth 8000
namespace Go.Proofs.Ytffiicopifmmfaa
set_option linter.unusedSimpArgs false
set_option linter.unusedVariables false
set_option linter.unnecessarySimpa false
set_option linter.unusedSectionVars false
open Go.Proofs.Try
open Go.Proofs.Ytffiicopifmmfaa.Ai
set_option maxHeartbeats 4000000

/-! Books stay valid -/
theorem okU_congr {m : Tm} {os os' : List O} : ∀ k : Nat, (∀ j, j < k → os.getD j default = os'.getD j default) → okU m os k = okU m os' k
  | 0, _ => rfl
  | k + 1, h => by
    simp only [okU, okU_congr k fun j hj => h j (by omega), h k (by omega)]
theorem nwU_congr {p : O → Bool} {os os' : List O} : ∀ k : Nat, (∀ j, j < k → os.getD j default = os'.getD j default) → nwU p os k = nwU p os' k
  | 0, _ => rfl
  | k + 1, h => by
    simp only [nwU, nwU_congr k fun j hj => h j (by omega), h k (by omega)]
theorem getD_app {os : List O} {x : O} {j : Nat} (h : j < os.length) : (os ++ [x]).getD j default = os.getD j default := by
  simp [List.getD, List.getElem?_append_left h]
theorem getD_last {os : List O} {x : O} : (os ++ [x]).getD os.length default = x := by simp [List.getD]
theorem getD_setS {os : List O} {x : O} {k : Nat} (h : k < os.length) : (os.set k x).getD k default = x := by simp [List.getD, h]
theorem getD_setN {os : List O} {x : O} {k j : Nat} (h : j ≠ k) : (os.set k x).getD j default = os.getD j default := by simp [List.getD, List.getElem?_set, h.symm]
theorem win_le {now w : Int} (h0 : 0 ≤ now) (h1 : now ≤ 4611686018427387904) (hw : 1 ≤ w) (hw2 : w ≤ 64) : 0 ≤ winN now w ∧ winN now w ≤ 4611686018427387904 := by
  have h2 : now.tdiv w = now / w := Int.tdiv_eq_ediv_of_nonneg h0
  have h3 : now / w ≤ now := Int.ediv_le_self _ h0
  have h4 : 0 ≤ now / w := Int.ediv_nonneg h0 (by omega)
  rw [winN, wrap_small hw hw2, h2, IntWalk.u64_in _ (by omega)]
  omega
theorem tak_ok {cw cm w q now : Int} (h0 : 0 ≤ now) (h : takE cw cm w q now = 0) : cntE (takW cw cm w q now) (takM cw cm w q now) w q = 0 := by
  have ha : askE cw cm w q now = 0 := by
    by_cases ha : askE cw cm w q now = 0
    · exact ha
    · simp [takE, ha] at h
  have hr : ¬ remN cw cm w q now = 0 := by
    intro hr
    simp [takE, ha, hr] at h
  obtain ⟨hc, hn⟩ := ask0 ha
  obtain ⟨k1, k2⟩ := cnt0 hc
  obtain ⟨w1, w2, w3, w4⟩ := okW_of k1
  obtain ⟨i1, i2⟩ := inN_of (now := now) (w := w) k2 (by omega)
  obtain ⟨v1, v2⟩ := win_le h0 hn w1 w2
  simp only [remN, ha, decide_true, cond_true] at hr
  simp only [cntE, k1, cond_true, takW, takM, h, decide_true, okC, inB]
  rw [show (decide (winN now w ≤ 4611686018427387904)) = true by simpa using v2, show decide (0 ≤ inN cw cm w now + 1) = true by simp; omega, show decide (inN cw cm w now + 1 ≤ q) = true by simp; omega]
  rfl
theorem sub_valid {b : Bk} {m : Tm} {p d now : Int} (hn : 0 ≤ now) (h : subE b m p d now = 0) : bookE (subB b m p d now) m = 0 := by
  obtain ⟨h0, hs, hnow, h64, hqu, ht, hc⟩ := sub_new h
  obtain ⟨q1, q2, q3, q4⟩ := book0 h0
  simp only [ordsB, queB, Bool.and_eq_true, decide_eq_true_eq] at q2 q3
  have hk := tak_ok hn ht
  have e1 : okU m (b.os ++ [⟨(b.os.length : Int) + 1, p, d, 1, now, 0⟩]) b.os.length = true := by
    rw [okU_congr (os' := b.os) _ fun j hj => getD_app hj]; exact q2.2
  have e2 : nwU isQ (b.os ++ [⟨(b.os.length : Int) + 1, p, d, 1, now, 0⟩]) b.os.length = b.q := by
    rw [nwU_congr (os' := b.os) _ fun j hj => getD_app hj]; exact q3.2.symm
  have a1 : ordsB m (subB b m p d now).os = true := by
    have hl := q2.1
    simp [ordsB, subB, okU, e1, okO, hc, hs]
    omega
  have a2 : queB (subB b m p d now) m = true := by
    simp only [queB, subB, List.length_append, List.length_singleton, nwU, e2, getD_last, isQ, decide_true, cond_true, Bool.and_eq_true, decide_eq_true_eq, and_true]
    have := q3.1; omega
  simp only [bookE, q1, a1, a2, cond_true, Bool.true_and]
  simp only [subB, hk, decide_true, cond_true]
theorem av0 {b : Bk} {m : Tm} {k : Nat} {st now : Int} (h : avE b m ((k : Int) + 1) st now = 0) : bookE b m = 0 ∧ b.os[k]? = some (ordAt b ((k : Int) + 1)) ∧ advE (ordAt b ((k : Int) + 1)) st now = 0 := by
  have h1 : ordE b m ((k : Int) + 1) = 0 := by
    unfold avE at h
    by_cases h1 : ordE b m ((k : Int) + 1) = 0
    · exact h1
    · simp [h1] at h
  obtain ⟨h0, k', hk', hk⟩ := ord0 h1
  obtain rfl : k' = k := by omega
  exact ⟨h0, hk, by simpa [avE, h1] using h⟩
theorem chk0 {i p d s a f : Int} : chkE i p d s a f = 0 ↔ (1 ≤ i ∧ i ≤ 64) ∧ ((0 ≤ p ∧ p ≤ 2) ∧ 0 ≤ d ∧ d ≤ 2) ∧ (1 ≤ s ∧ s ≤ 5) ∧ a ≤ 4611686018427387904 ∧ ((s = 4 ∧ 1 ≤ f ∧ f ≤ 4611686018427387904) ∨ (s ≠ 4 ∧ f = 0)) := by
  unfold chkE
  cases ho : orderB i p d s a f <;> simp only [orderB, inB, stateB, doneB, Bool.and_eq_true, Bool.and_eq_false_iff, decide_eq_true_eq, decide_eq_false_iff_not, cond_true, cond_false] at ho ⊢ <;> by_cases h4 : s = 4 <;> simp [h4] at ho ⊢ <;> omega
theorem adv0 {o : O} {st now : Int} (hn : 0 ≤ now) (h : advE o st now = 0) : chkE o.i o.p o.d o.s o.a o.f = 0 ∧ chkE o.i o.p o.d st o.a (selI (decide (st = 4)) now o.f) = 0 ∧ ¬ st = 1 ∧ (o.s = 1 ↔ st = 2 ∨ st = 5) ∧ (o.s = 2 ↔ st = 3) ∧ (o.s = 3 ↔ st = 4) ∧ o.f = 0 := by
  unfold advE at h
  by_cases hc : chkE o.i o.p o.d o.s o.a o.f = 0
  case neg => simp [hc] at h
  simp only [hc, decide_true, cond_true] at h
  cases ha : argB st now
  case false => simp [ha] at h
  cases hf : followsB o.s st
  case false => simp [ha, hf] at h
  refine ⟨hc, ?_⟩
  rw [chk0] at hc ⊢
  obtain ⟨c1, c2, c3, c4, c5⟩ := hc
  simp only [argB, stateB, Bool.and_eq_true, Bool.not_eq_true', Bool.and_eq_false_iff, decide_eq_true_eq, decide_eq_false_iff_not] at ha
  unfold followsB at hf
  obtain ⟨⟨a1, a2⟩, a3⟩ := ha
  have hst : st = 1 ∨ st = 2 ∨ st = 3 ∨ st = 4 ∨ st = 5 := by omega
  rcases hst with rfl | rfl | rfl | rfl | rfl <;> simp [selI] at hf a3 ⊢ <;> omega
theorem nwU_set {os : List O} {k : Nat} {x : O} (hk : k < os.length) (hx : isQ x = false) : ∀ n, nwU isQ (os.set k x) n = (nwU isQ os n).filter fun i => decide (¬ i = (k : Int) + 1)
  | 0 => rfl
  | n + 1 => by
    simp only [nwU, List.filter_append, nwU_set hk hx n]
    congr 1
    by_cases hn : n = k
    · subst hn
      rw [getD_setS hk, hx]
      cases isQ (os.getD n default) <;> simp
    · rw [getD_setN hn]
      have : ¬ ((n : Int) + 1 = (k : Int) + 1) := by omega
      cases isQ (os.getD n default) <;> simp [List.filter, this]
theorem okU_set {m : Tm} {os : List O} {k : Nat} {x : O} (hk : k < os.length) (hx : okO m k x = true) : ∀ n, okU m os n = true → okU m (os.set k x) n = true
  | 0, _ => rfl
  | n + 1, h => by
    simp only [okU, Bool.and_eq_true] at h ⊢
    refine ⟨okU_set hk hx n h.1, ?_⟩
    by_cases hn : n = k
    · subst hn; rw [getD_setS hk]; exact hx
    · rw [getD_setN hn]; exact h.2
theorem av_set {b : Bk} {m : Tm} {k : Nat} {st now : Int} (hn : 0 ≤ now) (h : avE b m ((k : Int) + 1) st now = 0) :
    bookE (avB b k (ordAt b ((k : Int) + 1)) st now) m = 0 ∧ (avB b k (ordAt b ((k : Int) + 1)) st now).q = b.q.filter fun i => decide (¬ i = (k : Int) + 1) := by
  obtain ⟨h0, hk, ha⟩ := av0 h
  obtain ⟨c1, c2, c3, _⟩ := adv0 hn ha
  obtain ⟨q1, q2, q3, q4⟩ := book0 h0
  simp only [ordsB, queB, Bool.and_eq_true, decide_eq_true_eq] at q2 q3
  have hlt : k < b.os.length := (List.getElem?_eq_some_iff.1 hk).1
  have ho := okU_at hk q2.2
  simp only [okO, Bool.and_eq_true, decide_eq_true_eq] at ho
  have hx : isQ (advO (ordAt b ((k : Int) + 1)) st now) = false := by simp [isQ, advO, c3]
  have hok : okO m k (advO (ordAt b ((k : Int) + 1)) st now) = true := by
    rw [ho.1.1] at c2
    simp [okO, advO, ho.1.1, c2, ho.2]
  have hq : (avB b k (ordAt b ((k : Int) + 1)) st now).q = b.q.filter fun i => decide (¬ i = (k : Int) + 1) := by
    simp only [avB]
    rw [nwU_set hlt hx, ← q3.2]
  have a1 : ordsB m (avB b k (ordAt b ((k : Int) + 1)) st now).os = true := by
    simp only [ordsB, avB, List.length_set, Bool.and_eq_true, decide_eq_true_eq]
    exact ⟨q2.1, okU_set hlt hok _ q2.2⟩
  have a2 : queB (avB b k (ordAt b ((k : Int) + 1)) st now) m = true := by
    simp only [queB, Bool.and_eq_true, decide_eq_true_eq]
    refine ⟨?_, by simp [avB]⟩
    rw [hq]
    have := List.length_filter_le (fun i => decide (¬ i = (k : Int) + 1)) b.q
    omega
  refine ⟨?_, hq⟩
  simp only [bookE, q1, a1, a2, cond_true, Bool.true_and]
  simp only [avB, q4, decide_true, cond_true]
theorem av_eq {b : Bk} {m : Tm} {k : Nat} {st now : Int} (h : avE b m ((k : Int) + 1) st now = 0) : avR b m ((k : Int) + 1) st now = avB b k (ordAt b ((k : Int) + 1)) st now := by
  simp only [avR, h, decide_true, cond_true, show ((k : Int) + 1 - 1).toNat = k by omega]
theorem nwU_lt {p : O → Bool} {os : List O} : ∀ n, (nwU p os n).Pairwise (· < ·) ∧ ∀ y ∈ nwU p os n, 1 ≤ y ∧ y ≤ n
  | 0 => by simp [nwU]
  | n + 1 => by
    obtain ⟨h1, h2⟩ := nwU_lt (p := p) (os := os) n
    simp only [nwU]
    cases p (os.getD n default)
    · simp only [cond_false, List.append_nil]
      exact ⟨h1, fun y hy => by have := h2 y hy; omega⟩
    · simp only [cond_true]
      refine ⟨List.pairwise_append.2 ⟨h1, by simp, fun a ha c hc => ?_⟩, fun y hy => ?_⟩
      · have := h2 a ha; simp at hc; omega
      · simp only [List.mem_append, List.mem_singleton] at hy
        rcases hy with hy | rfl
        · have := h2 y hy; omega
        · omega
theorem nwU_mem {p : O → Bool} {os : List O} {k : Nat} : ∀ n, ((k : Int) + 1 ∈ nwU p os n) ↔ k < n ∧ p (os.getD k default) = true
  | 0 => by simp [nwU]
  | n + 1 => by
    simp only [nwU, List.mem_append, nwU_mem n]
    by_cases hn : k = n
    · subst hn
      cases p (os.getD k default) <;> simp
    · have h1 : k < n + 1 ↔ k < n := by omega
      cases p (os.getD n default) <;> simp [h1]
      omega
theorem fit_of {b : Bk} {m : Tm} {b' : Bk} (h : Fit b m) (h0 : bookE b' m = 0) : Fit b' m := by
  obtain ⟨l1, l2⟩ := book0_len h0
  exact ⟨h.p, h.d, h.h, by omega, by omega⟩
theorem as_valid {b : Bk} {m : Tm} (h : asE b m = 0) : bookE (asR b m) m = 0 ∧ ∃ k : Nat, b.q = ((k : Int) + 1) :: (asR b m).q ∧ asI b m = (k : Int) + 1 ∧ asR b m = avB b k (ordAt b ((k : Int) + 1)) 2 0 ∧ avE b m ((k : Int) + 1) 2 0 = 0 := by
  obtain ⟨hb, k, j, hq, ha⟩ := as0 h
  obtain ⟨v1, v2⟩ := av_set (Int.le_refl 0) ha
  have e : asR b m = avB b k (ordAt b ((k : Int) + 1)) 2 0 := by
    simp only [asR, h, hq, List.headD_cons, decide_true, cond_true, av_eq ha]
  refine ⟨e ▸ v1, k, ?_, by simp [asI, h, hq], e, ha⟩
  rw [e, v2]
  obtain ⟨_, _, q3, _⟩ := book0 hb
  simp only [queB, Bool.and_eq_true, decide_eq_true_eq] at q3
  have hp := (nwU_lt (p := isQ) (os := b.os) b.os.length).1
  rw [← q3.2, hq, List.pairwise_cons] at hp
  rw [hq, List.filter_cons]
  simp only [decide_not, decide_true, Bool.not_true, Bool.false_eq_true, if_false]
  congr 1
  symm
  apply List.filter_eq_self.2
  intro y hy
  have := hp.1 y hy
  simp; omega
theorem as_zero {b : Bk} {m : Tm} (h : bookE b m = 0) (hq : b.q ≠ []) : asE b m = 0 := by
  obtain ⟨q1, q2, q3, q4⟩ := book0 h
  simp only [ordsB, queB, Bool.and_eq_true, decide_eq_true_eq] at q2 q3
  rcases hq' : b.q with _ | ⟨i, j⟩
  · exact absurd hq' hq
  have hm : i ∈ nwU isQ b.os b.os.length := by rw [← q3.2, hq']; simp
  have hb := (nwU_lt (p := isQ) (os := b.os) b.os.length).2 i hm
  obtain ⟨k, rfl⟩ : ∃ k : Nat, i = (k : Int) + 1 := ⟨(i - 1).toNat, by omega⟩
  obtain ⟨hk, hs⟩ := (nwU_mem _).1 hm
  obtain ⟨x, hx⟩ := lt_get hk
  have hxx : b.os.getD k default = x := by simp [List.getD, hx]
  rw [hxx] at hs
  have ho := okU_at hx q2.2
  simp only [okO, Bool.and_eq_true, decide_eq_true_eq] at ho
  simp only [isQ, decide_eq_true_eq] at hs
  have hc := ho.1.2
  rw [hs] at hc
  simp only [asE, h, hq', decide_true, cond_true, avE, ordE_in h hk, ordAt_in hx, advE, hc, hs]
  rfl
theorem ordAt_set {b : Bk} {k j : Nat} {o : O} {st now : Int} (hk : k < b.os.length) : ordAt (avB b k o st now) ((j : Int) + 1) = if j = k then advO o st now else ordAt b ((j : Int) + 1) := by
  simp only [ordAt, avB, show ((j : Int) + 1 - 1).toNat = j by omega]
  by_cases h : j = k
  · subst h; rw [getD_setS hk, if_pos rfl]
  · rw [getD_setN h, if_neg h]
theorem as_get {b : Bk} {m : Tm} (h : asE b m = 0) : ordE (asR b m) m (asI b m) = 0 ∧ (ordAt (asR b m) (asI b m)).s = 2 := by
  obtain ⟨v, k, hq, hi, he, ha⟩ := as_valid h
  obtain ⟨h0, hk, _⟩ := av0 ha
  have hlt : k < b.os.length := (List.getElem?_eq_some_iff.1 hk).1
  rw [hi]
  refine ⟨ordE_in v (by rw [he, avB_len]; exact hlt), ?_⟩
  rw [he, ordAt_set hlt, if_pos rfl]
  rfl
theorem get_q {b : Bk} {m : Tm} (h : Fit b m) (id : Int) (h0 : ordE b m id = 0) : PCall prog 45 [.agg (tmc m), .agg (bkc b), .int .i64 id] (.tup [.agg (oc (ordAt b id)), .int .i64 0]) := by
  have := get_r h id
  simp only [h0, decide_true, cond_true] at this
  exact this
end Go.Proofs.Ytffiicopifmmfaa
