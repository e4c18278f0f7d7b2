/- Facts of the program over abstract values. No condition. -/
import Derived.Test.YtffiicopifmmfaaZo
set_option linter.unusedSimpArgs false
set_option linter.unusedVariables false
set_option maxRecDepth 8000
namespace Go.Proofs.Ytffiicopifmmfaa
set_option linter.unusedSimpArgs false
set_option linter.unusedVariables false
set_option linter.unnecessarySimpa false
set_option linter.unusedSectionVars false
open Go.Proofs.Try
open Go.Proofs.Ytffiicopifmmfaa.Ai
set_option maxHeartbeats 4000000

/-! What the calls on books return, told as plain values -/
theorem PCall.resT {P : Program} {f : FuncId} {xs cs ds : List AV} (h : PCall P f xs (.tup cs)) (hg : All2 Ge cs ds) : PCall P f xs (.tup ds) := by
  refine ⟨h.enter, fun F w args ho ha => Calls.mono (h.run F w args ho ha) ?_⟩
  rintro e w' ⟨u, rfl, F', h1, h2, h3, h4⟩
  refine ⟨u, rfl, F', h1, h2, h3, ?_⟩
  cases h4 with | tup _ us hs hv =>
  refine .tup ds us (by rw [hs, all2_len hg]) fun j d hd => ?_
  have hj : j < cs.length := by rw [← all2_len hg]; exact (List.getElem?_eq_some_iff.1 hd).1
  exact ge_vr (all2_get hg j _ d (List.getElem?_eq_getElem hj) hd) (hv j _ (List.getElem?_eq_getElem hj))
theorem cl_bk (b : Bk) : Cl (.agg (bkc b)) := by
  rw [cl_agg]
  simp only [List.mem_cons, List.not_mem_nil, or_false, forall_eq_or_imp, forall_eq, cl_int, and_true]
  exact ⟨.ros _ _ (cl_os _), .ros _ _ (cl_is _)⟩
theorem cv_own (b : Bk) : Cv (ownR b) (fun _ => true) (fun i => i) (ownV b) (.agg (bkc b)) := by
  obtain ⟨os, q, cw, cm⟩ := b
  rw [cv_agg]
  refine ⟨cv_slG (r := ⟨6, os.map oc⟩) rfl rfl ⟨rfl, rfl⟩ (by simp) rfl (by simp) (cl_os _), ?_, .int _ _, .int _ _, trivial⟩
  rcases q with _ | ⟨x, l⟩
  · exact .nilsR _
  · exact cv_slG (r := ⟨1, (x :: l).map intc⟩) rfl rfl ⟨rfl, rfl⟩ (by simp) rfl (by simp) (cl_is _)
def zO : O := ⟨0, 0, 0, 0, 0, 0⟩
def zB : Bk := ⟨[], [], 0, 0⟩
theorem ge_zbk : Ge (.agg zbk) (.agg (bkc zB)) := ge_agg ⟨.nil 6, .nil 1, .refl _, .refl _, trivial⟩

def subR (b : Bk) (m : Tm) (p d now : Int) : Bk := bif decide (subE b m p d now = 0) then subB b m p d now else zB
def subI (b : Bk) (m : Tm) (p d now : Int) : Int := bif decide (subE b m p d now = 0) then (b.os.length : Int) + 1 else 0
def avR (b : Bk) (m : Tm) (id st now : Int) : Bk := bif decide (avE b m id st now = 0) then avB b (id - 1).toNat (ordAt b id) st now else zB
def asI (b : Bk) (m : Tm) : Int := bif decide (asE b m = 0) then b.q.headD 0 else 0
def asR (b : Bk) (m : Tm) : Bk := bif decide (asE b m = 0) then avR b m (b.q.headD 0) 2 0 else zB
theorem submit_p {b : Bk} {m : Tm} (h : Fit b m) (p d now : Int) : PCall prog 28 [.agg (tmc m), .agg (bkc b), .int .i64 p, .int .i64 d, .int .u64 now] (.tup [.agg (bkc (subR b m p d now)), .int .i64 (subI b m p d now), .int .i64 (subE b m p d now)]) := by
  by_cases h0 : subE b m p d now = 0
  · have hr := submit_r h p d now h0
    simp only [subR, subI, h0, decide_true, cond_true]
    refine hr.still (cv_tup ▸ ⟨?_, .int _ _, .int _ _, trivial⟩) ?_
    · have hq : (subB b m p d now).q.map intc = (b.q.map intc) ++ [intc ((b.os.length : Int) + 1)] := by simp [subB]
      rw [cv_agg]
      refine ⟨cv_slG (r := ⟨6, (subB b m p d now).os.map oc⟩) rfl rfl ⟨rfl, rfl⟩ (by simp) rfl (by simp [subB]) (cl_os _), cv_slG (r := ⟨1, (subB b m p d now).q.map intc⟩) rfl rfl ⟨rfl, rfl⟩ (by simp) rfl (by simp [subB]) (cl_is _), .int _ _, .int _ _, trivial⟩
    · rw [cl_tup]
      simp only [List.mem_cons, List.not_mem_nil, or_false, forall_eq_or_imp, forall_eq, cl_int, and_true]
      exact cl_bk _
  · have hr := submit_n h p d now h0
    simp only [subR, subI, h0, decide_false, cond_false]
    exact PCall.resT hr ⟨ge_zbk, .refl _, .refl _, trivial⟩
theorem own_p {f : FuncId} {xs : List AV} {b : Bk} (h : RCall prog f xs 0 2 (ownR b) (.tup [ownV b, .int .i64 0])) : PCall prog f xs (.tup [.agg (bkc b), .int .i64 0]) := by
  refine h.still (cv_tup ▸ ⟨cv_own b, .int _ _, trivial⟩) ?_
  rw [cl_tup]
  simp only [List.mem_cons, List.not_mem_nil, or_false, forall_eq_or_imp, forall_eq, cl_int, and_true]
  exact cl_bk _
theorem own_p3 {f : FuncId} {xs : List AV} {b : Bk} {n : Int} (h : RCall prog f xs 0 2 (ownR b) (.tup [ownV b, .int .i64 n, .int .i64 0])) : PCall prog f xs (.tup [.agg (bkc b), .int .i64 n, .int .i64 0]) := by
  refine h.still (cv_tup ▸ ⟨cv_own b, .int _ _, .int _ _, trivial⟩) ?_
  rw [cl_tup]
  simp only [List.mem_cons, List.not_mem_nil, or_false, forall_eq_or_imp, forall_eq, cl_int, and_true]
  exact cl_bk _
theorem av_id {b : Bk} {m : Tm} {id st now : Int} (h : avE b m id st now = 0) : ∃ k : Nat, id = (k : Int) + 1 := by
  have h1 : ordE b m id = 0 := by
    unfold avE at h
    by_cases h1 : ordE b m id = 0
    · exact h1
    · simp [h1] at h
  obtain ⟨_, k, hk, _⟩ := ord0 h1
  exact ⟨k, hk⟩
theorem cancel_p {b : Bk} {m : Tm} (h : Fit b m) (id : Int) : PCall prog 46 [.agg (tmc m), .agg (bkc b), .int .i64 id] (.tup [.agg (bkc (avR b m id 5 0)), .int .i64 (avE b m id 5 0)]) := by
  by_cases h0 : avE b m id 5 0 = 0
  · obtain ⟨k, rfl⟩ := av_id h0
    simp only [avR, h0, decide_true, cond_true, show ((k : Int) + 1 - 1).toNat = k by omega]
    exact own_p (cancel_r h k h0)
  · simp only [avR, h0, decide_false, cond_false]
    exact PCall.resT (cancel_n h id h0) ⟨ge_zbk, .refl _, trivial⟩
theorem carry_p {b : Bk} {m : Tm} (h : Fit b m) (id : Int) : PCall prog 51 [.agg (tmc m), .agg (bkc b), .int .i64 id] (.tup [.agg (bkc (avR b m id 3 0)), .int .i64 (avE b m id 3 0)]) := by
  by_cases h0 : avE b m id 3 0 = 0
  · obtain ⟨k, rfl⟩ := av_id h0
    simp only [avR, h0, decide_true, cond_true, show ((k : Int) + 1 - 1).toNat = k by omega]
    exact own_p (carry_r h k h0)
  · simp only [avR, h0, decide_false, cond_false]
    exact PCall.resT (carry_n h id h0) ⟨ge_zbk, .refl _, trivial⟩
theorem doneO_p {b : Bk} {m : Tm} (h : Fit b m) (id now : Int) : PCall prog 52 [.agg (tmc m), .agg (bkc b), .int .i64 id, .int .u64 now] (.tup [.agg (bkc (avR b m id 4 now)), .int .i64 (avE b m id 4 now)]) := by
  by_cases h0 : avE b m id 4 now = 0
  · obtain ⟨k, rfl⟩ := av_id h0
    simp only [avR, h0, decide_true, cond_true, show ((k : Int) + 1 - 1).toNat = k by omega]
    exact own_p (done_r h k now h0)
  · simp only [avR, h0, decide_false, cond_false]
    exact PCall.resT (done_n h id now h0) ⟨ge_zbk, .refl _, trivial⟩
theorem as0 {b : Bk} {m : Tm} (h : asE b m = 0) : bookE b m = 0 ∧ ∃ (k : Nat) (j : List Int), b.q = ((k : Int) + 1) :: j ∧ avE b m ((k : Int) + 1) 2 0 = 0 := by
  by_cases h0 : bookE b m = 0
  · refine ⟨h0, ?_⟩
    simp only [asE, h0, decide_true, cond_true] at h
    rcases hq : b.q with _ | ⟨i, j⟩
    · rw [hq] at h; simp at h
    · rw [hq] at h
      simp only at h
      obtain ⟨k, rfl⟩ := av_id h
      exact ⟨k, j, rfl, h⟩
  · simp [asE, h0] at h
theorem assign_p {b : Bk} {m : Tm} (h : Fit b m) : PCall prog 44 [.agg (tmc m), .agg (bkc b)] (.tup [.agg (bkc (asR b m)), .int .i64 (asI b m), .int .i64 (asE b m)]) := by
  by_cases h0 : asE b m = 0
  · obtain ⟨hb, k, j, hq, ha⟩ := as0 h0
    simp only [asR, asI, avR, h0, hq, ha, List.headD_cons, decide_true, cond_true, show ((k : Int) + 1 - 1).toNat = k by omega]
    exact own_p3 (assign_r h k j hq hb ha)
  · simp only [asR, asI, h0, decide_false, cond_false]
    exact PCall.resT (assign_n h h0) ⟨ge_zbk, .refl _, .refl _, trivial⟩
end Go.Proofs.Ytffiicopifmmfaa
